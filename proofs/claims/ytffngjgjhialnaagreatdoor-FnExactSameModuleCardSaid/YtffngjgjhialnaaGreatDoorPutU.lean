/-
  What the specification's PutU answers when it is called: the bytes, and behind them the number in pieces, in new memory.
-/
import Derived.Test.YtffngjgjhialnaaGreatDoorByteMem
import Derived.Shelf.Bin.AppendUvarint
import Derived.OwnWalk
import Derived.Lib.BufferWrite
namespace Go.Proofs.YtffngjgjhialnaaGreatDoor.PutU
open Go.RowKit PlainNum NumCalls ByteMem

/-- A slice that holds the bytes bs. -/
def RdB (w : World) (a : Option Addr) (bs : List UInt8) : Prop := Rd w a bs.length (fun j => ((bs[j]?.getD 0).toNat : Int))
/-- .. in new memory, of block B on. -/
def Own (B : Nat) (w : World) (v : Value) (bs : List UInt8) : Prop := w.ownsRow B 5 1 v bs.length (Lib.byteCells bs)
theorem news_of {w : World} {ad : Addr} {bs : List UInt8} (h : RdB w (some ad) bs) : ∀ j u, (Lib.byteCells bs)[j]? = some u → w.cell? (ad.add j) = some u := by
  intro j u hj
  have hjl : j < bs.length := by
    have := (List.getElem?_eq_some_iff.1 hj).1
    rwa [Lib.byteCells_length] at this
  rcases h.2 with h0 | ⟨b, off, ha, hc⟩
  · omega
  · have e := Option.some.inj ha
    subst e
    have ej : (⟨b, off, none⟩ : Addr).add j = ⟨b, off + j, none⟩ := by cases j <;> simp [Addr.add]
    rw [ej, hc j hjl]
    simp [Lib.byteCells, hjl] at hj
    simp [hjl, hj]
theorem RdB.later {w w' : World} {a : Option Addr} {bs : List UInt8} (h : RdB w a bs) (hb : Below w.heap.size w w') : RdB w' a bs := Rd.later h hb
set_option maxHeartbeats 2000000 in
theorem spec_putU (w : World) (ad : Addr) (cap : Nat) (bs : List UInt8) (n : Int) (h : RdB w (some ad) bs) (hn : bs.length ≤ 67108864) :
    Calls Tryz.prog 76 #[.slice (some ad) bs.length cap, .int .i64 n] w fun e w' => ∃ v, e = .returned v ∧ Own w.heap.size w' v (bs ++ Lib.uvarint (n % 4294967296).toNat) ∧ Below w.heap.size w w' := by
  obtain ⟨i0, hi, hz0, hz1, hz2⟩ := info_parts info5
  have hx : (n % 4294967296).toNat < 18446744073709551616 := by omega
  have hlen := Lib.uvarint_length64 hx
  have hb1 : Below w.heap.size w (w.alloc (.cells #[] 5)) := (Below.refl _ _).alloc (Nat.le_refl _) _
  have hnews : Hid (∀ j u, (Lib.byteCells bs)[j]? = some u → (w.alloc (.cells #[] 5)).cell? (ad.add j) = some u) := news_of (h.later hb1)
  have hxe : n % 4294967296 = (((n % 4294967296).toNat : Nat) : Int) := by omega
  generalize (n % 4294967296).toNat = x at *
  clear h
  go_enter Tryz.func76, Tryz.ntmps76
  go_wp2_with (first | (at_builtin; refine wpList_append_own _ rfl (.tmp 6) (.tmp 7) 31 rfl w.heap.size 5 i0 (.int .u8 0) 1 1 Tryz.underlying31 hi hz0 hz1 hz2 rfl (by decide) _ 0 [] rfl ?d0 ad bs.length cap (Lib.byteCells bs) rfl ?d1 ?d2 ?d3 ?d4 ?d5 ?d6 ?_))
  case d0 => exact World.ownsRow_made w #[] 0 (Nat.le_refl _) (by decide) rfl
  case d1 => rw [Lib.byteCells_length, Nat.mul_one]
  case d2 => exact hnews.out
  case d3 => exact Lib.byteCells_one bs
  case d4 => unfold maxLen; omega
  case d5 => omega
  case d6 => simp
  intro v1 w1 hown0 hgrow0 _
  have hown1 : w1.ownsRow w.heap.size 5 1 v1 bs.length (Lib.byteCells bs) := by simpa using hown0
  have hnx0 : Below w.heap.size w w1 := hb1.grown hgrow0 (by simp) (fun k hk => by simp [Value.ownBlock] at hk; omega)
  clear hown0 hgrow0 hnews hb1
  go_wp2_with (go_at_call 119; refine (spec_plain _ _).mono ?_; rintro e w' ⟨rfl, rfl⟩)
  go_loopw [1, 5] (fun vx vb wr => ∃ (y : Nat) (pre : List UInt8), vx = .int .i64 y ∧ y ≤ x ∧ Lib.uvarint x = pre ++ Lib.uvarint y ∧ wr.ownsRow w.heap.size 5 1 vb (bs.length + pre.length) (Lib.byteCells bs ++ Lib.byteCells pre) ∧ Below w.heap.size w wr)
    (fun vx _ _ => (intOf vx).toNat)
  case atStart => exact ⟨x, [], by simp, Nat.le_refl _, rfl, by simpa [Lib.byteCells] using hown1, hnx0⟩
  case round =>
    obtain ⟨y, pre, rfl, hy, hsplit, hown2, hnx⟩ := hrel
    have hpl : pre.length + (Lib.uvarint y).length ≤ 10 := by
      have h2 := congrArg List.length hsplit
      rw [List.length_append] at h2
      omega
    have hyp := Lib.uvarint_pos y
    by_cases h128 : 128 ≤ y
    · have hb : (127 : Int) < (y : Int) := by omega
      have q2 : (y : Int).tmod 128 = (y : Int) % 128 := Int.tmod_eq_emod_of_nonneg (by omega)
      go_wp2_with (at_builtin; refine wpList_append_own _ rfl _ _ 31 rfl w.heap.size 5 i0 (.int .u8 0) 1 1 Tryz.underlying31 hi hz0 hz1 hz2 rfl (by decide) _ _ _ rfl (hown2.alloc _) ⟨wr.heap.size, 0, none⟩ 1 1 [Value.int .u8 ((y % 128 + 128 : Nat) : Int)] rfl rfl ?c1 ?c2 ?c3 ?c4 ?c5 ?_)
      case c1 =>
        intro j u hj
        match j, hj with
        | 0, hj => simp at hj; subst hj; simp [Addr.add]
      case c2 => intro u hu; simp at hu; subst hu; rfl
      case c3 => unfold maxLen; omega
      case c4 => omega
      case c5 => have := hnx.size; simp; omega
      intro v' w1 hown' hgrow _
      have hnx1 : Below w.heap.size w w1 := (hnx.alloc (by have := hnx.size; omega) _).grown hgrow (by have := hnx.size; simp; omega) (fun k hk => (hown2.lt k hk).1)
      go_wp2_with fail
      go_roundw
      case rel =>
        refine ⟨y / 128, pre ++ [(y % 128 + 128).toUInt8], by go_num, by omega, by rw [hsplit, Lib.uvarint_big h128]; simp, ?_, hnx1⟩
        have ec : ((y % 128 + 128 : Nat) : Int) = (y : Int) % 128 + 128 := by omega
        rw [Lib.byteCells_snoc pre (by omega), List.length_append, List.length_singleton, ← Nat.add_assoc, ec]
        exact hown'
      case measure => simp [intOf]; omega
    · have hsm : Lib.uvarint y = [y.toUInt8] := Lib.uvarint_small (by omega)
      have hb : ¬ (127 : Int) < (y : Int) := by omega
      go_wp2_with (at_builtin; refine wpList_append_own _ rfl _ _ 31 rfl w.heap.size 5 i0 (.int .u8 0) 1 1 Tryz.underlying31 hi hz0 hz1 hz2 rfl (by decide) _ _ _ rfl (hown2.alloc _) ⟨wr.heap.size, 0, none⟩ 1 1 [Value.int .u8 (y : Int)] rfl rfl ?c0 ?c2 ?c3 ?c4 ?c5 ?_)
      case c2 => rfl
      case c3 => unfold maxLen; omega
      case c4 => omega
      case c5 => have := hnx.size; omega
      intro v' w1 hown' hgrow _
      have hnx1 : Below w.heap.size w w1 := (hnx.alloc (by have := hnx.size; omega) _).grown hgrow (by have := hnx.size; simp; omega) (fun k hk => (hown2.lt k hk).1)
      go_wp2_with fail
      go_ret
      refine ⟨v', rfl, ?_, hnx1⟩
      have ey : Lib.byteCells [y.toUInt8] = [Value.int .u8 (y : Int)] := by have := Lib.byteCells_snoc [] (a := y) (by omega); simpa [Lib.byteCells] using this
      unfold Own
      rw [hsplit, hsm, List.length_append, List.length_append, List.length_singleton, Lib.byteCells_append, Lib.byteCells_append, ey, ← Nat.add_assoc]
      exact hown'
end Go.Proofs.YtffngjgjhialnaaGreatDoor.PutU
