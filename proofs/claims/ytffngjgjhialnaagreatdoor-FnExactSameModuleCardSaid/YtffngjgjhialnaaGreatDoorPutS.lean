/-
  What the specification's PutS answers when it is called: the bytes, and behind them the number with its sign in pieces, in new memory.
-/
import Derived.Test.YtffngjgjhialnaaGreatDoorPutU
import Derived.Test.YtffngjgjhialnaaGreatDoorPlainLeb
import Derived.Maps.AppendAt
namespace Go.Proofs.YtffngjgjhialnaaGreatDoor.PutS
open Go.RowKit PlainNum PlainLeb NumCalls ByteMem PutU
set_option maxHeartbeats 2000000 in
theorem spec_putS (w : World) (ad : Addr) (cap : Nat) (bs : List UInt8) (n : Int) (h : RdB w (some ad) bs) (hn : bs.length ≤ 67108864) :
    Calls Tryz.prog 79 #[.slice (some ad) bs.length cap, .int .i64 n] w fun e w' => ∃ v, e = .returned v ∧ Own w.heap.size w' v (bs ++ sleb 5 (wrap32 n)) ∧ Below w.heap.size w w' := by
  obtain ⟨i0, hi, hz0, hz1, hz2⟩ := info_parts info5
  have hw := wrap32_lo n
  have hlen := sleb_length 5 (wrap32 n)
  have hb1 : Below w.heap.size w (w.alloc (.cells #[] 5)) := (Below.refl _ _).alloc (Nat.le_refl _) _
  have hnews : Hid (∀ j u, (Lib.byteCells bs)[j]? = some u → (w.alloc (.cells #[] 5)).cell? (ad.add j) = some u) := news_of (h.later hb1)
  obtain ⟨x, hxe⟩ : ∃ x, wrap32 n = x := ⟨_, rfl⟩
  rw [hxe] at hw hlen ⊢
  clear h
  go_enter Tryz.func79, Tryz.ntmps79
  go_wp2_with (first | (at_builtin; refine wpList_append_own _ rfl (.tmp 6) (.tmp 7) 31 rfl w.heap.size 5 i0 (.int .u8 0) 1 1 Tryz.underlying31 hi hz0 hz1 hz2 rfl (by decide) _ 0 [] rfl ?d0 ad bs.length cap (Lib.byteCells bs) rfl ?d1 ?d2 ?d3 ?d4 ?d5 ?d6 ?_))
  case d0 => exact World.ownsRow_made w #[] 0 (Nat.le_refl _) (by decide) rfl
  case d1 => rw [Lib.byteCells_length, Nat.mul_one]
  case d2 => exact hnews.out
  case d3 => exact Lib.byteCells_one bs
  case d4 => unfold maxLen; omega
  case d5 => omega
  case d6 => simp
  intro v1 w1 hown0 hgrow0 _
  have hown1 : w1.ownsRow w.heap.size 5 1 v1 bs.length (Lib.byteCells bs) := by simpa using hown0
  have hnx0 : Below w.heap.size w w1 := hb1.grown hgrow0 (by simp) (fun k hk => by simp [Value.ownBlock] at hk; omega)
  clear hown0 hgrow0 hnews hb1
  go_wp2_with (go_at_call 74; refine (spec_wrap _ _).mono ?_; rw [hxe]; rintro e w' ⟨rfl, rfl⟩)
  go_loopw [1, 5] (fun vx vb wr => ∃ (y : Int) (k : Nat) (pre : List UInt8), vx = .int .i64 y ∧ (-lim k ≤ y ∧ y < lim k) ∧ (-2147483648 ≤ y ∧ y ≤ 2147483647) ∧ sleb 5 x = pre ++ sleb (k + 1) y ∧ wr.ownsRow w.heap.size 5 1 vb (bs.length + pre.length) (Lib.byteCells bs ++ Lib.byteCells pre) ∧ Below w.heap.size w wr)
    (fun vx _ _ => (intOf vx).natAbs)
  case atStart => exact ⟨x, 4, [], rfl, by simp [lim]; omega, hw, rfl, by simpa [Lib.byteCells] using hown1, hnx0⟩
  case round =>
    obtain ⟨y, k, pre, rfl, hk, hy, hsplit, hown2, hnx⟩ := hrel
    have hyp := sleb_pos k y
    have hpl : pre.length + (sleb (k + 1) y).length ≤ 5 := by
      have h2 := congrArg List.length hsplit
      rw [List.length_append] at h2
      omega
    have hand := and_i64_127 y
    by_cases h64 : -64 ≤ y ∧ y ≤ 63
    · have hsm := sleb_small k h64
      have hb1 : ¬ y < -64 := by omega
      have hb2 : ¬ 63 < y := by omega
      go_wp2_with (at_builtin; refine wpList_append_own _ rfl _ _ 31 rfl w.heap.size 5 i0 (.int .u8 0) 1 1 Tryz.underlying31 hi hz0 hz1 hz2 rfl (by decide) _ _ _ rfl (hown2.alloc _) ⟨wr.heap.size, 0, none⟩ 1 1 [Value.int .u8 (y % 128)] rfl rfl (cell_one_new _ _ _) ?c2 ?c3 ?c4 ?c5 ?_)
      case c2 => simp [Value.oneCell']
      case c3 => unfold maxLen; omega
      case c4 => omega
      case c5 => have := hnx.size; simp; omega
      intro v' w1 hown' hgrow _
      have hnx1 : Below w.heap.size w w1 := (hnx.alloc (by have := hnx.size; omega) _).grown hgrow (by have := hnx.size; simp; omega) (fun k hk => (hown2.lt k hk).1)
      go_wp2_with fail
      go_ret
      refine ⟨v', rfl, ?_, hnx1⟩
      have ey : Lib.byteCells [(y % 128).toNat.toUInt8] = [Value.int .u8 (y % 128)] := by
        have e2 : (((y % 128).toNat.toUInt8.toNat : Nat) : Int) = y % 128 := by rw [toU8 (by omega)]; omega
        simp only [Lib.byteCells, List.map_cons, List.map_nil, e2]
      unfold Own
      rw [hsplit, hsm, List.length_append, List.length_append, List.length_singleton, Lib.byteCells_append, Lib.byteCells_append, ey, ← Nat.add_assoc]
      exact hown'
    · obtain ⟨k, rfl⟩ : ∃ j, k = j + 1 := by
        cases k with
        | zero => simp [lim] at hk; omega
        | succ j => exact ⟨j, rfl⟩
      have hbg := sleb_big (k + 1) h64
      have hst := lim_step hk
      have ey : Lib.byteCells [((y % 128).toNat + 128).toUInt8] = [Value.int .u8 (y % 128 + 128)] := by
        have e2 : ((((y % 128).toNat + 128).toUInt8.toNat : Nat) : Int) = y % 128 + 128 := by rw [toU8 (by omega)]; omega
        simp only [Lib.byteCells, List.map_cons, List.map_nil, e2]
      rcases (show y < -64 ∨ (¬ y < -64 ∧ 63 < y) by omega) with hb | ⟨hb, hb2⟩
      all_goals
        go_wp2_with (at_builtin; refine wpList_append_own _ rfl _ _ 31 rfl w.heap.size 5 i0 (.int .u8 0) 1 1 Tryz.underlying31 hi hz0 hz1 hz2 rfl (by decide) _ _ _ rfl (hown2.alloc _) ⟨wr.heap.size, 0, none⟩ 1 1 [Value.int .u8 (y % 128 + 128)] rfl rfl (cell_one_new _ _ _) ?c2 ?c3 ?c4 ?c5 ?_)
        case c2 => simp [Value.oneCell']
        case c3 => unfold maxLen; omega
        case c4 => omega
        case c5 => have := hnx.size; simp; omega
        intro v' w1 hown' hgrow _
        have hnx1 : Below w.heap.size w w1 := (hnx.alloc (by have := hnx.size; omega) _).grown hgrow (by have := hnx.size; simp; omega) (fun k hk => (hown2.lt k hk).1)
        go_wp2_with fail
        go_roundw
        case rel =>
          refine ⟨y / 128, k, pre ++ [((y % 128).toNat + 128).toUInt8], by go_num, hst, by omega, by rw [hsplit, hbg]; simp, ?_, hnx1⟩
          rw [Lib.byteCells_append, ey, List.length_append, List.length_singleton, ← Nat.add_assoc]
          exact hown'
        case measure => simp [intOf]; omega
end Go.Proofs.YtffngjgjhialnaaGreatDoor.PutS
