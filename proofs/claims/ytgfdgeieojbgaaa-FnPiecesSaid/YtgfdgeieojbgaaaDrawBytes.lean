/-
  The cursor over the bytes of a draw once more: all memory but the cursor's own stays as it was; and the drawing of some bytes.
-/
import Derived.Test.YtgfdgeieojbgaaaDraws
import Derived.Test.YtgfdgeieojbgaaaPutU
import Derived.Test.YtgfdgeieojbgaaaPlainLeb
import Derived.Maps.AppendAt
import Derived.RangeFuncBox
namespace Go.Proofs.Ytgfdgeieojbgaaa.DrawBytes
open Go.RowKit PlainNum PlainLeb NumCalls ByteMem PutU Draws

theorem grow_trans {a b c : World} {row : Option Nat} (h : a.grownBy b row) (k : b.grownBy c row) : a.grownBy c row :=
  ⟨k.os.trans h.os, k.tape.trans h.tape, k.output.trans h.output, Nat.le_trans h.size k.size, fun j hj hne => (k.block j (Nat.lt_of_lt_of_le hj h.size) hne).trans (h.block j hj hne)⟩
theorem grow_set (w : World) (b i : Nat) (v : Value) : w.grownBy (w.setCell ⟨b, i, none⟩ v) (some b) :=
  ⟨rfl, rfl, rfl, (KeepsWalks.setCell w _ v).size, fun k _ hk => Below.heap_setCell _ _ _ k (fun e => hk (by rw [e]))⟩
theorem grow_draw (w : World) (n : Nat) (row : Option Nat) : w.grownBy (w.drewN n) row := ⟨rfl, rfl, rfl, Nat.le_refl _, fun _ _ _ => rfl⟩
theorem grow_one (w : World) (blk : Nat) (h' : Int) (n : Nat) : w.grownBy ((w.setCell ⟨blk, 2, none⟩ (.int .i64 h')).drewN n) (some blk) := grow_trans (grow_set _ _ _ _) (grow_draw _ _ _)
theorem grow_two (w : World) (blk : Nat) (h' i' : Int) (n : Nat) : w.grownBy (((w.setCell ⟨blk, 2, none⟩ (.int .i64 h')).drewN n).setCell ⟨blk, 1, none⟩ (.int .i64 i')) (some blk) := grow_trans (grow_one _ _ _ _) (grow_set _ _ _ _)
theorem byteG (B blk : Nat) (w : World) (hc : Cur B w blk) :
    Calls Try.prog 43 #[.pointer (some ⟨blk, 0, none⟩)] w fun e w' => ∃ x : Int, e = .returned (.int .i64 x) ∧ 0 ≤ x ∧ x ≤ 255 ∧ Cur B w' blk ∧ Below B w w' ∧ w.grownBy w' (some blk) := by
  have hc' : Hid (Cur B w blk) := hc
  obtain ⟨hB, a, len, cap, i, h, hs, hi, c0, c1, c2, f1, f2⟩ := hc
  by_cases hlt : i < (len : Int)
  · obtain ⟨hm, h0 | ⟨b, off, ha, hbB, hz⟩⟩ := hs
    · omega
    · obtain ⟨z, z0, z1, cz⟩ := hz i.toNat (by omega)
      subst ha
      have hne : ¬ b = blk := by omega
      clear hz
      go_enter Try.func43, Try.ntmps43
      go_wp2
      go_quiet (fail)
      go_wp2
      go_quiet (fail)
      go_wp2
      go_quiet (fail)
      go_wp2
      go_ret
      exact ⟨_, rfl, and255_0 _, and255_1 _, (hc'.out.two _ _ _ (by omega)).1, (hc'.out.two _ _ _ (by omega)).2, grow_two _ _ _ _ _⟩
  · have hd : decide (i < (len : Int)) = false := by simp; omega
    have hm := hs.1
    clear hs
    go_enter Try.func43, Try.ntmps43
    go_wp2
    go_quiet (fail)
    go_wp2
    go_quiet (fail)
    go_wp2
    go_ret
    refine ⟨_, rfl, and255_0 _, and255_1 _, ?_⟩
    rw [World.drewN_drewN]
    exact ⟨(hc'.out.one _ _).1, (hc'.out.one _ _).2, grow_one _ _ _ _⟩
/-- The cursor at block blk, nothing below B has turned since w0, and since w1 nothing but the cursor. -/
def StK (B : Nat) (w0 : World) (blk : Nat) (w1 w : World) : Prop := St B w0 blk w ∧ w1.grownBy w (some blk)
theorem byteK {B blk : Nat} {w0 w1 w : World} (h : StK B w0 blk w1 w) :
    Calls Try.prog 43 #[.pointer (some ⟨blk, 0, none⟩)] w fun e w' => ∃ x : Int, e = .returned (.int .i64 x) ∧ 0 ≤ x ∧ x ≤ 255 ∧ StK B w0 blk w1 w' :=
  (byteG B blk w h.1.1).mono fun _ _ ⟨x, he, x0, x1, hc, hb, hg⟩ => ⟨x, he, x0, x1, ⟨hc, h.1.2.trans hb⟩, grow_trans h.2 hg⟩
theorem belowK {B blk : Nat} {w0 w1 w : World} (n : Int) (h : StK B w0 blk w1 w) :
    Calls Try.prog 42 #[.pointer (some ⟨blk, 0, none⟩), .int .i64 n] w fun e w' => ∃ x : Int, e = .returned (.int .i64 x) ∧ 0 ≤ x ∧ (0 < n → x < n) ∧ StK B w0 blk w1 w' := by
  by_cases h0 : n ≤ 0
  · go_enter Try.func42, Try.ntmps42
    go_wp2
    go_ret
    exact ⟨_, rfl, Int.le_refl _, fun hn => by omega, h⟩
  · by_cases h1 : n ≤ 256
    · have h2 : 1 ≤ n := by omega
      have h3 : ¬ n = 0 := by omega
      go_enter Try.func42, Try.ntmps42
      go_wp2_with (go_at_call 43; refine (byteK (B := B) (blk := blk) (w0 := w0) (w1 := w1) ?_).mono ?_; assumption; rintro e w' ⟨x, rfl, x0, x1, hst⟩)
      go_ret
      exact ⟨_, rfl, Int.emod_nonneg _ h3, fun _ => Int.emod_lt_of_pos _ (by omega), by assumption⟩
    · have h2 : 257 ≤ n := by omega
      have h3 : ¬ n = 0 := by omega
      go_enter Try.func42, Try.ntmps42
      go_wp2_with (go_at_call 43; refine (byteK (B := B) (blk := blk) (w0 := w0) (w1 := w1) ?_).mono ?_; assumption; rintro e w' ⟨x, rfl, x0, x1, hst⟩)
      go_ret
      exact ⟨_, rfl, Int.emod_nonneg _ h3, fun _ => Int.emod_lt_of_pos _ (by omega), by assumption⟩
theorem rawK {B blk : Nat} {w0 w1 w : World} (h : StK B w0 blk w1 w) :
    Calls Try.prog 27 #[.pointer (some ⟨blk, 0, none⟩)] w fun e w' => ∃ x : Int, e = .returned (.int .i64 x) ∧ StK B w0 blk w1 w' := by
  go_enter Try.func27, Try.ntmps27
  go_wp2_with (go_at_call 42; refine (belowK (B := B) (blk := blk) (w0 := w0) (w1 := w1) _ ?_).mono ?_; assumption; rintro e w' ⟨x, rfl, x0, x1, hst⟩; replace x1 := x1 (by decide))
  all_goals (go_ret; exact ⟨_, rfl, by assumption⟩)
/-- The cursor outlives what is done to memory beyond it. -/
theorem st_past {B blk B' : Nat} {w0 w w' : World} (h : St B w0 blk w) (hb : Below B' w w') (hB : B ≤ B') (hlt : blk < B') : St B w0 blk w' := by
  obtain ⟨⟨hB1, a, len, cap, i, h', hs, hi, c0, c1, c2, f1, f2⟩, hb0⟩ := h
  have hk : ∀ o, w'.cell? ⟨blk, o, none⟩ = w.cell? ⟨blk, o, none⟩ := fun o => hb.cell (p := ⟨blk, o, none⟩) hlt
  have hblk := hb.block blk hlt
  have hf : ∀ o, w'.frozen? ⟨blk, o, none⟩ = w.frozen? ⟨blk, o, none⟩ := fun o => by simp only [World.frozen?, hblk]
  exact ⟨⟨hB1, a, len, cap, i, h', hs.later (hb.mono hB), hi, (hk 0).trans c0, (hk 1).trans c1, (hk 2).trans c2, (hf 1).trans f1, (hf 2).trans f2⟩, hb0.trans (hb.mono hB)⟩
theorem cur_lt {B blk : Nat} {w : World} (h : Cur B w blk) : blk < w.heap.size := by
  obtain ⟨_, _, _, _, _, _, _, _, c0, _⟩ := h
  exact World.block_lt_of_cell? w _ c0
set_option maxRecDepth 100000 in
set_option maxHeartbeats 4000000 in
theorem bytesS {B blk : Nat} {w0 w : World} (most : Nat) (hm : most ≤ 255) (h : St B w0 blk w) :
    Calls Try.prog 26 #[.pointer (some ⟨blk, 0, none⟩), .int .i64 (most : Int)] w fun e w' => ∃ (v : Value) (bs : List UInt8), e = .returned v ∧ PutU.Own w.heap.size w' v bs ∧ v ≠ .slice none 0 0 ∧ bs.length ≤ most ∧ St B w0 blk w' := by
  obtain ⟨i0, hi, hz0, hz1, hz2⟩ := info_parts info5
  have hlt := cur_lt h.1
  have hBw : B ≤ w.heap.size := Nat.le_of_lt (Nat.lt_of_le_of_lt h.1.1 hlt)
  have h1 : StK B w0 blk (w.alloc (.cells #[] 5)) (w.alloc (.cells #[] 5)) := ⟨st_past h ((Below.refl w.heap.size w).alloc (Nat.le_refl _) _) hBw hlt, World.grownBy.refl _ _⟩
  have o1 : (w.alloc (.cells #[] 5)).ownsRow w.heap.size 5 1 (.slice (some ⟨w.heap.size, 0, none⟩) 0 0) 0 [] := World.ownsRow_made w #[] 0 (Nat.le_refl _) (by decide) rfl
  go_enter Try.func26, Try.ntmps26
  go_wp2_with (go_at_call 42; refine (belowK (B := B) (blk := blk) (w0 := w0) (w1 := w.alloc (.cells #[] 5)) _ h1).mono ?_; rintro e w2 ⟨x, rfl, x0, x1, hst⟩; replace x1 := x1 (by omega))
  have o2 := o1.kept hst.2 (.inr (fun e => by simp [Value.ownBlock] at e; omega))
  obtain ⟨N, rfl⟩ : ∃ N : Nat, x = N := ⟨x.toNat, by omega⟩
  go_loopw [5, 6] (fun vb vn wr => ∃ (k : Nat) (bs : List UInt8), vn = .int .i64 (k : Int) ∧ bs.length + k = N ∧ PutU.Own w.heap.size wr vb bs ∧ vb ≠ .slice none 0 0 ∧ St B w0 blk wr ∧ w.heap.size ≤ wr.heap.size) (fun _ vn _ => (intOf vn).toNat)
  case atStart => exact ⟨N, [], rfl, by simp, o2, by simp, hst.1, by have := hst.2.size; simp at this; omega⟩
  case round =>
    obtain ⟨k, bs, rfl, hk, ho, hv, hs, hsw⟩ := hrel
    by_cases hk0 : k = 0
    · subst hk0
      go_wp2_with fail
      go_ret
      exact ⟨_, bs, rfl, ho, hv, by omega, hs⟩
    · have hkp : (0 : Int) < (k : Int) := by omega
      have hsk : StK B w0 blk wr wr := ⟨hs, World.grownBy.refl _ _⟩
      have hob : ∀ w3, wr.grownBy w3 (some blk) → w3.ownsRow w.heap.size 5 1 _ bs.length (Lib.byteCells bs) := fun w3 hg => ho.kept hg (by
        rcases ho.2 with ⟨e, _⟩ | ⟨g, cap, cur, e, hg, _⟩
        · exact .inl (by rw [e]; rfl)
        · exact .inr (fun e' => by rw [e] at e'; simp [Value.ownBlock] at e'; omega))
      have hob' : Hid (∀ w3, wr.grownBy w3 (some blk) → w3.ownsRow w.heap.size 5 1 _ bs.length (Lib.byteCells bs)) := hob
      clear hob
      go_wp2_with (first | (go_at_call 43; refine (byteK (B := B) (blk := blk) (w0 := w0) (w1 := wr) hsk).mono ?_; rintro e w3 ⟨z, rfl, z0, z1, hst3⟩; have o3 := hob'.out w3 hst3.2; have hz := cur_lt hst3.1.1; have hsz3 := hst3.2.size; have hwz : IntKind.u8.wrap z = z := (by rw [IntKind.wrap_u8]; omega)) | (at_builtin; refine wpList_append_own _ rfl _ _ 22 rfl w.heap.size 5 i0 (.int .u8 0) 1 1 Try.underlying22 hi hz0 hz1 hz2 rfl (by decide) _ _ _ rfl (o3.alloc _) ⟨w3.heap.size, 0, none⟩ 1 1 [Value.int .u8 z] rfl rfl (cell_one_new _ _ _) ?c2 ?c3 ?c4 ?c5 ?_))
      case c2 => simp [Value.oneCell']
      case c3 => unfold maxLen; omega
      case c4 => omega
      case c5 => simp; omega
      intro v' w1 hown' hgrow hnn
      have hb3 : Below w.heap.size w3 w1 := ((Below.refl _ _).alloc (by omega) _).grown hgrow (by simp; omega) (fun j hj => (ho.lt j hj).1)
      have hs1 := st_past hst3.1 hb3 hBw hlt
      have hsz1 := hb3.size
      go_wp2_with fail
      go_roundw
      case rel =>
        refine ⟨k - 1, bs ++ [z.toNat.toUInt8], by go_num, by simp; omega, ?_, hnn, hs1, by omega⟩
        have ez : (((z.toNat.toUInt8).toNat : Nat) : Int) = z := by rw [toU8 (by omega)]; omega
        unfold PutU.Own
        rw [List.length_append, List.length_singleton, Lib.byteCells_append]
        have e2 : Lib.byteCells [z.toNat.toUInt8] = [Value.int .u8 z] := by simp only [Lib.byteCells, List.map_cons, List.map_nil, ez]
        rw [e2]
        exact hown'
      case measure => simp [intOf]; omega
end Go.Proofs.Ytgfdgeieojbgaaa.DrawBytes
