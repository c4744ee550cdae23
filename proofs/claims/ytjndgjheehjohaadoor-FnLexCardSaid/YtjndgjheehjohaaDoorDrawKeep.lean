/-
  The cursor over the bytes of a draw once more: all memory but the cursor's own stays as it was.
-/
import Derived.Test.YtjndgjheehjohaaDoorDraws
import Derived.OwnWalk
import Derived.Maps.AppendAt
import Derived.RangeFuncBox
namespace Go.Proofs.YtjndgjheehjohaaDoor.DrawKeep
open Go.RowKit PlainNum NumCalls Draws

theorem grow_trans {a b c : World} {row : Option Nat} (h : a.grownBy b row) (k : b.grownBy c row) : a.grownBy c row :=
  ⟨k.os.trans h.os, k.tape.trans h.tape, k.output.trans h.output, Nat.le_trans h.size k.size, fun j hj hne => (k.block j (Nat.lt_of_lt_of_le hj h.size) hne).trans (h.block j hj hne)⟩
theorem grow_set (w : World) (b i : Nat) (v : Value) : w.grownBy (w.setCell ⟨b, i, none⟩ v) (some b) :=
  ⟨rfl, rfl, rfl, (KeepsWalks.setCell w _ v).size, fun k _ hk => Below.heap_setCell _ _ _ k (fun e => hk (by rw [e]))⟩
theorem grow_draw (w : World) (n : Nat) (row : Option Nat) : w.grownBy (w.drewN n) row := ⟨rfl, rfl, rfl, Nat.le_refl _, fun _ _ _ => rfl⟩
theorem grow_one (w : World) (blk : Nat) (h' : Int) (n : Nat) : w.grownBy ((w.setCell ⟨blk, 2, none⟩ (.int .i64 h')).drewN n) (some blk) := grow_trans (grow_set _ _ _ _) (grow_draw _ _ _)
theorem grow_two (w : World) (blk : Nat) (h' i' : Int) (n : Nat) : w.grownBy (((w.setCell ⟨blk, 2, none⟩ (.int .i64 h')).drewN n).setCell ⟨blk, 1, none⟩ (.int .i64 i')) (some blk) := grow_trans (grow_one _ _ _ _) (grow_set _ _ _ _)
theorem byteG (B blk : Nat) (w : World) (hc : Cur B w blk) :
    Calls Tryd.prog 68 #[.pointer (some ⟨blk, 0, none⟩)] w fun e w' => ∃ x : Int, e = .returned (.int .i64 x) ∧ 0 ≤ x ∧ x ≤ 255 ∧ Cur B w' blk ∧ Below B w w' ∧ w.grownBy w' (some blk) := by
  have hc' : Hid (Cur B w blk) := hc
  obtain ⟨hB, a, len, cap, i, h, hs, hi, c0, c1, c2, f1, f2⟩ := hc
  by_cases hlt : i < (len : Int)
  · obtain ⟨hm, h0 | ⟨b, off, ha, hbB, hz⟩⟩ := hs
    · omega
    · obtain ⟨z, z0, z1, cz⟩ := hz i.toNat (by omega)
      subst ha
      have hne : ¬ b = blk := by omega
      clear hz
      go_enter Tryd.func68, Tryd.ntmps68
      go_wp2
      go_quiet (fail)
      go_wp2
      go_quiet (fail)
      go_wp2
      go_quiet (fail)
      go_wp2
      go_ret
      exact ⟨_, rfl, and255_0 _, and255_1 _, (hc'.out.two _ _ _ (by omega)).1, (hc'.out.two _ _ _ (by omega)).2, grow_two _ _ _ _ _⟩
  · have hd : decide (i < (len : Int)) = false := by simp; omega
    have hm := hs.1
    clear hs
    go_enter Tryd.func68, Tryd.ntmps68
    go_wp2
    go_quiet (fail)
    go_wp2
    go_quiet (fail)
    go_wp2
    go_ret
    refine ⟨_, rfl, and255_0 _, and255_1 _, ?_⟩
    rw [World.drewN_drewN]
    exact ⟨(hc'.out.one _ _).1, (hc'.out.one _ _).2, grow_one _ _ _ _⟩
/-- The cursor at block blk, nothing below B has turned since w0, and since w1 nothing but the cursor. -/
def StK (B : Nat) (w0 : World) (blk : Nat) (w1 w : World) : Prop := St B w0 blk w ∧ w1.grownBy w (some blk)
theorem byteK {B blk : Nat} {w0 w1 w : World} (h : StK B w0 blk w1 w) :
    Calls Tryd.prog 68 #[.pointer (some ⟨blk, 0, none⟩)] w fun e w' => ∃ x : Int, e = .returned (.int .i64 x) ∧ 0 ≤ x ∧ x ≤ 255 ∧ StK B w0 blk w1 w' :=
  (byteG B blk w h.1.1).mono fun _ _ ⟨x, he, x0, x1, hc, hb, hg⟩ => ⟨x, he, x0, x1, ⟨hc, h.1.2.trans hb⟩, grow_trans h.2 hg⟩
theorem belowK {B blk : Nat} {w0 w1 w : World} (n : Int) (h : StK B w0 blk w1 w) :
    Calls Tryd.prog 42 #[.pointer (some ⟨blk, 0, none⟩), .int .i64 n] w fun e w' => ∃ x : Int, e = .returned (.int .i64 x) ∧ 0 ≤ x ∧ (0 < n → x < n) ∧ StK B w0 blk w1 w' := by
  by_cases h0 : n ≤ 0
  · go_enter Tryd.func42, Tryd.ntmps42
    go_wp2
    go_ret
    exact ⟨_, rfl, Int.le_refl _, fun hn => by omega, h⟩
  · by_cases h1 : n ≤ 256
    · have h2 : 1 ≤ n := by omega
      have h3 : ¬ n = 0 := by omega
      go_enter Tryd.func42, Tryd.ntmps42
      go_wp2_with (go_at_call 68; refine (byteK (B := B) (blk := blk) (w0 := w0) (w1 := w1) ?_).mono ?_; assumption; rintro e w' ⟨x, rfl, x0, x1, hst⟩)
      go_ret
      exact ⟨_, rfl, Int.emod_nonneg _ h3, fun _ => Int.emod_lt_of_pos _ (by omega), by assumption⟩
    · have h2 : 257 ≤ n := by omega
      have h3 : ¬ n = 0 := by omega
      go_enter Tryd.func42, Tryd.ntmps42
      go_wp2_with (go_at_call 68; refine (byteK (B := B) (blk := blk) (w0 := w0) (w1 := w1) ?_).mono ?_; assumption; rintro e w' ⟨x, rfl, x0, x1, hst⟩)
      go_ret
      exact ⟨_, rfl, Int.emod_nonneg _ h3, fun _ => Int.emod_lt_of_pos _ (by omega), by assumption⟩
/-- The cursor outlives what is done to memory beyond it. -/
theorem st_past {B blk B' : Nat} {w0 w w' : World} (h : St B w0 blk w) (hb : Below B' w w') (hB : B ≤ B') (hlt : blk < B') : St B w0 blk w' := by
  obtain ⟨⟨hB1, a, len, cap, i, h', hs, hi, c0, c1, c2, f1, f2⟩, hb0⟩ := h
  have hk : ∀ o, w'.cell? ⟨blk, o, none⟩ = w.cell? ⟨blk, o, none⟩ := fun o => hb.cell (p := ⟨blk, o, none⟩) hlt
  have hblk := hb.block blk hlt
  have hf : ∀ o, w'.frozen? ⟨blk, o, none⟩ = w.frozen? ⟨blk, o, none⟩ := fun o => by simp only [World.frozen?, hblk]
  exact ⟨⟨hB1, a, len, cap, i, h', hs.later (hb.mono hB), hi, (hk 0).trans c0, (hk 1).trans c1, (hk 2).trans c2, (hf 1).trans f1, (hf 2).trans f2⟩, hb0.trans (hb.mono hB)⟩
theorem cur_lt {B blk : Nat} {w : World} (h : Cur B w blk) : blk < w.heap.size := by
  obtain ⟨_, _, _, _, _, _, _, _, c0, _⟩ := h
  exact World.block_lt_of_cell? w _ c0
/-- Past new memory and what was made since w1: the cursor is as it was. -/
theorem stk_past {B blk : Nat} {w0 w1 w w' : World} (h : StK B w0 blk w1 w) (hlt : blk < w1.heap.size) (hb : Below w1.heap.size w w') : StK B w0 blk w1 w' := by
  have hB : B ≤ w1.heap.size := Nat.le_of_lt (Nat.lt_of_le_of_lt h.1.1.1 hlt)
  refine ⟨st_past h.1 hb hB hlt, ⟨hb.os.trans h.2.os, hb.tape.trans h.2.tape, hb.output.trans h.2.output, Nat.le_trans h.2.size hb.size, fun k hk hne => (hb.block k hk).trans (h.2.block k hk hne)⟩⟩
end Go.Proofs.YtjndgjheehjohaaDoor.DrawKeep
