/-
  The drawing of any instruction, right or not.
-/
import Derived.Test.YtpofboimlconeaaDrawIns
namespace Go.Proofs.Ytpofboimlconeaa.DrawAny
open Go.RowKit PlainOps NameCalls PlainNum NumCalls Draws DrawKeep InsCalls PlainShape InsMem ShapeCalls DrawIns
set_option maxHeartbeats 8000000 in
theorem anyInsK {B blk : Nat} {w0 w : World} (h : St B w0 blk w) :
    Calls Try.prog 22 #[.pointer (some ⟨blk, 0, none⟩)] w fun e w' => ∃ o a b : Int, e = .returned (.agg #[.int .i64 o, .int .i64 a, .int .i64 b]) ∧ StK B w0 blk w w' := by
  have hlt := cur_lt h.1
  have h' : Hid (St B w0 blk w) := h
  clear h
  have r0 : Hid ((w.alloc (.cells #[.int .i64 0, .int .i64 0, .int .i64 0] 27)).rowIs w.heap.size 27 3 (I3row 0 0 0)) := row3_made w 0 0 0
  have s0 : StK B w0 blk w (w.alloc (.cells #[.int .i64 0, .int .i64 0, .int .i64 0] 27)) := stk_past ⟨h'.out, World.grownBy.refl _ _⟩ hlt ((Below.refl _ _).alloc (Nat.le_refl _) _)
  go_enter Try.func22, Try.ntmps22
  go_wp2_with (go_at_call 23; refine (insK s0.1).mono ?_; rintro e w2 ⟨z, za, zb, rfl, t2⟩; have r2 : Hid (w2.rowIs w.heap.size 27 3 (I3row 0 0 0)) := row_grown r0.out t2.2 (by simp; omega); have s2 : StK B w0 blk w w2 := ⟨t2.1, grow_trans s0.2 t2.2⟩)
  have sz2 := t2.2.size
  simp only [World.size_alloc] at sz2
  have ri : Hid ((w2.alloc (.cells #[.int .i64 z, .int .i64 za, .int .i64 zb] 27)).rowIs w2.heap.size 27 3 (I3row z za zb)) := row3_made w2 z za zb
  have rr : Hid ((w2.alloc (.cells #[.int .i64 z, .int .i64 za, .int .i64 zb] 27)).rowIs w.heap.size 27 3 (I3row 0 0 0)) := r2.out.alloc _
  have s3 : StK B w0 blk w (w2.alloc (.cells #[.int .i64 z, .int .i64 za, .int .i64 zb] 27)) := stk_past s2 hlt ((Below.refl _ _).alloc (by omega) _)
  have hbi : w.heap.size < w2.heap.size := by omega
  generalize w2.alloc (.cells #[.int .i64 z, .int .i64 za, .int .i64 zb] 27) = w3 at *
  generalize w2.heap.size = bi at *
  have nb : ¬ bi = w.heap.size := by omega
  clear r0 s0 r2 s2 t2 sz2
  go_wp2_with (go_at_call 21; refine (belowK (B := B) (blk := blk) (w0 := w0) (w1 := w3) _ ⟨s3.1, World.grownBy.refl _ _⟩).mono ?_; rintro e w4 ⟨y, rfl, y0, y1, t4⟩; have ri4 : Hid (w4.rowIs bi 27 3 (I3row z za zb)) := row_grown ri.out t4.2 (by simp; omega); have rr4 : Hid (w4.rowIs w.heap.size 27 3 (I3row 0 0 0)) := row_grown rr.out t4.2 (by simp; omega); have s4 : StK B w0 blk w w4 := ⟨t4.1, grow_trans s3.2 t4.2⟩; obtain ⟨a0, a1, a2, b0, b1, b2⟩ := row3 ri4.out; obtain ⟨q0, q1, q2, p0, p1, p2⟩ := row3 rr4.out)
  · go_wp2_with (go_at_call 25; refine (rawK (B := B) (blk := blk) (w0 := w0) (w1 := w4) ⟨s4.1, World.grownBy.refl _ _⟩).mono ?_; rintro e w5 ⟨x, rfl, t5⟩; have ri5 : Hid (w5.rowIs bi 27 3 (I3row z za zb)) := row_grown ri4.out t5.2 (by simp; omega); have rr5 : Hid (w5.rowIs w.heap.size 27 3 (I3row 0 0 0)) := row_grown rr4.out t5.2 (by simp; omega); have s5 : StK B w0 blk w w5 := ⟨t5.1, grow_trans s4.2 t5.2⟩; obtain ⟨a0, a1, a2, b0, b1, b2⟩ := row3 ri5.out; obtain ⟨q0, q1, q2, p0, p1, p2⟩ := row3 rr5.out)
    obtain ⟨e0, e1, e2⟩ := set3 (rr5.out.setOther (a := ⟨bi, 0, none⟩) (by simp; omega) (.int .i64 x)) x za zb
    refine bodyPost_ret ?_ rfl ⟨x, za, zb, rfl, stk_past s5 hlt (((Below.refl _ _).setCell (p := ⟨bi, 0, none⟩) (by simp; omega) _).trans (below3 (Nat.le_refl _) _ _ _))⟩
    simp [results, go_sem, e0, e1, e2]
  · go_wp2_with (go_at_call 25; refine (rawK (B := B) (blk := blk) (w0 := w0) (w1 := w4) ⟨s4.1, World.grownBy.refl _ _⟩).mono ?_; rintro e w5 ⟨x, rfl, t5⟩; have ri5 : Hid (w5.rowIs bi 27 3 (I3row z za zb)) := row_grown ri4.out t5.2 (by simp; omega); have rr5 : Hid (w5.rowIs w.heap.size 27 3 (I3row 0 0 0)) := row_grown rr4.out t5.2 (by simp; omega); have s5 : StK B w0 blk w w5 := ⟨t5.1, grow_trans s4.2 t5.2⟩; obtain ⟨a0, a1, a2, b0, b1, b2⟩ := row3 ri5.out; obtain ⟨q0, q1, q2, p0, p1, p2⟩ := row3 rr5.out)
    obtain ⟨e0, e1, e2⟩ := set3 (rr5.out.setOther (a := ⟨bi, 1, none⟩) (by simp; omega) (.int .i64 x)) z x zb
    refine bodyPost_ret ?_ rfl ⟨z, x, zb, rfl, stk_past s5 hlt (((Below.refl _ _).setCell (p := ⟨bi, 1, none⟩) (by simp; omega) _).trans (below3 (Nat.le_refl _) _ _ _))⟩
    simp [results, go_sem, e0, e1, e2]
  · go_wp2_with (go_at_call 21; refine (belowK (B := B) (blk := blk) (w0 := w0) (w1 := w4) _ ⟨s4.1, World.grownBy.refl _ _⟩).mono ?_; rintro e w5 ⟨x, rfl, _, _, t5⟩; have ri5 : Hid (w5.rowIs bi 27 3 (I3row z za zb)) := row_grown ri4.out t5.2 (by simp; omega); have rr5 : Hid (w5.rowIs w.heap.size 27 3 (I3row 0 0 0)) := row_grown rr4.out t5.2 (by simp; omega); have s5 : StK B w0 blk w w5 := ⟨t5.1, grow_trans s4.2 t5.2⟩; obtain ⟨a0, a1, a2, b0, b1, b2⟩ := row3 ri5.out; obtain ⟨q0, q1, q2, p0, p1, p2⟩ := row3 rr5.out)
    obtain ⟨e0, e1, e2⟩ := set3 (rr5.out.setOther (a := ⟨bi, 2, none⟩) (by simp; omega) (.int .i64 x)) z za x
    refine bodyPost_ret ?_ rfl ⟨z, za, x, rfl, stk_past s5 hlt (((Below.refl _ _).setCell (p := ⟨bi, 2, none⟩) (by simp; omega) _).trans (below3 (Nat.le_refl _) _ _ _))⟩
    simp [results, go_sem, e0, e1, e2]
  · obtain ⟨e0, e1, e2⟩ := set3 rr4.out z za zb
    refine bodyPost_ret ?_ rfl ⟨z, za, zb, rfl, stk_past s4 hlt (below3 (Nat.le_refl _) _ _ _)⟩
    simp [results, go_sem, e0, e1, e2]
end Go.Proofs.Ytpofboimlconeaa.DrawAny
