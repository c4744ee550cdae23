/-
  What the program's InsOk answers when it is called, and the walk of its exact law.
-/
import Derived.Test.YtjbhelcdakhjbaaDoorInsCalls
namespace Go.Proofs.YtjbhelcdakhjbaaDoor.InsImpl
open Go.RowKit PlainOps NameCalls PlainNum NumCalls InsCalls
theorem drew_cells {w : World} {op a b : Int} {t : TypeId} {w' : World} (h : Below (w.alloc (.cells #[.int .i64 op, .int .i64 a, .int .i64 b] t)).drew.heap.size (w.alloc (.cells #[.int .i64 op, .int .i64 a, .int .i64 b] t)).drew w') :
    w'.cell? ⟨w.heap.size, 0, none⟩ = some (.int .i64 op) ∧ w'.cell? ⟨w.heap.size, 1, none⟩ = some (.int .i64 a) ∧ w'.cell? ⟨w.heap.size, 2, none⟩ = some (.int .i64 b) := by
  have hs : w.heap.size < (w.alloc (.cells #[.int .i64 op, .int .i64 a, .int .i64 b] t)).drew.heap.size := by simp
  refine ⟨?_, ?_, ?_⟩ <;> rw [h.cell hs] <;> simp
theorem keep_cells {w w' : World} {g : Nat} {x y z : Value} (h : Below w.heap.size w w') (c0 : w.cell? ⟨g, 0, none⟩ = some x) (c1 : w.cell? ⟨g, 1, none⟩ = some y) (c2 : w.cell? ⟨g, 2, none⟩ = some z) :
    w'.cell? ⟨g, 0, none⟩ = some x ∧ w'.cell? ⟨g, 1, none⟩ = some y ∧ w'.cell? ⟨g, 2, none⟩ = some z := by
  have hs : g < w.heap.size := World.block_lt_of_cell? w _ c0
  exact ⟨by rw [h.cell hs]; exact c0, by rw [h.cell hs]; exact c1, by rw [h.cell hs]; exact c2⟩
set_option maxHeartbeats 4000000 in
theorem impl_insOk (op a b : Int) (w : World) (ht : Tab w) :
    Calls Tryd.prog 26 #[.agg #[.int .i64 op, .int .i64 a, .int .i64 b]] w fun e w' => e = .returned (.bool (insOk op a b)) ∧ Below w.heap.size w w' := by
  have ht' : Hid (Tab w) := ht
  clear ht
  have hc : Hid _ := fun u => impl_opName op u
  by_cases h0 : opNm op = ⟨#[]⟩
  · rw [insOk_no h0]
    rw [h0] at hc
    clear h0
    go_enter Tryd.func26, Tryd.ntmps26
    go_wp2_with fail
    go_quiet (first | (go_at_call 40; refine Calls.quiet_of_same ((hc.out _ (ht'.out.later (below_drewN ((Below.refl _ _).alloc (Nat.le_refl _) _) _))).mono fun _ _ ⟨h1, h2⟩ => ⟨h1, h2.symm⟩)))
    go_wp2_with fail
    go_ret
    exact ⟨rfl, below_drewN ((Below.refl _ _).alloc (Nat.le_refl _) _) _⟩
  · rw [insOk_kd h0, fits_is _ _ _ (kd_is op)]
    have hf : Hid _ := fun u => impl_fieldsOf op u
    obtain ⟨n1, n2⟩ := str_nil h0
    clear h0
    generalize opNm op = T at *
    generalize fC (kd op) = kc at *
    generalize fLo (kd op) = lo at *
    generalize fHi (kd op) = hi at *
    generalize fB (kd op) = mb at *
    go_enter Tryd.func26, Tryd.ntmps26
    go_wp2_with fail
    go_region_held (fun w' => w'.cell? ⟨w.heap.size, 0, none⟩ = some (.int .i64 op) ∧ w'.cell? ⟨w.heap.size, 1, none⟩ = some (.int .i64 a) ∧ w'.cell? ⟨w.heap.size, 2, none⟩ = some (.int .i64 b)) (go_keep)
      (first | (go_at_call 40; refine (hc.out _ (ht'.out.later (((Below.refl _ _).alloc (Nat.le_refl _) _).drew))).mono ?_; rintro e w1 ⟨rfl, rfl⟩) | (go_at_call 24; refine (hf.out _).mono ?_; rintro e w2 ⟨rfl, b2⟩; obtain ⟨c0, c1, c2⟩ := drew_cells b2) | (go_at_call 41; refine (impl_fit _ _ _ _ _ _ _ _).mono ?_; rintro e w3 ⟨rfl, b3⟩; obtain ⟨c3, c4, c5⟩ := keep_cells b3 c0 c1 c2))
    go_wp2_with fail
    go_ret
    refine ⟨by simp, ?_⟩
    exact (((Below.refl _ _).alloc (Nat.le_refl _) _).drew.trans (b2.mono (by simp))).trans (b3.mono (by have := b2.size; simp at this; omega))
end Go.Proofs.YtjbhelcdakhjbaaDoor.InsImpl
