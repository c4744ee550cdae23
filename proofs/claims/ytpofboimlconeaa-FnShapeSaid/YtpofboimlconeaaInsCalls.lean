/-
  What InsOk answers when it is called, the specification's and the program's.
-/
import Derived.Test.YtpofboimlconeaaNameCalls
import Derived.Test.YtpofboimlconeaaNumCalls
import Derived.Deep.RegionHeld
namespace Go.Proofs.Ytpofboimlconeaa.InsCalls
open Go.RowKit PlainOps NameCalls PlainNum NumCalls

/-- What an operation has: 0 nothing, 1 a number of results, 2 an index, 3 a place in memory, 4 a number. -/
def kd (op : Int) : Int :=
  if op = 2 ∨ op = 3 ∨ op = 4 then 1 else if op = 12 ∨ op = 13 ∨ op = 16 ∨ op = 32 ∨ op = 33 ∨ op = 34 ∨ op = 35 ∨ op = 36 then 2 else if op = 40 ∨ op = 54 then 3 else if op = 65 then 4 else 0
/-- A and B may be these. -/
def fits (k a b : Int) : Bool :=
  if k = 1 then decide (0 ≤ a ∧ a ≤ 1 ∧ b = 0) else if k = 2 then decide (0 ≤ a ∧ a ≤ 1000 ∧ b = 0) else if k = 3 then decide (0 ≤ a ∧ a ≤ 2147483647 ∧ 0 ≤ b ∧ b ≤ 2) else if k = 4 then decide (-2147483648 ≤ a ∧ a ≤ 2147483647 ∧ b = 0) else decide (a = 0 ∧ b = 0)
/-- An instruction is right. -/
def insOk (op a b : Int) : Bool := !decide (opNm op = ⟨#[]⟩) && fits (kd op) a b
theorem kd_is (op : Int) : kd op = 0 ∨ kd op = 1 ∨ kd op = 2 ∨ kd op = 3 ∨ kd op = 4 := by
  unfold kd
  (repeat' split) <;> simp
theorem wrap_same (a : Int) : (wrap32 a == a) = decide (-2147483648 ≤ a ∧ a ≤ 2147483647) := by
  have := wrap32_lo a
  by_cases h : -2147483648 ≤ a ∧ a ≤ 2147483647
  · rw [wrap32_in h.1 h.2]; simp [h]
  · rw [decide_eq_false h, beq_eq_false_iff_ne]; intro e; omega
theorem op_class (op : Int) : (op = 2 ∨ op = 3 ∨ op = 4) ∨ (op = 12 ∨ op = 13 ∨ op = 16 ∨ op = 32 ∨ op = 33 ∨ op = 34 ∨ op = 35 ∨ op = 36) ∨ (op = 40 ∨ op = 54) ∨ op = 65 ∨
    (op ≠ 2 ∧ op ≠ 3 ∧ op ≠ 4 ∧ op ≠ 12 ∧ op ≠ 13 ∧ op ≠ 16 ∧ op ≠ 32 ∧ op ≠ 33 ∧ op ≠ 34 ∧ op ≠ 35 ∧ op ≠ 36 ∧ op ≠ 40 ∧ op ≠ 54 ∧ op ≠ 65) := by omega
theorem kd0 {op : Int} (h : op ≠ 2 ∧ op ≠ 3 ∧ op ≠ 4 ∧ op ≠ 12 ∧ op ≠ 13 ∧ op ≠ 16 ∧ op ≠ 32 ∧ op ≠ 33 ∧ op ≠ 34 ∧ op ≠ 35 ∧ op ≠ 36 ∧ op ≠ 40 ∧ op ≠ 54 ∧ op ≠ 65) : kd op = 0 := by
  unfold kd
  rw [if_neg (by omega), if_neg (by omega), if_neg (by omega), if_neg (by omega)]
theorem spec_kind (op : Int) (w : World) :
    Calls Try.prog 27 #[.int .i64 op] w fun e w' => e = .returned (.int .i64 (kd op)) ∧ w = w' := by
  rcases op_class op with (rfl | rfl | rfl) | (rfl | rfl | rfl | rfl | rfl | rfl | rfl | rfl) | (rfl | rfl) | rfl | h
  case inr.inr.inr.inr =>
    have hk : Hid (kd op = 0) := kd0 h
    obtain ⟨n1, n2, n3, n4, n5, n6, n7, n8, n9, n10, n11, n12, n13, n14⟩ := h
    go_enter Try.func27, Try.ntmps27
    go_wp2_with fail
    go_ret
    exact ⟨by rw [hk.out]; rfl, rfl⟩
  all_goals
    go_enter Try.func27, Try.ntmps27
    go_wp2_with fail
    go_ret
    exact ⟨rfl, rfl⟩
theorem box_cells {w : World} {op a b : Int} {t : TypeId} {w' : World} (h : Below (w.alloc (.cells #[.int .i64 op, .int .i64 a, .int .i64 b] t)).heap.size (w.alloc (.cells #[.int .i64 op, .int .i64 a, .int .i64 b] t)) w') :
    w'.cell? ⟨w.heap.size, 0, none⟩ = some (.int .i64 op) ∧ w'.cell? ⟨w.heap.size, 1, none⟩ = some (.int .i64 a) ∧ w'.cell? ⟨w.heap.size, 2, none⟩ = some (.int .i64 b) := by
  have hs : w.heap.size < (w.alloc (.cells #[.int .i64 op, .int .i64 a, .int .i64 b] t)).heap.size := by simp
  refine ⟨?_, ?_, ?_⟩ <;> rw [h.cell hs] <;> simp
theorem box_below {w w' : World} {o : Obj} (h : Below (w.alloc o).heap.size (w.alloc o) w') : Below w.heap.size w w' :=
  ((Below.refl _ _).alloc (Nat.le_refl _) _).trans (h.mono (by simp))
theorem insOk_no {op a b : Int} (h : opNm op = ⟨#[]⟩) : insOk op a b = false := by unfold insOk; rw [decide_eq_true h]; rfl
theorem insOk_kd {op a b : Int} (h : ¬ opNm op = ⟨#[]⟩) : insOk op a b = fits (kd op) a b := by unfold insOk; rw [decide_eq_false h]; rfl
end Go.Proofs.Ytpofboimlconeaa.InsCalls
