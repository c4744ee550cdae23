/-
  What OpName and NameOp answer when they are called, the specification's and the program's.
-/
import Derived.Test.YtpofboimlconeaaChecked
import Derived.Test.YtpofboimlconeaaPlainOps
import Derived.WalkKit
import Derived.Deep.QuietTactic
import Derived.BigQuiet
import Derived.Deep.OwnRows
import Derived.Below
import Derived.WalkSpells
import Derived.WalkSmall
namespace Go.Proofs.Ytpofboimlconeaa.NameCalls
open Go.RowKit PlainOps

theorem alloc_top (w : World) (o : Obj) : (w.alloc o).heap[w.heap.size]? = some o := by
  show (w.heap.push o)[w.heap.size]? = some o
  simp
theorem str_ne {a b : ByteArray} (h : ¬ a = b) : (a.toList == b.toList) = false := by
  rw [beq_eq_false_iff_ne]
  intro e
  rw [ByteArray.toList_eq, ByteArray.toList_eq] at e
  exact h (ByteArray.ext (Array.toList_inj.1 e))
theorem str_nil {a : ByteArray} (h : ¬ a = ⟨#[]⟩) : a.toList.isEmpty = false ∧ (a.toList == []) = false := by
  have := str_ne h
  rw [ByteArray.toList_eq ⟨#[]⟩] at this
  refine ⟨?_, this⟩
  cases e : a.toList with
  | nil => rw [e] at this; cases this
  | cons x l => rfl
/-- Block b begins with these values. -/
def Holds (w : World) (b : Nat) (vs : List Value) : Prop := ∀ j v, vs[j]? = some v → w.cell? ⟨b, j, none⟩ = some v
theorem Holds.made (w : World) (vs : List Value) (t : TypeId) : Holds (w.alloc (.cells vs.toArray t)) w.heap.size vs := by
  intro j v hv
  have : (w.alloc (.cells vs.toArray t)).heap[w.heap.size]? = some (.cells vs.toArray t) := alloc_top w _
  simp only [World.cell?, this]
  simpa using hv
theorem spec_ops (w : World) :
    Calls Try.prog 29 #[] w fun e w' => ∃ b, e = .returned (.slice (some ⟨b, 0, none⟩) 24 24) ∧ Holds w' b (ops24.map fun z => .int .i64 z) ∧ Below w.heap.size w w' := by
  go_enter Try.func29, Try.ntmps29
  go_wp2_with fail
  go_ret
  exact ⟨_, rfl, Holds.made w (ops24.map fun z => .int .i64 z) _, (Below.refl _ _).alloc (Nat.le_refl _) _⟩
theorem Holds.int {w : World} {b : Nat} {l : List Int} (h : Holds w b (l.map fun z => .int .i64 z)) (j : Nat) (hj : j < l.length) : w.cell? ⟨b, j, none⟩ = some (.int .i64 (l.getD j 0)) :=
  h j _ (by simp [hj])
theorem Holds.str {w : World} {b : Nat} {l : List (List UInt8)} (h : Holds w b (l.map fun z => .string (tx z))) (j : Nat) (hj : j < l.length) : w.cell? ⟨b, j, none⟩ = some (.string (tx (l.getD j []))) :=
  h j _ (by simp [hj])
end Go.Proofs.Ytpofboimlconeaa.NameCalls
