/-
  What OpName and NameOp answer when they are called, the specification's and the program's.
-/
import Derived.Test.YtjndgjheehjohaaDoorChecked
import Derived.Test.YtjndgjheehjohaaDoorPlainOps
import Derived.WalkKit
import Derived.Deep.QuietTactic
import Derived.BigQuiet
import Derived.Deep.OwnRows
import Derived.Below
import Derived.WalkSpells
import Derived.WalkSmall
namespace Go.Proofs.YtjndgjheehjohaaDoor.NameCalls
open Go.RowKit PlainOps

theorem alloc_top (w : World) (o : Obj) : (w.alloc o).heap[w.heap.size]? = some o := by
  show (w.heap.push o)[w.heap.size]? = some o
  simp
theorem str_ne {a b : ByteArray} (h : ¬ a = b) : (a.toList == b.toList) = false := by
  rw [beq_eq_false_iff_ne]
  intro e
  rw [ByteArray.toList_eq, ByteArray.toList_eq] at e
  exact h (ByteArray.ext (Array.toList_inj.1 e))
theorem str_nil {a : ByteArray} (h : ¬ a = ⟨#[]⟩) : a.toList.isEmpty = false ∧ (a.toList == []) = false := by
  have := str_ne h
  rw [ByteArray.toList_eq ⟨#[]⟩] at this
  refine ⟨?_, this⟩
  cases e : a.toList with
  | nil => rw [e] at this; cases this
  | cons x l => rfl
/-- Block b begins with these values. -/
def Holds (w : World) (b : Nat) (vs : List Value) : Prop := ∀ j v, vs[j]? = some v → w.cell? ⟨b, j, none⟩ = some v
theorem Holds.made (w : World) (vs : List Value) (t : TypeId) : Holds (w.alloc (.cells vs.toArray t)) w.heap.size vs := by
  intro j v hv
  have : (w.alloc (.cells vs.toArray t)).heap[w.heap.size]? = some (.cells vs.toArray t) := alloc_top w _
  simp only [World.cell?, this]
  simpa using hv
theorem Holds.int {w : World} {b : Nat} {l : List Int} (h : Holds w b (l.map fun z => .int .i64 z)) (j : Nat) (hj : j < l.length) : w.cell? ⟨b, j, none⟩ = some (.int .i64 (l.getD j 0)) :=
  h j _ (by simp [hj])
theorem Holds.str {w : World} {b : Nat} {l : List (List UInt8)} (h : Holds w b (l.map fun z => .string (tx z))) (j : Nat) (hj : j < l.length) : w.cell? ⟨b, j, none⟩ = some (.string (tx (l.getD j []))) :=
  h j _ (by simp [hj])
end Go.Proofs.YtjndgjheehjohaaDoor.NameCalls
