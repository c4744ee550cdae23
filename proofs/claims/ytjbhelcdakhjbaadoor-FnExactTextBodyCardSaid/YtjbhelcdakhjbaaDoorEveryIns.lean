/-
  Every over a list of instructions: what it answers when it is called with InsOk.
-/
import Derived.Test.YtjbhelcdakhjbaaDoorPlainAll
import Derived.Test.YtjbhelcdakhjbaaDoorInsMem
namespace Go.Proofs.YtjbhelcdakhjbaaDoor.EveryIns
open Go.RowKit PlainOps NameCalls PlainNum NumCalls InsCalls InsImpl PlainShape InsMem PlainAll
theorem hb2 {B : Nat} {w w' : World} {o : Obj} (hB : B ≤ w.heap.size) (h : Below (w.alloc o).heap.size (w.alloc o) w') : Below B w w' :=
  ((Below.refl _ _).alloc hB _).trans (h.mono (by simp; omega))
end Go.Proofs.YtjbhelcdakhjbaaDoor.EveryIns
