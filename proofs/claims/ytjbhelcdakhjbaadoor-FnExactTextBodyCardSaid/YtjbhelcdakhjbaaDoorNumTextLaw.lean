/-
  What the program's NumText answers where the library's table of powers of ten holds what its text lays, and the walk of its exact law.
-/
import Derived.Test.YtjbhelcdakhjbaaDoorDigits
import Derived.Test.YtjbhelcdakhjbaaDoorShelf
import Derived.Lib.AppendIntMem
namespace Go.Proofs.YtjbhelcdakhjbaaDoor.NumTextLaw
open Go.RowKit PlainNum NumCalls Digits
theorem below_grow (w : World) (q : Nat) (os : Array Obj) : Below w.heap.size w (Go.Sort.grow (w.drewN q) os) :=
  ⟨rfl, rfl, rfl, by show w.heap.size ≤ (w.heap ++ os).size; simp, fun k hk => by show (w.heap ++ os)[k]? = w.heap[k]?; rw [Array.getElem?_append_left hk]⟩
end Go.Proofs.YtjbhelcdakhjbaaDoor.NumTextLaw
