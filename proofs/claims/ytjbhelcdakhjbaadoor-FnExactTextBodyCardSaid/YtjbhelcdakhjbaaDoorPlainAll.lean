/-
  Lists of instructions that are all right, in plain words.
-/
import Derived.Test.YtjbhelcdakhjbaaDoorInsImpl
import Derived.Test.YtjbhelcdakhjbaaDoorPlainShape
namespace Go.Proofs.YtjbhelcdakhjbaaDoor.PlainAll
open Go.RowKit PlainOps NameCalls PlainNum InsCalls PlainShape

def okAt (l : List I3) (k : Nat) : Bool := insOk (oAt l k) (aAt l k) (bAt l k)
/-- All from k on are right. -/
def allF (l : List I3) : Nat → Nat → Bool
  | 0, _ => true
  | f + 1, k => if okAt l k = true then allF l f (k + 1) else false
theorem allF_yes {l : List I3} {f k : Nat} (h : okAt l k = true) : allF l (f + 1) k = allF l f (k + 1) := if_pos h
theorem allF_no {l : List I3} {f k : Nat} (h : okAt l k = false) : allF l (f + 1) k = false := if_neg (by rw [h]; decide)
end Go.Proofs.YtjbhelcdakhjbaaDoor.PlainAll
