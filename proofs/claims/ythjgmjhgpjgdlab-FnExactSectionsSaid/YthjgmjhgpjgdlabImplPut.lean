/-
  What the program's PutU answers when it is called: the bytes, and behind them the number in pieces, in new memory.
-/
import Derived.Test.YthjgmjhgpjgdlabPutU
import Derived.Test.YthjgmjhgpjgdlabPlainLeb
import Derived.RangeFuncNested
import Derived.RangeFuncBound
import Derived.RangeFuncCalls
import Derived.RangeFuncLeaves
import Derived.RangeFuncBox
import Derived.Shelf.Abstract
import Derived.Shelf.RegionOpen
import Derived.WalkKit
import Derived.OwnWalkIn
import Derived.TacticsInMore
import Derived.LoopNIn
import Derived.LoopIn
import Derived.Maps.AppendAt
namespace Go.Proofs.Ythjgmjhgpjgdlab.ImplPut
open Go.RowKit Go.Shelf PlainNum PlainLeb NumCalls ByteMem PutU
attribute [local go_sem] Oper.semAt_some

theorem own_form {B : Nat} {w : World} {v : Value} {bs : List UInt8} (h : PutU.Own B w v bs) : ∃ a cap, v = .slice a bs.length cap := by
  rcases h.2 with ⟨hv, h0⟩ | ⟨g, cap, cur, hv, _⟩
  · exact ⟨none, 0, by rw [hv, h0]⟩
  · exact ⟨_, _, hv⟩
theorem own_snoc {B : Nat} {w : World} {v : Value} {bs : List UInt8} {u : UInt8} {vs : List Value} {k : Nat} (h : w.ownsRow B 5 1 v k vs) (hk : k = bs.length + 1) (hv : vs = Lib.byteCells bs ++ [.int .u8 (u.toNat : Int)]) : PutU.Own B w v (bs ++ [u]) := by
  subst hk hv
  unfold PutU.Own
  rw [List.length_append, List.length_singleton, Lib.byteCells_append]
  exact h
end Go.Proofs.Ythjgmjhgpjgdlab.ImplPut
