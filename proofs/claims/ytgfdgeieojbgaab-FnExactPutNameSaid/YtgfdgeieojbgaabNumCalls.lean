/-
  What the functions of numbers of 32 bits answer when they are called, one contract a function: the specification's and the program's.
-/
import Derived.Test.YtgfdgeieojbgaabRows
import Derived.Test.YtgfdgeieojbgaabPlainNum
import Derived.WalkKit
import Derived.ProofKit
import Derived.OpenShut
import Derived.Handy
namespace Go.Proofs.Ytgfdgeieojbgaab.NumCalls
open Go.RowKit PlainNum
theorem spec_plain (n : Int) (w : World) :
    Calls Try.prog 18 #[.int .i64 n] w fun e w' => e = .returned (.int .i64 (n % 4294967296)) ∧ w = w' := by
  have e1 := and_low n
  go_enter Try.func18, Try.ntmps18
  go_wp2
  go_ret
  exact ⟨rfl, rfl⟩
end Go.Proofs.Ytgfdgeieojbgaab.NumCalls
