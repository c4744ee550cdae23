/-
  What Compare and Bits of numbers of 32 bits answer when they are called: the specification's and the program's.
-/
import Derived.Test.YtnpjcgmfmfhgdacDoorNumCalls
import Derived.Test.YtnpjcgmfmfhgdacDoorBitsNum
import Derived.Deep.QuietTactic
import Derived.BigQuiet
namespace Go.Proofs.YtnpjcgmfmfhgdacDoor.OpCalls
open Go.RowKit PlainNum NumCalls BitsNum

/-- What Compare answers, by its op. -/
def cmpN (op a b : Int) : Bool :=
  if op = 1 then wrap32 a == wrap32 b else if op = 2 then wrap32 a != wrap32 b
  else if op = 3 then decide (wrap32 a < wrap32 b) else if op = 4 then decide (a % 4294967296 < b % 4294967296)
  else if op = 5 then decide (wrap32 b < wrap32 a) else if op = 6 then decide (b % 4294967296 < a % 4294967296)
  else if op = 7 then decide (wrap32 a ≤ wrap32 b) else if op = 8 then decide (a % 4294967296 ≤ b % 4294967296)
  else if op = 9 then decide (wrap32 b ≤ wrap32 a) else if op = 10 then decide (b % 4294967296 ≤ a % 4294967296) else false
theorem rotate (x k : Int) (w : World) :
    Calls Tryd.prog 33 #[.int .u32 (x % 4294967296), .int .i64 k] w fun e w' => e = .returned (.int .u32 (rotL x (k % 32))) ∧ w = w' := by
  have e1 := and31 k
  have e2 := rot_or x (k % 32)
  have b1 : 0 ≤ k % 32 := by omega
  have b2 : k % 32 < 32 := by omega
  go_enter Tryd.func33, Tryd.ntmps33
  go_wp2
  go_ret
  exact ⟨rfl, rfl⟩
end Go.Proofs.YtnpjcgmfmfhgdacDoor.OpCalls
