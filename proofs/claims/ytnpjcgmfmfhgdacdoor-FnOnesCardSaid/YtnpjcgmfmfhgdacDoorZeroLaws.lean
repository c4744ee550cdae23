/-
  What the program's Clz and Pop answer, and the walks of their exact laws: each returns true.
-/
import Derived.Test.YtnpjcgmfmfhgdacDoorZeroCalls
import Derived.Test.YtnpjcgmfmfhgdacDoorShelf
namespace Go.Proofs.YtnpjcgmfmfhgdacDoor.ZeroLaws
open Go.RowKit PlainNum NumCalls PlainZero ZeroCalls
theorem impl_clz (n : Int) (w : World) :
    Calls Tryd.prog 8 #[.int .i64 n] w fun e w' => e = .returned (.int .i64 (32 - (Lib.bitLen (n % 4294967296).toNat : Int))) ∧ w = w' := by
  have u1 : IntKind.u32.wrap (wrap32 n) = n % 4294967296 := by rw [IntKind.wrap_u32]; exact plain_wrap n
  go_enter Tryd.func8, Tryd.ntmps8
  go_wp2_with (first | (go_at_call 23; refine (Tryd.bits_LeadingZeros32 (n % 4294967296) _ (Int.emod_nonneg _ (by decide)) (by omega)).mono ?_; rintro e w' ⟨rfl, rfl⟩) | go_in)
  go_ret
  exact ⟨rfl, rfl⟩
theorem impl_pop (n : Int) (w : World) :
    Calls Tryd.prog 6 #[.int .i64 n] w fun e w' => e = .returned (.int .i64 (popN (n % 4294967296) 32)) ∧ ∃ m, w' = w.drewN m := by
  have u1 : IntKind.u32.wrap (wrap32 n) = n % 4294967296 := by rw [IntKind.wrap_u32]; exact plain_wrap n
  go_enter Tryd.func6, Tryd.ntmps6
  go_wp2_with (first | (go_at_call 19; refine (lib_pop (n % 4294967296) _ (Int.emod_nonneg _ (by decide)) (by omega)).mono ?_; rintro e w' ⟨rfl, m, rfl⟩) | go_in)
  go_ret
  exact ⟨rfl, _, rfl⟩
end Go.Proofs.YtnpjcgmfmfhgdacDoor.ZeroLaws
