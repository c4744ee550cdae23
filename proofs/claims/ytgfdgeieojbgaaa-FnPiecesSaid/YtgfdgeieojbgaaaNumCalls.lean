/-
  What the functions of numbers of 32 bits answer when they are called, one contract a function: the specification's and the program's.
-/
import Derived.Test.YtgfdgeieojbgaaaRows
import Derived.Test.YtgfdgeieojbgaaaPlainNum
import Derived.WalkKit
import Derived.ProofKit
import Derived.OpenShut
import Derived.Handy
namespace Go.Proofs.Ytgfdgeieojbgaaa.NumCalls
open Go.RowKit PlainNum
theorem spec_plain (n : Int) (w : World) :
    Calls Try.prog 31 #[.int .i64 n] w fun e w' => e = .returned (.int .i64 (n % 4294967296)) ∧ w = w' := by
  have e1 := and_low n
  go_enter Try.func31, Try.ntmps31
  go_wp2
  go_ret
  exact ⟨rfl, rfl⟩
theorem spec_wrap (n : Int) (w : World) :
    Calls Try.prog 32 #[.int .i64 n] w fun e w' => e = .returned (.int .i64 (wrap32 n)) ∧ w = w' := by
  by_cases h : 2147483647 < n % 4294967296
  · have e2 := wrap32_hi h
    go_enter Try.func32, Try.ntmps32
    go_wp2_with (go_at_call 31; refine (spec_plain _ _).mono ?_; rintro e w' ⟨rfl, rfl⟩)
    go_ret
    exact ⟨by rw [← e2]; rfl, rfl⟩
  · have e2 := wrap32_low h
    go_enter Try.func32, Try.ntmps32
    go_wp2_with (go_at_call 31; refine (spec_plain _ _).mono ?_; rintro e w' ⟨rfl, rfl⟩)
    go_ret
    exact ⟨by rw [← e2]; rfl, rfl⟩
theorem impl_wrap (n : Int) (w : World) :
    Calls Try.prog 17 #[.int .i64 n] w fun e w' => e = .returned (.int .i64 (wrap32 n)) ∧ w = w' := by
  have hb := wrap32_lo n
  go_enter Try.func17, Try.ntmps17
  go_wp2
  go_ret
  exact ⟨rfl, rfl⟩
theorem impl_plain (n : Int) (w : World) :
    Calls Try.prog 16 #[.int .i64 n] w fun e w' => e = .returned (.int .i64 (n % 4294967296)) ∧ w = w' := by
  have hb := wrap32_lo n
  have e1 : IntKind.u32.wrap (wrap32 n) = n % 4294967296 := by rw [IntKind.wrap_u32]; exact plain_wrap n
  go_enter Try.func16, Try.ntmps16
  go_wp2
  go_ret
  exact ⟨rfl, rfl⟩
end Go.Proofs.Ytgfdgeieojbgaaa.NumCalls
