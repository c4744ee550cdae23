/-
  What the functions of numbers of 32 bits answer when they are called, one contract a function: the specification's and the program's.
-/
import Derived.Test.YtnpjcgmfmfhgdaiRows
import Derived.Test.YtnpjcgmfmfhgdaiPlainNum
import Derived.WalkKit
import Derived.ProofKit
import Derived.OpenShut
namespace Go.Proofs.Ytnpjcgmfmfhgdai.NumCalls
open Go.RowKit PlainNum
theorem spec_plain (n : Int) (w : World) :
    Calls Try.prog 10 #[.int .i64 n] w fun e w' => e = .returned (.int .i64 (n % 4294967296)) ∧ w = w' := by
  have e1 := and_low n
  go_enter Try.func10, Try.ntmps10
  go_wp2
  go_ret
  exact ⟨rfl, rfl⟩
theorem spec_wrap (n : Int) (w : World) :
    Calls Try.prog 8 #[.int .i64 n] w fun e w' => e = .returned (.int .i64 (wrap32 n)) ∧ w = w' := by
  by_cases h : 2147483647 < n % 4294967296
  · have e2 := wrap32_hi h
    go_enter Try.func8, Try.ntmps8
    go_wp2_with (go_at_call 10; refine (spec_plain _ _).mono ?_; rintro e w' ⟨rfl, rfl⟩)
    go_ret
    exact ⟨by rw [← e2]; rfl, rfl⟩
  · have e2 := wrap32_low h
    go_enter Try.func8, Try.ntmps8
    go_wp2_with (go_at_call 10; refine (spec_plain _ _).mono ?_; rintro e w' ⟨rfl, rfl⟩)
    go_ret
    exact ⟨by rw [← e2]; rfl, rfl⟩
theorem impl_wrap (n : Int) (w : World) :
    Calls Try.prog 9 #[.int .i64 n] w fun e w' => e = .returned (.int .i64 (wrap32 n)) ∧ w = w' := by
  have hb := wrap32_lo n
  go_enter Try.func9, Try.ntmps9
  go_wp2
  go_ret
  exact ⟨rfl, rfl⟩
theorem impl_plain (n : Int) (w : World) :
    Calls Try.prog 11 #[.int .i64 n] w fun e w' => e = .returned (.int .i64 (n % 4294967296)) ∧ w = w' := by
  have hb := wrap32_lo n
  have e1 : IntKind.u32.wrap (wrap32 n) = n % 4294967296 := by rw [IntKind.wrap_u32]; exact plain_wrap n
  go_enter Try.func11, Try.ntmps11
  go_wp2
  go_ret
  exact ⟨rfl, rfl⟩
theorem spec_add (a b : Int) (w : World) :
    Calls Try.prog 12 #[.int .i64 a, .int .i64 b] w fun e w' => e = .returned (.int .i64 (wrap32 (wrap32 a + wrap32 b))) ∧ w = w' := by
  have ha := wrap32_lo a
  have hb := wrap32_lo b
  go_enter Try.func12, Try.ntmps12
  go_wp2_with (go_at_call 8; refine (spec_wrap _ _).mono ?_; rintro e w' ⟨rfl, rfl⟩)
  go_ret
  exact ⟨rfl, rfl⟩
theorem spec_sub (a b : Int) (w : World) :
    Calls Try.prog 14 #[.int .i64 a, .int .i64 b] w fun e w' => e = .returned (.int .i64 (wrap32 (wrap32 a - wrap32 b))) ∧ w = w' := by
  have ha := wrap32_lo a
  have hb := wrap32_lo b
  go_enter Try.func14, Try.ntmps14
  go_wp2_with (go_at_call 8; refine (spec_wrap _ _).mono ?_; rintro e w' ⟨rfl, rfl⟩)
  go_ret
  exact ⟨rfl, rfl⟩
theorem spec_mul (a b : Int) (w : World) :
    Calls Try.prog 16 #[.int .i64 a, .int .i64 b] w fun e w' => e = .returned (.int .i64 (wrap32 (wrap32 a * wrap32 b))) ∧ w = w' := by
  have hm : wrap64 (wrap32 a * wrap32 b) = wrap32 a * wrap32 b := IntWalk.wrap64_in _ (by have := mul_fits a b; omega)
  go_enter Try.func16, Try.ntmps16
  go_wp2_with (go_at_call 8; refine (spec_wrap _ _).mono ?_; rintro e w' ⟨rfl, rfl⟩)
  go_ret
  exact ⟨rfl, rfl⟩
theorem impl_add (a b : Int) (w : World) :
    Calls Try.prog 13 #[.int .i64 a, .int .i64 b] w fun e w' => e = .returned (.int .i64 (wrap32 (wrap32 a + wrap32 b))) ∧ w = w' := by
  have hb := wrap32_lo (wrap32 a + wrap32 b)
  go_enter Try.func13, Try.ntmps13
  go_wp2
  go_ret
  exact ⟨rfl, rfl⟩
theorem impl_sub (a b : Int) (w : World) :
    Calls Try.prog 15 #[.int .i64 a, .int .i64 b] w fun e w' => e = .returned (.int .i64 (wrap32 (wrap32 a - wrap32 b))) ∧ w = w' := by
  have hb := wrap32_lo (wrap32 a - wrap32 b)
  go_enter Try.func15, Try.ntmps15
  go_wp2
  go_ret
  exact ⟨rfl, rfl⟩
theorem impl_mul (a b : Int) (w : World) :
    Calls Try.prog 17 #[.int .i64 a, .int .i64 b] w fun e w' => e = .returned (.int .i64 (wrap32 (wrap32 a * wrap32 b))) ∧ w = w' := by
  have hb := wrap32_lo (wrap32 a * wrap32 b)
  go_enter Try.func17, Try.ntmps17
  go_wp2
  go_ret
  exact ⟨rfl, rfl⟩
end Go.Proofs.Ytnpjcgmfmfhgdai.NumCalls
