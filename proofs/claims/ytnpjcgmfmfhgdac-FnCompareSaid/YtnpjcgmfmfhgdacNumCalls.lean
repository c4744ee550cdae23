/-
  What the functions of numbers of 32 bits answer when they are called, one contract a function: the specification's and the program's.
-/
import Derived.Test.YtnpjcgmfmfhgdacRows
import Derived.Test.YtnpjcgmfmfhgdacPlainNum
import Derived.WalkKit
import Derived.ProofKit
import Derived.OpenShut
import Derived.Handy
namespace Go.Proofs.Ytnpjcgmfmfhgdac.NumCalls
open Go.RowKit PlainNum
theorem spec_plain (n : Int) (w : World) :
    Calls Try.prog 44 #[.int .i64 n] w fun e w' => e = .returned (.int .i64 (n % 4294967296)) ∧ w = w' := by
  have e1 := and_low n
  go_enter Try.func44, Try.ntmps44
  go_wp2
  go_ret
  exact ⟨rfl, rfl⟩
theorem spec_wrap (n : Int) (w : World) :
    Calls Try.prog 33 #[.int .i64 n] w fun e w' => e = .returned (.int .i64 (wrap32 n)) ∧ w = w' := by
  by_cases h : 2147483647 < n % 4294967296
  · have e2 := wrap32_hi h
    go_enter Try.func33, Try.ntmps33
    go_wp2_with (go_at_call 44; refine (spec_plain _ _).mono ?_; rintro e w' ⟨rfl, rfl⟩)
    go_ret
    exact ⟨by rw [← e2]; rfl, rfl⟩
  · have e2 := wrap32_low h
    go_enter Try.func33, Try.ntmps33
    go_wp2_with (go_at_call 44; refine (spec_plain _ _).mono ?_; rintro e w' ⟨rfl, rfl⟩)
    go_ret
    exact ⟨by rw [← e2]; rfl, rfl⟩
theorem impl_wrap (n : Int) (w : World) :
    Calls Try.prog 12 #[.int .i64 n] w fun e w' => e = .returned (.int .i64 (wrap32 n)) ∧ w = w' := by
  have hb := wrap32_lo n
  go_enter Try.func12, Try.ntmps12
  go_wp2
  go_ret
  exact ⟨rfl, rfl⟩
theorem impl_plain (n : Int) (w : World) :
    Calls Try.prog 14 #[.int .i64 n] w fun e w' => e = .returned (.int .i64 (n % 4294967296)) ∧ w = w' := by
  have hb := wrap32_lo n
  have e1 : IntKind.u32.wrap (wrap32 n) = n % 4294967296 := by rw [IntKind.wrap_u32]; exact plain_wrap n
  go_enter Try.func14, Try.ntmps14
  go_wp2
  go_ret
  exact ⟨rfl, rfl⟩
theorem spec_add (a b : Int) (w : World) :
    Calls Try.prog 10 #[.int .i64 a, .int .i64 b] w fun e w' => e = .returned (.int .i64 (wrap32 (wrap32 a + wrap32 b))) ∧ w = w' := by
  have ha := wrap32_lo a
  have hb := wrap32_lo b
  go_enter Try.func10, Try.ntmps10
  go_wp2_with (go_at_call 33; refine (spec_wrap _ _).mono ?_; rintro e w' ⟨rfl, rfl⟩)
  go_ret
  exact ⟨rfl, rfl⟩
theorem impl_add (a b : Int) (w : World) :
    Calls Try.prog 9 #[.int .i64 a, .int .i64 b] w fun e w' => e = .returned (.int .i64 (wrap32 (wrap32 a + wrap32 b))) ∧ w = w' := by
  have hb := wrap32_lo (wrap32 a + wrap32 b)
  go_enter Try.func9, Try.ntmps9
  go_wp2
  go_ret
  exact ⟨rfl, rfl⟩
theorem impl_sub (a b : Int) (w : World) :
    Calls Try.prog 11 #[.int .i64 a, .int .i64 b] w fun e w' => e = .returned (.int .i64 (wrap32 (wrap32 a - wrap32 b))) ∧ w = w' := by
  have hb := wrap32_lo (wrap32 a - wrap32 b)
  go_enter Try.func11, Try.ntmps11
  go_wp2
  go_ret
  exact ⟨rfl, rfl⟩
theorem impl_mul (a b : Int) (w : World) :
    Calls Try.prog 13 #[.int .i64 a, .int .i64 b] w fun e w' => e = .returned (.int .i64 (wrap32 (wrap32 a * wrap32 b))) ∧ w = w' := by
  have hb := wrap32_lo (wrap32 a * wrap32 b)
  go_enter Try.func13, Try.ntmps13
  go_wp2
  go_ret
  exact ⟨rfl, rfl⟩
theorem spec_divS (a b : Int) (w : World) :
    Calls Try.prog 18 #[.int .i64 a, .int .i64 b] w fun e w' => e = .returned (.tuple #[.int .i64 (dS a b), .int .i64 (dSc a b)]) ∧ w = w' := by
  have ha := wrap32_lo a
  by_cases h0 : wrap32 b = 0
  · have e1 : dS a b = 0 := by unfold dS; rw [if_pos h0]
    have e2 : dSc a b = 2 := by unfold dSc; rw [if_pos h0]
    have hB : (wrap32 b == 0) = true := by simp [h0]
    rw [e1, e2]
    clear h0 e1 e2
    go_enter Try.func18, Try.ntmps18
    go_wp2_with (go_at_call 33; refine (spec_wrap _ _).mono ?_; rintro e w' ⟨rfl, rfl⟩)
    go_ret2
    exact ⟨rfl, rfl⟩
  · have hB : (wrap32 b == 0) = false := by simp [h0]
    by_cases h1 : wrap32 a = -2147483648 ∧ wrap32 b = -1
    · have e1 : dS a b = 0 := by unfold dS; rw [if_neg h0, if_pos h1]
      have e2 : dSc a b = 3 := by unfold dSc; rw [if_neg h0, if_pos h1]
      have hA : (wrap32 a == -2147483648) = true := by simp [h1.1]
      have hC : (wrap32 b == -1) = true := by simp [h1.2]
      rw [e1, e2]
      clear h0 h1 e1 e2
      go_enter Try.func18, Try.ntmps18
      go_wp2_with (go_at_call 33; refine (spec_wrap _ _).mono ?_; rintro e w' ⟨rfl, rfl⟩)
      go_ret2
      exact ⟨rfl, rfl⟩
    · have e1 : dS a b = (wrap32 a).tdiv (wrap32 b) := by unfold dS; rw [if_neg h0, if_neg h1]
      have e2 : dSc a b = 0 := by unfold dSc; rw [if_neg h0, if_neg h1]
      have hq := tdiv_fits ha h0 h1
      rw [e1, e2]
      clear e1 e2
      by_cases hA : wrap32 a = -2147483648
      · have hC : (wrap32 b == -1) = false := by simp; exact fun h => h1 ⟨hA, h⟩
        have hA' : (wrap32 a == -2147483648) = true := by simp [hA]
        clear h1 hA
        go_enter Try.func18, Try.ntmps18
        go_wp2_with (go_at_call 33; refine (spec_wrap _ _).mono ?_; rintro e w' ⟨rfl, rfl⟩)
        go_ret2
        exact ⟨rfl, rfl⟩
      · have hA' : (wrap32 a == -2147483648) = false := by simp [hA]
        clear h1 hA
        go_enter Try.func18, Try.ntmps18
        go_wp2_with (go_at_call 33; refine (spec_wrap _ _).mono ?_; rintro e w' ⟨rfl, rfl⟩)
        go_ret2
        exact ⟨rfl, rfl⟩
theorem impl_divS (a b : Int) (w : World) :
    Calls Try.prog 16 #[.int .i64 a, .int .i64 b] w fun e w' => e = .returned (.tuple #[.int .i64 (dS a b), .int .i64 (dSc a b)]) ∧ w = w' := by
  have ha := wrap32_lo a
  by_cases h0 : wrap32 b = 0
  · have e1 : dS a b = 0 := by unfold dS; rw [if_pos h0]
    have e2 : dSc a b = 2 := by unfold dSc; rw [if_pos h0]
    have hB : (wrap32 b == 0) = true := by simp [h0]
    rw [e1, e2]
    clear h0 e1 e2
    go_enter Try.func16, Try.ntmps16
    go_wp2
    go_ret2
    exact ⟨rfl, rfl⟩
  · have hB : (wrap32 b == 0) = false := by simp [h0]
    by_cases h1 : wrap32 a = -2147483648 ∧ wrap32 b = -1
    · have e1 : dS a b = 0 := by unfold dS; rw [if_neg h0, if_pos h1]
      have e2 : dSc a b = 3 := by unfold dSc; rw [if_neg h0, if_pos h1]
      have hA : (wrap32 a == -2147483648) = true := by simp [h1.1]
      have hC : (wrap32 b == -1) = true := by simp [h1.2]
      rw [e1, e2]
      clear h0 h1 e1 e2
      go_enter Try.func16, Try.ntmps16
      go_wp2
      go_ret2
      exact ⟨rfl, rfl⟩
    · have e1 : dS a b = (wrap32 a).tdiv (wrap32 b) := by unfold dS; rw [if_neg h0, if_neg h1]
      have e2 : dSc a b = 0 := by unfold dSc; rw [if_neg h0, if_neg h1]
      have hq := tdiv_fits ha h0 h1
      rw [e1, e2]
      clear e1 e2
      by_cases hA : wrap32 a = -2147483648
      · have hC : (wrap32 b == -1) = false := by simp; exact fun h => h1 ⟨hA, h⟩
        have hA' : (wrap32 a == -2147483648) = true := by simp [hA]
        clear h1 hA
        go_enter Try.func16, Try.ntmps16
        go_wp2
        go_ret2
        exact ⟨rfl, rfl⟩
      · have hA' : (wrap32 a == -2147483648) = false := by simp [hA]
        clear h1 hA
        go_enter Try.func16, Try.ntmps16
        go_wp2
        go_ret2
        exact ⟨rfl, rfl⟩
theorem spec_remS (a b : Int) (w : World) :
    Calls Try.prog 19 #[.int .i64 a, .int .i64 b] w fun e w' => e = .returned (.tuple #[.int .i64 (rS a b), .int .i64 (zc b)]) ∧ w = w' := by
  have ha := wrap32_lo a
  by_cases h0 : wrap32 b = 0
  · have e1 : rS a b = 0 := by unfold rS; rw [if_pos h0]
    have e2 : zc b = 2 := by unfold zc; rw [if_pos h0]
    have hB : (wrap32 b == 0) = true := by simp [h0]
    rw [e1, e2]
    clear h0 e1 e2
    go_enter Try.func19, Try.ntmps19
    go_wp2_with (go_at_call 33; refine (spec_wrap _ _).mono ?_; rintro e w' ⟨rfl, rfl⟩)
    go_ret2
    exact ⟨rfl, rfl⟩
  · have e1 : rS a b = (wrap32 a).tmod (wrap32 b) := by unfold rS; rw [if_neg h0]
    have e2 : zc b = 0 := by unfold zc; rw [if_neg h0]
    have hB : (wrap32 b == 0) = false := by simp [h0]
    have hq := tmod_fits (y := wrap32 b) ha
    rw [e1, e2]
    clear e1 e2
    go_enter Try.func19, Try.ntmps19
    go_wp2_with (go_at_call 33; refine (spec_wrap _ _).mono ?_; rintro e w' ⟨rfl, rfl⟩)
    go_ret2
    exact ⟨rfl, rfl⟩
theorem impl_remS (a b : Int) (w : World) :
    Calls Try.prog 17 #[.int .i64 a, .int .i64 b] w fun e w' => e = .returned (.tuple #[.int .i64 (rS a b), .int .i64 (zc b)]) ∧ w = w' := by
  have ha := wrap32_lo a
  by_cases h0 : wrap32 b = 0
  · have e1 : rS a b = 0 := by unfold rS; rw [if_pos h0]
    have e2 : zc b = 2 := by unfold zc; rw [if_pos h0]
    have hB : (wrap32 b == 0) = true := by simp [h0]
    rw [e1, e2]
    clear h0 e1 e2
    go_enter Try.func17, Try.ntmps17
    go_wp2
    go_ret2
    exact ⟨rfl, rfl⟩
  · have e1 : rS a b = (wrap32 a).tmod (wrap32 b) := by unfold rS; rw [if_neg h0]
    have e2 : zc b = 0 := by unfold zc; rw [if_neg h0]
    have hB : (wrap32 b == 0) = false := by simp [h0]
    have hq := tmod_fits (y := wrap32 b) ha
    rw [e1, e2]
    clear e1 e2
    go_enter Try.func17, Try.ntmps17
    go_wp2
    go_ret2
    exact ⟨rfl, rfl⟩
theorem impl_divU (a b : Int) (w : World) :
    Calls Try.prog 20 #[.int .i64 a, .int .i64 b] w fun e w' => e = .returned (.tuple #[.int .i64 (dU a b), .int .i64 (zc b)]) ∧ w = w' := by
  by_cases h0 : wrap32 b = 0
  · have e1 : dU a b = 0 := by unfold dU; rw [if_pos h0]
    have e2 : zc b = 2 := by unfold zc; rw [if_pos h0]
    have hB : (wrap32 b == 0) = true := by simp [h0]
    rw [e1, e2]
    clear h0 e1 e2
    go_enter Try.func20, Try.ntmps20
    go_wp2
    go_ret2
    exact ⟨rfl, rfl⟩
  · have e1 : dU a b = wrap32 ((a % 4294967296) / (b % 4294967296)) := by unfold dU; rw [if_neg h0]
    have e2 : zc b = 0 := by unfold zc; rw [if_neg h0]
    have hB : (wrap32 b == 0) = false := by simp [h0]
    have hz : b % 4294967296 ≠ 0 := fun h => h0 ((zero_plain b).2 h)
    have hz' : (b % 4294967296 == 0) = false := by simp [hz]
    have hb : 1 ≤ b % 4294967296 := by omega
    have hq := div_fits (x := a % 4294967296) (y := b % 4294967296) (by omega) (by omega)
    have u1 : IntKind.u32.wrap (wrap32 a) = a % 4294967296 := by rw [IntKind.wrap_u32]; exact plain_wrap a
    have u2 : IntKind.u32.wrap (wrap32 b) = b % 4294967296 := by rw [IntKind.wrap_u32]; exact plain_wrap b
    have hr := wrap32_lo (a % 4294967296 / (b % 4294967296))
    rw [e1, e2]
    clear h0 e1 e2 hz
    go_enter Try.func20, Try.ntmps20
    go_wp2
    go_ret2
    exact ⟨rfl, rfl⟩
theorem impl_remU (a b : Int) (w : World) :
    Calls Try.prog 21 #[.int .i64 a, .int .i64 b] w fun e w' => e = .returned (.tuple #[.int .i64 (rU a b), .int .i64 (zc b)]) ∧ w = w' := by
  by_cases h0 : wrap32 b = 0
  · have e1 : rU a b = 0 := by unfold rU; rw [if_pos h0]
    have e2 : zc b = 2 := by unfold zc; rw [if_pos h0]
    have hB : (wrap32 b == 0) = true := by simp [h0]
    rw [e1, e2]
    clear h0 e1 e2
    go_enter Try.func21, Try.ntmps21
    go_wp2
    go_ret2
    exact ⟨rfl, rfl⟩
  · have e1 : rU a b = wrap32 ((a % 4294967296) % (b % 4294967296)) := by unfold rU; rw [if_neg h0]
    have e2 : zc b = 0 := by unfold zc; rw [if_neg h0]
    have hB : (wrap32 b == 0) = false := by simp [h0]
    have hz : b % 4294967296 ≠ 0 := fun h => h0 ((zero_plain b).2 h)
    have hz' : (b % 4294967296 == 0) = false := by simp [hz]
    have hb : 1 ≤ b % 4294967296 := by omega
    have hq := mod_fits (x := a % 4294967296) (y := b % 4294967296) (by omega) (by omega)
    have u1 : IntKind.u32.wrap (wrap32 a) = a % 4294967296 := by rw [IntKind.wrap_u32]; exact plain_wrap a
    have u2 : IntKind.u32.wrap (wrap32 b) = b % 4294967296 := by rw [IntKind.wrap_u32]; exact plain_wrap b
    have hr := wrap32_lo (a % 4294967296 % (b % 4294967296))
    rw [e1, e2]
    clear h0 e1 e2 hz
    go_enter Try.func21, Try.ntmps21
    go_wp2
    go_ret2
    exact ⟨rfl, rfl⟩
end Go.Proofs.Ytnpjcgmfmfhgdac.NumCalls
