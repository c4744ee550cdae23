/-
  What the program's Clz and Pop answer, and the walks of their exact laws: each returns true.
-/
import Derived.Test.YtnpjcgmfmfhgdakZeroCalls
import Derived.Test.YtnpjcgmfmfhgdakShelf
namespace Go.Proofs.Ytnpjcgmfmfhgdak.ZeroLaws
open Go.RowKit PlainNum NumCalls PlainZero ZeroCalls
theorem impl_clz (n : Int) (w : World) :
    Calls Try.prog 6 #[.int .i64 n] w fun e w' => e = .returned (.int .i64 (32 - (Lib.bitLen (n % 4294967296).toNat : Int))) ∧ w = w' := by
  have u1 : IntKind.u32.wrap (wrap32 n) = n % 4294967296 := by rw [IntKind.wrap_u32]; exact plain_wrap n
  go_enter Try.func6, Try.ntmps6
  go_wp2_with (first | (go_at_call 10; refine (Try.bits_LeadingZeros32 (n % 4294967296) _ (Int.emod_nonneg _ (by decide)) (by omega)).mono ?_; rintro e w' ⟨rfl, rfl⟩) | go_in)
  go_ret
  exact ⟨rfl, rfl⟩
theorem impl_pop (n : Int) (w : World) :
    Calls Try.prog 8 #[.int .i64 n] w fun e w' => e = .returned (.int .i64 (popN (n % 4294967296) 32)) ∧ ∃ m, w' = w.drewN m := by
  have u1 : IntKind.u32.wrap (wrap32 n) = n % 4294967296 := by rw [IntKind.wrap_u32]; exact plain_wrap n
  go_enter Try.func8, Try.ntmps8
  go_wp2_with (first | (go_at_call 13; refine (lib_pop (n % 4294967296) _ (Int.emod_nonneg _ (by decide)) (by omega)).mono ?_; rintro e w' ⟨rfl, m, rfl⟩) | go_in)
  go_ret
  exact ⟨rfl, _, rfl⟩
theorem fnExactClz (n : Int) (w : World) :
    Calls Try.prog 3 #[.int .i64 n] w fun e w' => e = .returned (.bool true) ∧ Grown w w' := by
  go_enter Try.func3, Try.ntmps3
  go_wp2_with (first | (go_at_call 5; refine (spec_clz _ _).mono ?_; rintro e w' ⟨rfl, rfl⟩) | (go_at_call 6; refine (impl_clz _ _).mono ?_; rintro e w' ⟨rfl, rfl⟩))
  go_ret
  exact ⟨rfl, Grown.refl _⟩
theorem fnExactPop (n : Int) (w : World) :
    Calls Try.prog 4 #[.int .i64 n] w fun e w' => e = .returned (.bool true) ∧ Grown w w' := by
  go_enter Try.func4, Try.ntmps4
  go_wp2_with (first | (go_at_call 7; refine (spec_pop _ _).mono ?_; rintro e w' ⟨rfl, rfl⟩) | (go_at_call 8; refine (impl_pop _ _).mono ?_; rintro e w' ⟨rfl, m, rfl⟩))
  go_ret
  exact ⟨rfl, (Grown.refl w : Grown w w)⟩
end Go.Proofs.Ytnpjcgmfmfhgdak.ZeroLaws
