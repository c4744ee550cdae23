/-
  What Clz, Ctz and Pop of numbers of 32 bits answer when they are called.
-/
import Derived.Test.YtnpjcgmfmfhgdacDoorNumCalls
import Derived.Test.YtnpjcgmfmfhgdacDoorPlainZero
import Derived.Test.YtnpjcgmfmfhgdacDoorPopTable
import Derived.Deep.QuietTactic
import Derived.BigQuiet
namespace Go.Proofs.YtnpjcgmfmfhgdacDoor.ZeroCalls
open Go.RowKit PlainNum NumCalls PlainZero
theorem spec_pop (n : Int) (w : World) :
    Calls Tryd.prog 7 #[.int .i64 n] w fun e w' => e = .returned (.int .i64 (popN (n % 4294967296) 32)) ∧ w = w' := by
  go_enter Tryd.func7, Tryd.ntmps7
  go_wp2
  go_loop [3, 4] (fun t i => ∃ k : Nat, k ≤ 32 ∧ i = .int .i64 k ∧ t = .int .i64 (popN (n % 4294967296) k)) (fun _ i => 32 - (intOf i).toNat)
  case atStart => exact ⟨0, by omega, rfl, rfl⟩
  case round =>
    obtain ⟨k, hk, rfl, rfl⟩ := hrel
    have ha := and1 (n % 4294967296 / 2 ^ k)
    have hp := popN_fits (n % 4294967296) k
    by_cases h : k = 32
    · subst h
      clear ha hp hk
      go_wp2
      go_ret
      exact ⟨rfl, rfl⟩
    · have hlt : (k : Int) < 32 := by omega
      go_wp2_with (go_at_call 22; refine (spec_plain _ _).mono ?_; rintro e w' ⟨rfl, rfl⟩)
      go_round
      case rel => exact ⟨k + 1, by omega, by go_num, rfl⟩
      case measure => simp only [intOf]; omega
theorem lib_pop (x : Int) (w : World) (h0 : 0 ≤ x) (h1 : x ≤ 4294967295) :
    Calls Tryd.prog 19 #[.int .u32 x] w fun e w' => e = .returned (.int .i64 (popN x 32)) ∧ ∃ m, w' = w.drewN m := by
  have a1 := and255 (x / 65536) (by omega) (by omega)
  have a2 := and255 (x / 256) (by omega) (by omega)
  have a3 := and255 x h0 h1
  have f1 := pop8_fits (x / 16777216) (by omega) (by omega)
  have f2 := pop8_fits (x / 65536 % 256) (by omega) (by omega)
  have f3 := pop8_fits (x / 256 % 256) (by omega) (by omega)
  have f4 := pop8_fits (x % 256) (by omega) (by omega)
  have hs : Hid (Lib.pop8 (x / 16777216) + Lib.pop8 (x / 65536 % 256) + Lib.pop8 (x / 256 % 256) + Lib.pop8 (x % 256) = popN x 32) := pop_four x h0 h1
  have hfold := PopTable.fold
  have r1 : ∀ u, (Instr.index 9 (.string Lib.pop8tab) (.int .u32 (x / 16777216))).run Tryd.prog u = .ok (.int .u8 (Lib.pop8 (x / 16777216))) u := fun u => Lib.run_index_pop8tab u 9 .u32 _ Tryd.underlying9 (by omega) (by omega)
  have r2 : ∀ u, (Instr.index 9 (.string Lib.pop8tab) (.int .u32 (x / 65536 % 256))).run Tryd.prog u = .ok (.int .u8 (Lib.pop8 (x / 65536 % 256))) u := fun u => Lib.run_index_pop8tab u 9 .u32 _ Tryd.underlying9 (by omega) (by omega)
  have r3 : ∀ u, (Instr.index 9 (.string Lib.pop8tab) (.int .u32 (x / 256 % 256))).run Tryd.prog u = .ok (.int .u8 (Lib.pop8 (x / 256 % 256))) u := fun u => Lib.run_index_pop8tab u 9 .u32 _ Tryd.underlying9 (by omega) (by omega)
  have r4 : ∀ u, (Instr.index 9 (.string Lib.pop8tab) (.int .u32 (x % 256))).run Tryd.prog u = .ok (.int .u8 (Lib.pop8 (x % 256))) u := fun u => Lib.run_index_pop8tab u 9 .u32 _ Tryd.underlying9 (by omega) (by omega)
  go_enter Tryd.func19, Tryd.ntmps19
  go_wp2
  go_quiet (fail)
  go_wp2
  go_ret
  exact ⟨congrArg (fun x => Ending.returned (.int .i64 x)) hs.out, _, rfl⟩
end Go.Proofs.YtnpjcgmfmfhgdacDoor.ZeroCalls
