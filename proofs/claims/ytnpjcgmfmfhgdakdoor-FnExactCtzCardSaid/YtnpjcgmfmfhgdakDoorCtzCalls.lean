/-
  What Ctz of numbers of 32 bits answers when it is called: the specification's.
-/
import Derived.Test.YtnpjcgmfmfhgdakDoorNumCalls
import Derived.Test.YtnpjcgmfmfhgdakDoorPlainCtz
namespace Go.Proofs.YtnpjcgmfmfhgdakDoor.CtzCalls
open Go.RowKit PlainNum NumCalls PlainCtz
theorem spec_ctz (n : Int) (w : World) :
    Calls Tryd.prog 6 #[.int .i64 n] w fun e w' => e = .returned (.int .i64 (Lib.ctz 32 (n % 4294967296).toNat : Int)) ∧ w = w' := by
  go_enter Tryd.func6, Tryd.ntmps6
  go_wp2
  go_loop [3] (fun i => ∃ k : Nat, k ≤ 32 ∧ i = .int .i64 k ∧ (n % 4294967296).toNat % 2 ^ k = 0) (fun i => 32 - (intOf i).toNat)
  case atStart => exact ⟨0, by omega, rfl, by omega⟩
  case round =>
    obtain ⟨k, hk, rfl, hx⟩ := hrel
    have ha := and1 (n % 4294967296 / 2 ^ k)
    by_cases h : k = 32
    · subst h
      have hl : Hid ((32 : Int) = (Lib.ctz 32 (n % 4294967296).toNat : Int)) := by show (32 : Int) = _; rw [ctz_end _ (by omega) hx]; rfl
      clear ha hx hk
      go_wp2
      go_ret
      exact ⟨congrArg (fun x => Ending.returned (.int .i64 x)) hl.out, rfl⟩
    · have hlt : (k : Int) < 32 := by omega
      by_cases hb : (n % 4294967296).toNat / 2 ^ k % 2 = 1
      · have hb' : (n % 4294967296 / 2 ^ k % 2 == 1) = true := by rw [bit_cast, hb]; rfl
        have hl : Hid ((k : Int) = (Lib.ctz 32 (n % 4294967296).toNat : Int)) := by show (k : Int) = _; rw [ctz_at _ k (by omega) hx hb]
        clear hb hx
        go_wp2_with (go_at_call 12; refine (spec_plain _ _).mono ?_; rintro e w' ⟨rfl, rfl⟩)
        go_ret
        exact ⟨congrArg (fun x => Ending.returned (.int .i64 x)) hl.out, rfl⟩
      · have hb' : (n % 4294967296 / 2 ^ k % 2 == 1) = false := by
          rw [bit_cast, show (n % 4294967296).toNat / 2 ^ k % 2 = 0 by omega]; rfl
        have hn : Hid ((n % 4294967296).toNat % 2 ^ (k + 1) = 0) := next _ k hx hb
        clear hb hx
        go_wp2_with (go_at_call 12; refine (spec_plain _ _).mono ?_; rintro e w' ⟨rfl, rfl⟩)
        go_round
        case rel => exact ⟨k + 1, by omega, by go_num, hn.out⟩
        case measure => simp only [intOf]; omega
end Go.Proofs.YtnpjcgmfmfhgdakDoor.CtzCalls
