/-
  What the specification's l02Char answers when it is called.
-/
import Derived.Test.YtffngjgjhialnaaGreatDoorPlainUtf
import Derived.Test.YtffngjgjhialnaaGreatDoorRows
import Derived.WalkKit
import Derived.ProofKit
import Derived.OpenShut
import Derived.Handy
import Derived.Deep.QuietTactic
import Derived.BigQuiet
import Derived.Below
import Derived.WalkSpells
import Derived.WalkSmall
namespace Go.Proofs.YtffngjgjhialnaaGreatDoor.UtfCalls
open Go.RowKit PlainNum PlainUtf

theorem and31 (a : Int) : bits .and .i64 a 31 = a % 32 := by
  rw [and_nat64, show ((31 : Int) % 18446744073709551616).toNat = 2 ^ 5 - 1 by decide, Nat.and_two_pow_sub_one_eq_mod, IntKind.wrap_i64]; omega
theorem and15 (a : Int) : bits .and .i64 a 15 = a % 16 := by
  rw [and_nat64, show ((15 : Int) % 18446744073709551616).toNat = 2 ^ 4 - 1 by decide, Nat.and_two_pow_sub_one_eq_mod, IntKind.wrap_i64]; omega
theorem and7 (a : Int) : bits .and .i64 a 7 = a % 8 := by
  rw [and_nat64, show ((7 : Int) % 18446744073709551616).toNat = 2 ^ 3 - 1 by decide, Nat.and_two_pow_sub_one_eq_mod, IntKind.wrap_i64]; omega
theorem and63 (a : Int) : bits .and .i64 a 63 = a % 64 := by
  rw [and_nat64, show ((63 : Int) % 18446744073709551616).toNat = 2 ^ 6 - 1 by decide, Nat.and_two_pow_sub_one_eq_mod, IntKind.wrap_i64]; omega
set_option maxRecDepth 100000 in
set_option maxHeartbeats 4000000 in
theorem char1 (s : ByteArray) (i : Nat) (w : World) (hi : i < s.size) (h : by' s i < 128) :
    Calls Tryz.prog 136 #[.string s, .int .i64 (i : Int)] w fun e w' => e = .returned (.int .i64 (wd s i : Int)) ∧ w = w' := by
  have hres : Hid (wd s i = 1) := if_pos h
  have hb := get_by s
  have h' : (by' s i : Int) < 128 := by omega
  have hi' : (i : Int) < (s.size : Int) := by omega
  go_enter Tryz.func136, Tryz.ntmps136
  go_wp2_with fail
  go_ret
  exact ⟨by rw [hres.out]; rfl, rfl⟩
set_option maxRecDepth 100000 in
set_option maxHeartbeats 8000000 in
theorem char2 (s : ByteArray) (i : Nat) (w : World) (hi : i < s.size) (hs : s.size ≤ 1048576) (h : 194 ≤ by' s i ∧ by' s i < 224) :
    Calls Tryz.prog 136 #[.string s, .int .i64 (i : Int)] w fun e w' => e = .returned (.int .i64 (wd s i : Int)) ∧ w = w' := by
  have hb := get_by s
  have a1 := and31 (by' s i : Int)
  have c1 := and63 (by' s (i + 1) : Int)
  have hl1 := by_lt s (i + 1)
  have q0 : ¬ (by' s i : Int) < 128 := by omega
  have q1 : 194 ≤ (by' s i : Int) := by omega
  have q2 : (by' s i : Int) < 224 := by omega
  have hi' : (i : Int) < (s.size : Int) := by omega
  obtain ⟨R, hR⟩ : ∃ R, wd s i = R := ⟨_, rfl⟩
  rw [hR]
  have hR' : Hid (wd s i = R) := hR
  clear hR
  go_enter Tryz.func136, Tryz.ntmps136
  go_wp2_with fail
  · (go_ret; refine ⟨?_, rfl⟩; refine congrArg (fun z : Int => Ending.returned (Value.int .i64 z)) ?_; rw [← hR'.out]; unfold wd; (repeat' split) <;> omega)
  · refine wp_loop_rounds 2 ?_
    all_goals rw [rounds_succ]
    all_goals go_wp2_with fail
    all_goals first | (go_ret; refine ⟨?_, rfl⟩; refine congrArg (fun z : Int => Ending.returned (Value.int .i64 z)) ?_; rw [← hR'.out]; unfold wd; (repeat' split) <;> omega) | skip
    all_goals rw [rounds_succ]
    all_goals go_wp2_with fail
    all_goals first | (go_ret; refine ⟨?_, rfl⟩; refine congrArg (fun z : Int => Ending.returned (Value.int .i64 z)) ?_; rw [← hR'.out]; unfold wd; (repeat' split) <;> omega) | skip
set_option maxRecDepth 100000 in
set_option maxHeartbeats 8000000 in
theorem char3 (s : ByteArray) (i : Nat) (w : World) (hi : i < s.size) (hs : s.size ≤ 1048576) (h : 224 ≤ by' s i ∧ by' s i < 240) :
    Calls Tryz.prog 136 #[.string s, .int .i64 (i : Int)] w fun e w' => e = .returned (.int .i64 (wd s i : Int)) ∧ w = w' := by
  have hb := get_by s
  have a1 := and15 (by' s i : Int)
  have c1 := and63 (by' s (i + 1) : Int)
  have hl1 := by_lt s (i + 1)
  have c2 := and63 (by' s (i + 2) : Int)
  have hl2 := by_lt s (i + 2)
  have q0 : ¬ (by' s i : Int) < 128 := by omega
  have q1 : 194 ≤ (by' s i : Int) := by omega
  have q2 : ¬ (by' s i : Int) < 224 := by omega
  have q3 : 224 ≤ (by' s i : Int) := by omega
  have q4 : (by' s i : Int) < 240 := by omega
  have hi' : (i : Int) < (s.size : Int) := by omega
  obtain ⟨R, hR⟩ : ∃ R, wd s i = R := ⟨_, rfl⟩
  rw [hR]
  have hR' : Hid (wd s i = R) := hR
  clear hR
  go_enter Tryz.func136, Tryz.ntmps136
  go_wp2_with fail
  · (go_ret; refine ⟨?_, rfl⟩; refine congrArg (fun z : Int => Ending.returned (Value.int .i64 z)) ?_; rw [← hR'.out]; unfold wd; (repeat' split) <;> omega)
  · refine wp_loop_rounds 3 ?_
    all_goals rw [rounds_succ]
    all_goals go_wp2_with fail
    all_goals first | (go_ret; refine ⟨?_, rfl⟩; refine congrArg (fun z : Int => Ending.returned (Value.int .i64 z)) ?_; rw [← hR'.out]; unfold wd; (repeat' split) <;> omega) | skip
    all_goals rw [rounds_succ]
    all_goals go_wp2_with fail
    all_goals first | (go_ret; refine ⟨?_, rfl⟩; refine congrArg (fun z : Int => Ending.returned (Value.int .i64 z)) ?_; rw [← hR'.out]; unfold wd; (repeat' split) <;> omega) | skip
    all_goals rw [rounds_succ]
    all_goals go_wp2_with fail
    all_goals first | (go_ret; refine ⟨?_, rfl⟩; refine congrArg (fun z : Int => Ending.returned (Value.int .i64 z)) ?_; rw [← hR'.out]; unfold wd; (repeat' split) <;> omega) | skip
set_option maxRecDepth 100000 in
set_option maxHeartbeats 8000000 in
theorem char4 (s : ByteArray) (i : Nat) (w : World) (hi : i < s.size) (hs : s.size ≤ 1048576) (h : 240 ≤ by' s i ∧ by' s i < 245) :
    Calls Tryz.prog 136 #[.string s, .int .i64 (i : Int)] w fun e w' => e = .returned (.int .i64 (wd s i : Int)) ∧ w = w' := by
  have hb := get_by s
  have a1 := and7 (by' s i : Int)
  have c1 := and63 (by' s (i + 1) : Int)
  have hl1 := by_lt s (i + 1)
  have c2 := and63 (by' s (i + 2) : Int)
  have hl2 := by_lt s (i + 2)
  have c3 := and63 (by' s (i + 3) : Int)
  have hl3 := by_lt s (i + 3)
  have q0 : ¬ (by' s i : Int) < 128 := by omega
  have q1 : 194 ≤ (by' s i : Int) := by omega
  have q2 : ¬ (by' s i : Int) < 224 := by omega
  have q3 : 224 ≤ (by' s i : Int) := by omega
  have q4 : ¬ (by' s i : Int) < 240 := by omega
  have q5 : 240 ≤ (by' s i : Int) := by omega
  have q6 : (by' s i : Int) < 245 := by omega
  have hi' : (i : Int) < (s.size : Int) := by omega
  obtain ⟨R, hR⟩ : ∃ R, wd s i = R := ⟨_, rfl⟩
  rw [hR]
  have hR' : Hid (wd s i = R) := hR
  clear hR
  go_enter Tryz.func136, Tryz.ntmps136
  go_wp2_with fail
  · (go_ret; refine ⟨?_, rfl⟩; refine congrArg (fun z : Int => Ending.returned (Value.int .i64 z)) ?_; rw [← hR'.out]; unfold wd; (repeat' split) <;> omega)
  · refine wp_loop_rounds 4 ?_
    all_goals rw [rounds_succ]
    all_goals go_wp2_with fail
    all_goals first | (go_ret; refine ⟨?_, rfl⟩; refine congrArg (fun z : Int => Ending.returned (Value.int .i64 z)) ?_; rw [← hR'.out]; unfold wd; (repeat' split) <;> omega) | skip
    all_goals rw [rounds_succ]
    all_goals go_wp2_with fail
    all_goals first | (go_ret; refine ⟨?_, rfl⟩; refine congrArg (fun z : Int => Ending.returned (Value.int .i64 z)) ?_; rw [← hR'.out]; unfold wd; (repeat' split) <;> omega) | skip
    all_goals rw [rounds_succ]
    all_goals go_wp2_with fail
    all_goals first | (go_ret; refine ⟨?_, rfl⟩; refine congrArg (fun z : Int => Ending.returned (Value.int .i64 z)) ?_; rw [← hR'.out]; unfold wd; (repeat' split) <;> omega) | skip
    all_goals rw [rounds_succ]
    all_goals go_wp2_with fail
    all_goals first | (go_ret; refine ⟨?_, rfl⟩; refine congrArg (fun z : Int => Ending.returned (Value.int .i64 z)) ?_; rw [← hR'.out]; unfold wd; (repeat' split) <;> omega) | skip
set_option maxRecDepth 100000 in
set_option maxHeartbeats 4000000 in
theorem char0 (s : ByteArray) (i : Nat) (w : World) (hi : i < s.size) (h : 128 ≤ by' s i ∧ by' s i < 194) :
    Calls Tryz.prog 136 #[.string s, .int .i64 (i : Int)] w fun e w' => e = .returned (.int .i64 (wd s i : Int)) ∧ w = w' := by
  have hb := get_by s
  have hl1 := by_lt s (i + 1)
  have q0 : ¬ (by' s i : Int) < 128 := by omega
  have q1 : ¬ 194 ≤ (by' s i : Int) := by omega
  have q2 : ¬ 224 ≤ (by' s i : Int) := by omega
  have q3 : ¬ 240 ≤ (by' s i : Int) := by omega
  have hi' : (i : Int) < (s.size : Int) := by omega
  obtain ⟨R, hR⟩ : ∃ R, wd s i = R := ⟨_, rfl⟩
  rw [hR]
  have hR' : Hid (wd s i = R) := hR
  clear hR
  go_enter Tryz.func136, Tryz.ntmps136
  go_wp2_with fail
  (go_ret; refine ⟨?_, rfl⟩; refine congrArg (fun z : Int => Ending.returned (Value.int .i64 z)) ?_; rw [← hR'.out]; unfold wd; (repeat' split) <;> omega)
set_option maxRecDepth 100000 in
set_option maxHeartbeats 4000000 in
theorem char5 (s : ByteArray) (i : Nat) (w : World) (hi : i < s.size) (h : 245 ≤ by' s i ∧ by' s i < 256) :
    Calls Tryz.prog 136 #[.string s, .int .i64 (i : Int)] w fun e w' => e = .returned (.int .i64 (wd s i : Int)) ∧ w = w' := by
  have hb := get_by s
  have hl1 := by_lt s (i + 1)
  have q0 : ¬ (by' s i : Int) < 128 := by omega
  have q1 : 194 ≤ (by' s i : Int) := by omega
  have q2 : ¬ (by' s i : Int) < 224 := by omega
  have q3 : 224 ≤ (by' s i : Int) := by omega
  have q4 : ¬ (by' s i : Int) < 240 := by omega
  have q5 : 240 ≤ (by' s i : Int) := by omega
  have q6 : ¬ (by' s i : Int) < 245 := by omega
  have hi' : (i : Int) < (s.size : Int) := by omega
  obtain ⟨R, hR⟩ : ∃ R, wd s i = R := ⟨_, rfl⟩
  rw [hR]
  have hR' : Hid (wd s i = R) := hR
  clear hR
  go_enter Tryz.func136, Tryz.ntmps136
  go_wp2_with fail
  (go_ret; refine ⟨?_, rfl⟩; refine congrArg (fun z : Int => Ending.returned (Value.int .i64 z)) ?_; rw [← hR'.out]; unfold wd; (repeat' split) <;> omega)
theorem spec_char (s : ByteArray) (i : Nat) (w : World) (hi : i < s.size) (hs : s.size ≤ 1048576) :
    Calls Tryz.prog 136 #[.string s, .int .i64 (i : Int)] w fun e w' => e = .returned (.int .i64 (wd s i : Int)) ∧ w = w' := by
  have hl := by_lt s i
  rcases (show by' s i < 128 ∨ (128 ≤ by' s i ∧ by' s i < 194) ∨ (194 ≤ by' s i ∧ by' s i < 224) ∨ (224 ≤ by' s i ∧ by' s i < 240) ∨ (240 ≤ by' s i ∧ by' s i < 245) ∨ (245 ≤ by' s i ∧ by' s i < 256) by omega) with h | h | h | h | h | h
  · exact char1 s i w hi h
  · exact char0 s i w hi h
  · exact char2 s i w hi hs h
  · exact char3 s i w hi hs h
  · exact char4 s i w hi hs h
  · exact char5 s i w hi h
end Go.Proofs.YtffngjgjhialnaaGreatDoor.UtfCalls
