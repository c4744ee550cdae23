/-
  Plain arithmetic on integers that wrap to 32 and 64 bits, no program in sight: what the walks of this seat lean on.
  Plain facts on characters in UTF-8: how many bytes the right one at a place has; no program in sight.
  What the specification's l02Char answers when it is called.
-/
import Derived.WalkKit
import Derived.Laws.BitsAll
import Derived.Shelf.Unicode.DecodeAny
import Derived.Test.YtajlkdidjelpeaaGreatDoorRows
import Derived.ProofKit
import Derived.OpenShut
import Derived.Handy
import Derived.Deep.QuietTactic
import Derived.BigQuiet
import Derived.Below
import Derived.WalkSpells
import Derived.WalkSmall
namespace Go.Proofs.YtajlkdidjelpeaaGreatDoor.PlainNum
open Go.RowKit
theorem and_nat64 (x y : Int) : bits .and .i64 x y = IntKind.i64.wrap (((x % 18446744073709551616).toNat &&& (y % 18446744073709551616).toNat : Nat) : Int) := by
  show IntKind.i64.wrap ((BitVec.ofInt 64 x &&& BitVec.ofInt 64 y).toNat : Int) = _
  rw [BitVec.toNat_and, BitVec.toNat_ofInt, BitVec.toNat_ofInt]; rfl
theorem or_nat64 (x y : Int) : bits .or .i64 x y = IntKind.i64.wrap (((x % 18446744073709551616).toNat ||| (y % 18446744073709551616).toNat : Nat) : Int) := by
  show IntKind.i64.wrap ((BitVec.ofInt 64 x ||| BitVec.ofInt 64 y).toNat : Int) = _
  rw [BitVec.toNat_or, BitVec.toNat_ofInt, BitVec.toNat_ofInt]; rfl
theorem xor_nat64 (x y : Int) : bits .xor .i64 x y = IntKind.i64.wrap (((x % 18446744073709551616).toNat ^^^ (y % 18446744073709551616).toNat : Nat) : Int) := by
  show IntKind.i64.wrap ((BitVec.ofInt 64 x ^^^ BitVec.ofInt 64 y).toNat : Int) = _
  rw [BitVec.toNat_xor, BitVec.toNat_ofInt, BitVec.toNat_ofInt]; rfl
theorem and_nat32 (x y : Int) : bits .and .i32 x y = IntKind.i32.wrap (((x % 4294967296).toNat &&& (y % 4294967296).toNat : Nat) : Int) := by
  show IntKind.i32.wrap ((BitVec.ofInt 32 x &&& BitVec.ofInt 32 y).toNat : Int) = _
  rw [BitVec.toNat_and, BitVec.toNat_ofInt, BitVec.toNat_ofInt]; rfl
theorem or_nat32 (x y : Int) : bits .or .i32 x y = IntKind.i32.wrap (((x % 4294967296).toNat ||| (y % 4294967296).toNat : Nat) : Int) := by
  show IntKind.i32.wrap ((BitVec.ofInt 32 x ||| BitVec.ofInt 32 y).toNat : Int) = _
  rw [BitVec.toNat_or, BitVec.toNat_ofInt, BitVec.toNat_ofInt]; rfl
theorem xor_nat32 (x y : Int) : bits .xor .i32 x y = IntKind.i32.wrap (((x % 4294967296).toNat ^^^ (y % 4294967296).toNat : Nat) : Int) := by
  show IntKind.i32.wrap ((BitVec.ofInt 32 x ^^^ BitVec.ofInt 32 y).toNat : Int) = _
  rw [BitVec.toNat_xor, BitVec.toNat_ofInt, BitVec.toNat_ofInt]; rfl
theorem and_low (n : Int) : bits .and .i64 n 4294967295 = n % 4294967296 := by
  rw [and_nat64, show ((4294967295:Int) % 18446744073709551616).toNat = 2^32-1 by decide, Nat.and_two_pow_sub_one_eq_mod, IntKind.wrap_i64]
  omega
theorem wrap32_lo (n : Int) : -2147483648 ≤ wrap32 n ∧ wrap32 n ≤ 2147483647 := by unfold wrap32; omega
theorem wrap32_hi {n : Int} (h : 2147483647 < n % 4294967296) : n % 4294967296 - 4294967296 = wrap32 n := by unfold wrap32; omega
theorem wrap32_low {n : Int} (h : ¬ 2147483647 < n % 4294967296) : n % 4294967296 = wrap32 n := by unfold wrap32; omega
theorem plain_wrap (n : Int) : wrap32 n % 4294967296 = n % 4294967296 := by unfold wrap32; omega
theorem wrap_plain (n : Int) : wrap32 (n % 4294967296) = wrap32 n := by unfold wrap32; omega
theorem wrap_wrap (n : Int) : wrap32 (wrap32 n) = wrap32 n := by unfold wrap32; omega
theorem mul_fits (a b : Int) : -4611686018427387904 ≤ wrap32 a * wrap32 b ∧ wrap32 a * wrap32 b ≤ 4611686018427387904 := by
  have h1 := wrap32_lo a
  have h2 := wrap32_lo b
  generalize wrap32 a = x at *
  generalize wrap32 b = y at *
  have e : (x * y).natAbs ≤ 2147483648 * 2147483648 := by
    rw [Int.natAbs_mul]; exact Nat.mul_le_mul (by omega) (by omega)
  omega
/-! ### Quotients and rests -/
theorem wrap32_in {n : Int} (h0 : -2147483648 ≤ n) (h1 : n ≤ 2147483647) : wrap32 n = n := by unfold wrap32; omega
theorem tdiv_fits {x y : Int} (hx : -2147483648 ≤ x ∧ x ≤ 2147483647) (hy : y ≠ 0) (hn : ¬ (x = -2147483648 ∧ y = -1)) : -2147483648 ≤ x.tdiv y ∧ x.tdiv y ≤ 2147483647 := by
  have e : (x.tdiv y).natAbs = x.natAbs / y.natAbs := Int.natAbs_tdiv x y
  have l : x.natAbs / y.natAbs ≤ x.natAbs := Nat.div_le_self _ _
  refine ⟨by omega, ?_⟩
  by_cases h2 : x.natAbs ≤ 2147483647
  · omega
  · have hxx : x = -2147483648 := by omega
    subst hxx
    by_cases h1 : y = 1
    · subst h1; simp
    · have h3 : 2 ≤ y.natAbs := by omega
      have h4 : (-2147483648 : Int).natAbs / y.natAbs ≤ 2147483648 / 2 := Nat.div_le_div_left h3 (by decide)
      omega
theorem tmod_fits {x y : Int} (hx : -2147483648 ≤ x ∧ x ≤ 2147483647) : -2147483648 ≤ x.tmod y ∧ x.tmod y ≤ 2147483647 := by
  have e : (x.tmod y).natAbs = x.natAbs % y.natAbs := Int.natAbs_tmod x y
  have l : x.natAbs % y.natAbs ≤ x.natAbs := Nat.mod_le _ _
  by_cases h : 0 ≤ x
  · have := Int.tmod_nonneg y h; omega
  · have : 0 ≤ (-x).tmod y := Int.tmod_nonneg y (by omega)
    rw [Int.neg_tmod] at this
    omega
/-- The quotient with a sign, and its code. -/
def dS (a b : Int) : Int := if wrap32 b = 0 then 0 else if wrap32 a = -2147483648 ∧ wrap32 b = -1 then 0 else (wrap32 a).tdiv (wrap32 b)
def dSc (a b : Int) : Int := if wrap32 b = 0 then 2 else if wrap32 a = -2147483648 ∧ wrap32 b = -1 then 3 else 0
def rS (a b : Int) : Int := if wrap32 b = 0 then 0 else (wrap32 a).tmod (wrap32 b)
def zc (b : Int) : Int := if wrap32 b = 0 then 2 else 0
def dU (a b : Int) : Int := if wrap32 b = 0 then 0 else wrap32 ((a % 4294967296) / (b % 4294967296))
def rU (a b : Int) : Int := if wrap32 b = 0 then 0 else wrap32 ((a % 4294967296) % (b % 4294967296))
theorem zero_plain (b : Int) : wrap32 b = 0 ↔ b % 4294967296 = 0 := by unfold wrap32; omega
theorem div_fits {x y : Int} (hx : 0 ≤ x ∧ x < 4294967296) (hy : 0 ≤ y) : 0 ≤ x / y ∧ x / y < 4294967296 := by
  refine ⟨Int.ediv_nonneg hx.1 hy, ?_⟩
  have := Int.ediv_le_self y hx.1
  omega
theorem mod_fits {x y : Int} (hx : 0 ≤ x ∧ x < 4294967296) (hy : 0 < y) : 0 ≤ x % y ∧ x % y < 4294967296 := by
  refine ⟨Int.emod_nonneg _ (by omega), ?_⟩
  by_cases h : x < y
  · rw [Int.emod_eq_of_lt hx.1 h]; omega
  · have := Int.emod_lt_of_pos x hy; omega
end Go.Proofs.YtajlkdidjelpeaaGreatDoor.PlainNum
namespace Go.Proofs.YtajlkdidjelpeaaGreatDoor.PlainUtf
open Go.RowKit PlainNum

/-- Byte k of a text. -/
def by' (s : ByteArray) (k : Nat) : Nat := (s.get! k).toNat
theorem get_by (s : ByteArray) (k : Nat) (h : k < s.size) : (((s[k]'h).toNat : Nat) : Int) = (by' s k : Int) := by
  unfold by'
  rw [Utf8W.get!_of_lt s k h]
theorem by_lt (s : ByteArray) (k : Nat) : by' s k < 256 := UInt8.toNat_lt _
/-- How many bytes the right character at i has; 0 where it isn't right. -/
def wd (s : ByteArray) (i : Nat) : Nat :=
  if by' s i < 128 then 1
  else if by' s i / 32 = 6 ∧ i + 1 < s.size ∧ by' s (i + 1) / 64 = 2 then (if 128 ≤ by' s i % 32 * 64 + by' s (i + 1) % 64 then 2 else 0)
  else if by' s i / 16 = 14 ∧ (i + 1 < s.size ∧ by' s (i + 1) / 64 = 2) ∧ (i + 2 < s.size ∧ by' s (i + 2) / 64 = 2) then
    (if 2048 ≤ by' s i % 16 * 4096 + by' s (i + 1) % 64 * 64 + by' s (i + 2) % 64 ∧ ¬ (55296 ≤ by' s i % 16 * 4096 + by' s (i + 1) % 64 * 64 + by' s (i + 2) % 64 ∧ by' s i % 16 * 4096 + by' s (i + 1) % 64 * 64 + by' s (i + 2) % 64 ≤ 57343) then 3 else 0)
  else if by' s i / 8 = 30 ∧ (i + 1 < s.size ∧ by' s (i + 1) / 64 = 2) ∧ (i + 2 < s.size ∧ by' s (i + 2) / 64 = 2) ∧ (i + 3 < s.size ∧ by' s (i + 3) / 64 = 2) then
    (if 65536 ≤ by' s i % 8 * 262144 + by' s (i + 1) % 64 * 4096 + by' s (i + 2) % 64 * 64 + by' s (i + 3) % 64 ∧ by' s i % 8 * 262144 + by' s (i + 1) % 64 * 4096 + by' s (i + 2) % 64 * 64 + by' s (i + 3) % 64 ≤ 1114111 then 4 else 0)
  else 0
/-- What the decoder of a range says of it. -/
theorem decode_wd (s : ByteArray) (i : Nat) : (wd s i = 0 ∧ Utf8.decode s i = (65533, 1)) ∨ (0 < wd s i ∧ (Utf8.decode s i).2 = wd s i ∧ (wd s i = 1 → (Utf8.decode s i).1 < 128)) := by
  have h0 := by_lt s i
  have h1 := by_lt s (i + 1)
  have h2 := by_lt s (i + 2)
  have h3 := by_lt s (i + 3)
  have e : ∀ k, (s.get! k).toNat = by' s k := fun _ => rfl
  unfold wd Utf8.decode Utf8.valid Utf8.runeError
  simp only [Nat.add_zero, e, Bool.and_eq_true, beq_iff_eq, decide_eq_true_eq, Bool.or_eq_true, and_assoc]
  generalize by' s i = b0 at *
  generalize by' s (i + 1) = b1 at *
  generalize by' s (i + 2) = b2 at *
  generalize by' s (i + 3) = b3 at *
  clear e
  by_cases c0 : b0 < 128
  · simp only [if_pos c0]; refine .inr ?_; simp [c0]
  · simp only [if_neg c0]
    by_cases c1 : b0 / 32 = 6 ∧ i + 1 < s.size ∧ b1 / 64 = 2
    · simp only [if_pos c1]
      by_cases d1 : 128 ≤ b0 % 32 * 64 + b1 % 64
      · simp only [ge_iff_le, if_pos d1]; refine .inr ?_; simp
      · simp only [ge_iff_le, if_neg d1]; refine .inl ?_; simp
    · simp only [if_neg c1]
      by_cases c2 : b0 / 16 = 14 ∧ i + 1 < s.size ∧ b1 / 64 = 2 ∧ i + 2 < s.size ∧ b2 / 64 = 2
      · simp only [if_pos c2]
        by_cases d2 : 2048 ≤ b0 % 16 * 4096 + b1 % 64 * 64 + b2 % 64 ∧ ¬(55296 ≤ b0 % 16 * 4096 + b1 % 64 * 64 + b2 % 64 ∧ b0 % 16 * 4096 + b1 % 64 * 64 + b2 % 64 ≤ 57343)
        · simp only [if_pos d2]; rw [if_pos (by omega)]; refine .inr ?_; simp
        · simp only [if_neg d2]; rw [if_neg (by omega)]; refine .inl ?_; simp
      · simp only [if_neg c2]
        by_cases c3 : b0 / 8 = 30 ∧ i + 1 < s.size ∧ b1 / 64 = 2 ∧ i + 2 < s.size ∧ b2 / 64 = 2 ∧ i + 3 < s.size ∧ b3 / 64 = 2
        · simp only [if_pos c3]
          by_cases d3 : 65536 ≤ b0 % 8 * 262144 + b1 % 64 * 4096 + b2 % 64 * 64 + b3 % 64 ∧ b0 % 8 * 262144 + b1 % 64 * 4096 + b2 % 64 * 64 + b3 % 64 ≤ 1114111
          · simp only [if_pos d3]; rw [if_pos (by omega)]; refine .inr ?_; simp
          · simp only [if_neg d3]; rw [if_neg (by omega)]; refine .inl ?_; simp
        · simp only [if_neg c3]; refine .inl ?_; simp
end Go.Proofs.YtajlkdidjelpeaaGreatDoor.PlainUtf
namespace Go.Proofs.YtajlkdidjelpeaaGreatDoor.UtfCalls
open Go.RowKit PlainNum PlainUtf

theorem and31 (a : Int) : bits .and .i64 a 31 = a % 32 := by
  rw [and_nat64, show ((31 : Int) % 18446744073709551616).toNat = 2 ^ 5 - 1 by decide, Nat.and_two_pow_sub_one_eq_mod, IntKind.wrap_i64]; omega
theorem and15 (a : Int) : bits .and .i64 a 15 = a % 16 := by
  rw [and_nat64, show ((15 : Int) % 18446744073709551616).toNat = 2 ^ 4 - 1 by decide, Nat.and_two_pow_sub_one_eq_mod, IntKind.wrap_i64]; omega
theorem and7 (a : Int) : bits .and .i64 a 7 = a % 8 := by
  rw [and_nat64, show ((7 : Int) % 18446744073709551616).toNat = 2 ^ 3 - 1 by decide, Nat.and_two_pow_sub_one_eq_mod, IntKind.wrap_i64]; omega
theorem and63 (a : Int) : bits .and .i64 a 63 = a % 64 := by
  rw [and_nat64, show ((63 : Int) % 18446744073709551616).toNat = 2 ^ 6 - 1 by decide, Nat.and_two_pow_sub_one_eq_mod, IntKind.wrap_i64]; omega
set_option maxRecDepth 100000 in
set_option maxHeartbeats 4000000 in
theorem char1 (s : ByteArray) (i : Nat) (w : World) (hi : i < s.size) (h : by' s i < 128) :
    Calls Tryz.prog 137 #[.string s, .int .i64 (i : Int)] w fun e w' => e = .returned (.int .i64 (wd s i : Int)) ∧ w = w' := by
  have hres : Hid (wd s i = 1) := if_pos h
  have hb := get_by s
  have h' : (by' s i : Int) < 128 := by omega
  have hi' : (i : Int) < (s.size : Int) := by omega
  go_enter Tryz.func137, Tryz.ntmps137
  go_wp2_with fail
  go_ret
  exact ⟨by rw [hres.out]; rfl, rfl⟩
set_option maxRecDepth 100000 in
set_option maxHeartbeats 8000000 in
theorem char2 (s : ByteArray) (i : Nat) (w : World) (hi : i < s.size) (hs : s.size ≤ 1048576) (h : 194 ≤ by' s i ∧ by' s i < 224) :
    Calls Tryz.prog 137 #[.string s, .int .i64 (i : Int)] w fun e w' => e = .returned (.int .i64 (wd s i : Int)) ∧ w = w' := by
  have hb := get_by s
  have a1 := and31 (by' s i : Int)
  have c1 := and63 (by' s (i + 1) : Int)
  have hl1 := by_lt s (i + 1)
  have q0 : ¬ (by' s i : Int) < 128 := by omega
  have q1 : 194 ≤ (by' s i : Int) := by omega
  have q2 : (by' s i : Int) < 224 := by omega
  have hi' : (i : Int) < (s.size : Int) := by omega
  obtain ⟨R, hR⟩ : ∃ R, wd s i = R := ⟨_, rfl⟩
  rw [hR]
  have hR' : Hid (wd s i = R) := hR
  clear hR
  go_enter Tryz.func137, Tryz.ntmps137
  go_wp2_with fail
  · (go_ret; refine ⟨?_, rfl⟩; refine congrArg (fun z : Int => Ending.returned (Value.int .i64 z)) ?_; rw [← hR'.out]; unfold wd; (repeat' split) <;> omega)
  · refine wp_loop_rounds 2 ?_
    all_goals rw [rounds_succ]
    all_goals go_wp2_with fail
    all_goals first | (go_ret; refine ⟨?_, rfl⟩; refine congrArg (fun z : Int => Ending.returned (Value.int .i64 z)) ?_; rw [← hR'.out]; unfold wd; (repeat' split) <;> omega) | skip
    all_goals rw [rounds_succ]
    all_goals go_wp2_with fail
    all_goals first | (go_ret; refine ⟨?_, rfl⟩; refine congrArg (fun z : Int => Ending.returned (Value.int .i64 z)) ?_; rw [← hR'.out]; unfold wd; (repeat' split) <;> omega) | skip
set_option maxRecDepth 100000 in
set_option maxHeartbeats 8000000 in
theorem char3 (s : ByteArray) (i : Nat) (w : World) (hi : i < s.size) (hs : s.size ≤ 1048576) (h : 224 ≤ by' s i ∧ by' s i < 240) :
    Calls Tryz.prog 137 #[.string s, .int .i64 (i : Int)] w fun e w' => e = .returned (.int .i64 (wd s i : Int)) ∧ w = w' := by
  have hb := get_by s
  have a1 := and15 (by' s i : Int)
  have c1 := and63 (by' s (i + 1) : Int)
  have hl1 := by_lt s (i + 1)
  have c2 := and63 (by' s (i + 2) : Int)
  have hl2 := by_lt s (i + 2)
  have q0 : ¬ (by' s i : Int) < 128 := by omega
  have q1 : 194 ≤ (by' s i : Int) := by omega
  have q2 : ¬ (by' s i : Int) < 224 := by omega
  have q3 : 224 ≤ (by' s i : Int) := by omega
  have q4 : (by' s i : Int) < 240 := by omega
  have hi' : (i : Int) < (s.size : Int) := by omega
  obtain ⟨R, hR⟩ : ∃ R, wd s i = R := ⟨_, rfl⟩
  rw [hR]
  have hR' : Hid (wd s i = R) := hR
  clear hR
  go_enter Tryz.func137, Tryz.ntmps137
  go_wp2_with fail
  · (go_ret; refine ⟨?_, rfl⟩; refine congrArg (fun z : Int => Ending.returned (Value.int .i64 z)) ?_; rw [← hR'.out]; unfold wd; (repeat' split) <;> omega)
  · refine wp_loop_rounds 3 ?_
    all_goals rw [rounds_succ]
    all_goals go_wp2_with fail
    all_goals first | (go_ret; refine ⟨?_, rfl⟩; refine congrArg (fun z : Int => Ending.returned (Value.int .i64 z)) ?_; rw [← hR'.out]; unfold wd; (repeat' split) <;> omega) | skip
    all_goals rw [rounds_succ]
    all_goals go_wp2_with fail
    all_goals first | (go_ret; refine ⟨?_, rfl⟩; refine congrArg (fun z : Int => Ending.returned (Value.int .i64 z)) ?_; rw [← hR'.out]; unfold wd; (repeat' split) <;> omega) | skip
    all_goals rw [rounds_succ]
    all_goals go_wp2_with fail
    all_goals first | (go_ret; refine ⟨?_, rfl⟩; refine congrArg (fun z : Int => Ending.returned (Value.int .i64 z)) ?_; rw [← hR'.out]; unfold wd; (repeat' split) <;> omega) | skip
set_option maxRecDepth 100000 in
set_option maxHeartbeats 8000000 in
theorem char4 (s : ByteArray) (i : Nat) (w : World) (hi : i < s.size) (hs : s.size ≤ 1048576) (h : 240 ≤ by' s i ∧ by' s i < 245) :
    Calls Tryz.prog 137 #[.string s, .int .i64 (i : Int)] w fun e w' => e = .returned (.int .i64 (wd s i : Int)) ∧ w = w' := by
  have hb := get_by s
  have a1 := and7 (by' s i : Int)
  have c1 := and63 (by' s (i + 1) : Int)
  have hl1 := by_lt s (i + 1)
  have c2 := and63 (by' s (i + 2) : Int)
  have hl2 := by_lt s (i + 2)
  have c3 := and63 (by' s (i + 3) : Int)
  have hl3 := by_lt s (i + 3)
  have q0 : ¬ (by' s i : Int) < 128 := by omega
  have q1 : 194 ≤ (by' s i : Int) := by omega
  have q2 : ¬ (by' s i : Int) < 224 := by omega
  have q3 : 224 ≤ (by' s i : Int) := by omega
  have q4 : ¬ (by' s i : Int) < 240 := by omega
  have q5 : 240 ≤ (by' s i : Int) := by omega
  have q6 : (by' s i : Int) < 245 := by omega
  have hi' : (i : Int) < (s.size : Int) := by omega
  obtain ⟨R, hR⟩ : ∃ R, wd s i = R := ⟨_, rfl⟩
  rw [hR]
  have hR' : Hid (wd s i = R) := hR
  clear hR
  go_enter Tryz.func137, Tryz.ntmps137
  go_wp2_with fail
  · (go_ret; refine ⟨?_, rfl⟩; refine congrArg (fun z : Int => Ending.returned (Value.int .i64 z)) ?_; rw [← hR'.out]; unfold wd; (repeat' split) <;> omega)
  · refine wp_loop_rounds 4 ?_
    all_goals rw [rounds_succ]
    all_goals go_wp2_with fail
    all_goals first | (go_ret; refine ⟨?_, rfl⟩; refine congrArg (fun z : Int => Ending.returned (Value.int .i64 z)) ?_; rw [← hR'.out]; unfold wd; (repeat' split) <;> omega) | skip
    all_goals rw [rounds_succ]
    all_goals go_wp2_with fail
    all_goals first | (go_ret; refine ⟨?_, rfl⟩; refine congrArg (fun z : Int => Ending.returned (Value.int .i64 z)) ?_; rw [← hR'.out]; unfold wd; (repeat' split) <;> omega) | skip
    all_goals rw [rounds_succ]
    all_goals go_wp2_with fail
    all_goals first | (go_ret; refine ⟨?_, rfl⟩; refine congrArg (fun z : Int => Ending.returned (Value.int .i64 z)) ?_; rw [← hR'.out]; unfold wd; (repeat' split) <;> omega) | skip
    all_goals rw [rounds_succ]
    all_goals go_wp2_with fail
    all_goals first | (go_ret; refine ⟨?_, rfl⟩; refine congrArg (fun z : Int => Ending.returned (Value.int .i64 z)) ?_; rw [← hR'.out]; unfold wd; (repeat' split) <;> omega) | skip
set_option maxRecDepth 100000 in
set_option maxHeartbeats 4000000 in
theorem char0 (s : ByteArray) (i : Nat) (w : World) (hi : i < s.size) (h : 128 ≤ by' s i ∧ by' s i < 194) :
    Calls Tryz.prog 137 #[.string s, .int .i64 (i : Int)] w fun e w' => e = .returned (.int .i64 (wd s i : Int)) ∧ w = w' := by
  have hb := get_by s
  have hl1 := by_lt s (i + 1)
  have q0 : ¬ (by' s i : Int) < 128 := by omega
  have q1 : ¬ 194 ≤ (by' s i : Int) := by omega
  have q2 : ¬ 224 ≤ (by' s i : Int) := by omega
  have q3 : ¬ 240 ≤ (by' s i : Int) := by omega
  have hi' : (i : Int) < (s.size : Int) := by omega
  obtain ⟨R, hR⟩ : ∃ R, wd s i = R := ⟨_, rfl⟩
  rw [hR]
  have hR' : Hid (wd s i = R) := hR
  clear hR
  go_enter Tryz.func137, Tryz.ntmps137
  go_wp2_with fail
  (go_ret; refine ⟨?_, rfl⟩; refine congrArg (fun z : Int => Ending.returned (Value.int .i64 z)) ?_; rw [← hR'.out]; unfold wd; (repeat' split) <;> omega)
set_option maxRecDepth 100000 in
set_option maxHeartbeats 4000000 in
theorem char5 (s : ByteArray) (i : Nat) (w : World) (hi : i < s.size) (h : 245 ≤ by' s i ∧ by' s i < 256) :
    Calls Tryz.prog 137 #[.string s, .int .i64 (i : Int)] w fun e w' => e = .returned (.int .i64 (wd s i : Int)) ∧ w = w' := by
  have hb := get_by s
  have hl1 := by_lt s (i + 1)
  have q0 : ¬ (by' s i : Int) < 128 := by omega
  have q1 : 194 ≤ (by' s i : Int) := by omega
  have q2 : ¬ (by' s i : Int) < 224 := by omega
  have q3 : 224 ≤ (by' s i : Int) := by omega
  have q4 : ¬ (by' s i : Int) < 240 := by omega
  have q5 : 240 ≤ (by' s i : Int) := by omega
  have q6 : ¬ (by' s i : Int) < 245 := by omega
  have hi' : (i : Int) < (s.size : Int) := by omega
  obtain ⟨R, hR⟩ : ∃ R, wd s i = R := ⟨_, rfl⟩
  rw [hR]
  have hR' : Hid (wd s i = R) := hR
  clear hR
  go_enter Tryz.func137, Tryz.ntmps137
  go_wp2_with fail
  (go_ret; refine ⟨?_, rfl⟩; refine congrArg (fun z : Int => Ending.returned (Value.int .i64 z)) ?_; rw [← hR'.out]; unfold wd; (repeat' split) <;> omega)
theorem spec_char (s : ByteArray) (i : Nat) (w : World) (hi : i < s.size) (hs : s.size ≤ 1048576) :
    Calls Tryz.prog 137 #[.string s, .int .i64 (i : Int)] w fun e w' => e = .returned (.int .i64 (wd s i : Int)) ∧ w = w' := by
  have hl := by_lt s i
  rcases (show by' s i < 128 ∨ (128 ≤ by' s i ∧ by' s i < 194) ∨ (194 ≤ by' s i ∧ by' s i < 224) ∨ (224 ≤ by' s i ∧ by' s i < 240) ∨ (240 ≤ by' s i ∧ by' s i < 245) ∨ (245 ≤ by' s i ∧ by' s i < 256) by omega) with h | h | h | h | h | h
  · exact char1 s i w hi h
  · exact char0 s i w hi h
  · exact char2 s i w hi hs h
  · exact char3 s i w hi hs h
  · exact char4 s i w hi hs h
  · exact char5 s i w hi h
end Go.Proofs.YtajlkdidjelpeaaGreatDoor.UtfCalls
