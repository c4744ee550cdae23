/-
  Plain arithmetic on the bits of integers of 32 bits: and, or, exclusive or, shifts, turns. No program in sight.
-/
import Derived.Test.YtnpjcgmfmfhgdacDoorPlainNum
namespace Go.Proofs.YtnpjcgmfmfhgdacDoor.BitsNum
open Go.RowKit PlainNum

def andL (x y : Int) : Int := wrap32 (((x % 4294967296).toNat &&& (y % 4294967296).toNat : Nat) : Int)
def orL (x y : Int) : Int := wrap32 (((x % 4294967296).toNat ||| (y % 4294967296).toNat : Nat) : Int)
def xorL (x y : Int) : Int := wrap32 (((x % 4294967296).toNat ^^^ (y % 4294967296).toNat : Nat) : Int)

theorem wrap32_cong {x y : Int} (h : x % 4294967296 = y % 4294967296) : wrap32 x = wrap32 y := by unfold wrap32; omega
theorem low (x : Int) : (x % 18446744073709551616).toNat % 2 ^ 32 = (x % 4294967296).toNat := by omega
theorem low32 (x : Int) : (x % 4294967296).toNat % 2 ^ 32 = (x % 4294967296).toNat := by omega
theorem natmod (n : Nat) : ((n : Int)) % 4294967296 = ((n % 2 ^ 32 : Nat) : Int) := by omega
theorem wrap_i64_low (x : Int) : IntKind.i64.wrap x % 4294967296 = x % 4294967296 := by rw [IntKind.wrap_i64]; omega
theorem wrap64_low (x : Int) : wrap64 x % 4294967296 = x % 4294967296 := by unfold wrap64; omega

theorem and64 (x y : Int) : wrap32 (bits .and .i64 x y) = andL x y := by
  rw [and_nat64]
  refine wrap32_cong ?_
  rw [wrap_i64_low, natmod, natmod, Nat.and_mod_two_pow, low, low, Nat.and_mod_two_pow, low32, low32]
theorem or64 (x y : Int) : wrap32 (bits .or .i64 x y) = orL x y := by
  rw [or_nat64]
  refine wrap32_cong ?_
  rw [wrap_i64_low, natmod, natmod, Nat.or_mod_two_pow, low, low, Nat.or_mod_two_pow, low32, low32]
theorem xor64 (x y : Int) : wrap32 (bits .xor .i64 x y) = xorL x y := by
  rw [xor_nat64]
  refine wrap32_cong ?_
  rw [wrap_i64_low, natmod, natmod, Nat.xor_mod_two_pow, low, low, Nat.xor_mod_two_pow, low32, low32]
theorem and32 (x y : Int) : bits .and .i32 x y = andL x y := by rw [and_nat32, IntWalk.i32_left]; rfl
theorem or32 (x y : Int) : bits .or .i32 x y = orL x y := by rw [or_nat32, IntWalk.i32_left]; rfl
theorem xor32 (x y : Int) : bits .xor .i32 x y = xorL x y := by rw [xor_nat32, IntWalk.i32_left]; rfl
theorem andL_cong {x y x' y' : Int} (h : x % 4294967296 = x' % 4294967296) (h' : y % 4294967296 = y' % 4294967296) : andL x y = andL x' y' := by unfold andL; rw [h, h']
theorem orL_cong {x y x' y' : Int} (h : x % 4294967296 = x' % 4294967296) (h' : y % 4294967296 = y' % 4294967296) : orL x y = orL x' y' := by unfold orL; rw [h, h']
theorem xorL_cong {x y x' y' : Int} (h : x % 4294967296 = x' % 4294967296) (h' : y % 4294967296 = y' % 4294967296) : xorL x y = xorL x' y' := by unfold xorL; rw [h, h']
theorem mod_mul (a c : Int) : (a % 4294967296 * c) % 4294967296 = (a * c) % 4294967296 := by rw [Int.mul_emod, Int.emod_emod, ← Int.mul_emod]
theorem wrap_mul (a c : Int) : (wrap32 a * c) % 4294967296 = (a * c) % 4294967296 := by rw [Int.mul_emod, plain_wrap, ← Int.mul_emod]

/-- What Bits answers, by its op. -/
def bitsN (op a b : Int) : Int :=
  if op = 1 then andL a b else if op = 2 then orL a b else if op = 3 then xorL a b
  else if op = 4 then wrap32 (a * 2 ^ (b % 32).toNat)
  else if op = 5 then wrap32 a / 2 ^ (b % 32).toNat
  else if op = 6 then wrap32 (a % 4294967296 / 2 ^ (b % 32).toNat)
  else if op = 7 then orL (a * 2 ^ (b % 32).toNat) (a % 4294967296 / 2 ^ (32 - b % 32).toNat)
  else if op = 8 then orL (a % 4294967296 / 2 ^ (b % 32).toNat) (a * 2 ^ (32 - b % 32).toNat)
  else 0

theorem div_pow_fits (x : Int) (k : Nat) (h : -2147483648 ≤ x ∧ x ≤ 2147483647) : -2147483648 ≤ x / 2 ^ k ∧ x / 2 ^ k ≤ 2147483647 := by
  have hp : (1 : Int) ≤ 2 ^ k := by have : (0 : Int) < 2 ^ k := Int.pow_pos (by decide); omega
  constructor
  · refine Int.le_ediv_of_mul_le (by omega) ?_
    have : (2147483648 : Int) * 1 ≤ 2147483648 * 2 ^ k := Int.mul_le_mul_of_nonneg_left hp (by decide)
    omega
  · have : x / 2 ^ k < 2147483648 := by
      refine Int.ediv_lt_of_lt_mul (by omega) ?_
      have : (2147483648 : Int) * 1 ≤ 2147483648 * 2 ^ k := Int.mul_le_mul_of_nonneg_left hp (by decide)
      omega
    omega
theorem div_pow_pos (x : Int) (k : Nat) (h : 0 ≤ x ∧ x < 4294967296) : 0 ≤ x / 2 ^ k ∧ x / 2 ^ k < 4294967296 := by
  have hp : (1 : Int) ≤ 2 ^ k := by have : (0 : Int) < 2 ^ k := Int.pow_pos (by decide); omega
  exact div_fits h (by omega)

/-- The turn by s: what RotateLeft32 answers. -/
def rotL (x s : Int) : Int := (((x % 4294967296 * 2 ^ s.toNat % 4294967296).toNat ||| (x % 4294967296 / 2 ^ (32 - s).toNat).toNat : Nat) : Int)
theorem and31 (k : Int) : bits .and .u64 (IntKind.u64.wrap k) 31 = k % 32 := by
  have h := IntKind.wrap_u64 k
  have h1 : 0 ≤ IntKind.u64.wrap k ∧ IntKind.u64.wrap k < 18446744073709551616 := by rw [h]; omega
  rw [u64_and _ _ h1.1 h1.2 (by decide) (by decide), show (31 : Int).toNat = 31 from rfl, nat_mask5, h]
  omega
theorem rot_or (x s : Int) : bits .or .u32 (x % 4294967296 * 2 ^ s.toNat % 4294967296) (x % 4294967296 / 2 ^ (32 - s).toNat) = rotL x s := by
  have h1 := div_pow_pos (x % 4294967296) (32 - s).toNat (by omega)
  rw [u32_or _ _ (by omega) (by omega) h1.1 h1.2]; rfl
theorem rotL_fits (x s : Int) : 0 ≤ rotL x s ∧ rotL x s < 4294967296 := by
  have h1 := div_pow_pos (x % 4294967296) (32 - s).toNat (by omega)
  unfold rotL
  refine ⟨by omega, ?_⟩
  have : ((x % 4294967296 * 2 ^ s.toNat % 4294967296).toNat ||| (x % 4294967296 / 2 ^ (32 - s).toNat).toNat) < 2 ^ 32 := Nat.or_lt_two_pow (by omega) (by omega)
  omega
theorem bitsN_fits (op a b : Int) : -2147483648 ≤ bitsN op a b ∧ bitsN op a b ≤ 2147483647 := by
  have h1 := div_pow_fits (wrap32 a) (b % 32).toNat (wrap32_lo a)
  unfold bitsN
  repeat' split
  all_goals first | exact wrap32_lo _ | exact h1 | (constructor <;> decide)
theorem rotL_wrap (x s : Int) : wrap32 (rotL x s) = orL (x * 2 ^ s.toNat) (x % 4294967296 / 2 ^ (32 - s).toNat) := by
  have h1 := div_pow_pos (x % 4294967296) (32 - s).toNat (by omega)
  unfold rotL orL
  rw [mod_mul, Int.emod_eq_of_lt h1.1 h1.2]
theorem turn_right (a k : Int) (h0 : 0 ≤ k) (h1 : k < 32) : wrap32 (rotL a (-k % 32)) = orL (a % 4294967296 / 2 ^ k.toNat) (a * 2 ^ (32 - k).toNat) := by
  rw [rotL_wrap]
  by_cases hk : k = 0
  · subst hk
    have e1 : ((-0 : Int) % 32).toNat = 0 := by decide
    have e2 : (32 - (-0 : Int) % 32).toNat = 32 := by decide
    rw [e1, e2]
    unfold orL
    have e3 : a % 4294967296 / 2 ^ 32 = 0 := by omega
    have e4 : (a * 2 ^ (32 - 0 : Int).toNat) % 4294967296 = 0 := by show (a * 4294967296) % 4294967296 = 0; omega
    have e5 : a % 4294967296 / 2 ^ (0 : Int).toNat = a % 4294967296 := by show a % 4294967296 / 1 = _; omega
    have e6 : a * 2 ^ (0 : Nat) = a := by simp
    rw [e3, e4, e5, e6, Int.emod_emod]
    simp
  · have e1 : -k % 32 = 32 - k := by omega
    have e2 : (32 - (32 - k)) = k := by omega
    rw [e1, e2]
    unfold orL
    rw [Nat.or_comm]

/-! ### What the specification's text reckons, and what the program's text reckons, is bitsN -/
theorem n1 (a b : Int) : bitsN 1 a b = andL a b := by simp [bitsN]
theorem n2 (a b : Int) : bitsN 2 a b = orL a b := by simp [bitsN]
theorem n3 (a b : Int) : bitsN 3 a b = xorL a b := by simp [bitsN]
theorem n4 (a b : Int) : bitsN 4 a b = wrap32 (a * 2 ^ (b % 32).toNat) := by simp [bitsN]
theorem n5 (a b : Int) : bitsN 5 a b = wrap32 a / 2 ^ (b % 32).toNat := by simp [bitsN]
theorem n6 (a b : Int) : bitsN 6 a b = wrap32 (a % 4294967296 / 2 ^ (b % 32).toNat) := by simp [bitsN]
theorem n7 (a b : Int) : bitsN 7 a b = orL (a * 2 ^ (b % 32).toNat) (a % 4294967296 / 2 ^ (32 - b % 32).toNat) := by simp [bitsN]
theorem n8 (a b : Int) : bitsN 8 a b = orL (a % 4294967296 / 2 ^ (b % 32).toNat) (a * 2 ^ (32 - b % 32).toNat) := by simp [bitsN]
theorem s1 (a b : Int) : wrap32 (bits .and .i64 (a % 4294967296) (b % 4294967296)) = bitsN 1 a b := by
  rw [n1, and64]; exact andL_cong (Int.emod_emod _ _) (Int.emod_emod _ _)
theorem s2 (a b : Int) : wrap32 (bits .or .i64 (a % 4294967296) (b % 4294967296)) = bitsN 2 a b := by
  rw [n2, or64]; exact orL_cong (Int.emod_emod _ _) (Int.emod_emod _ _)
theorem s3 (a b : Int) : wrap32 (bits .xor .i64 (a % 4294967296) (b % 4294967296)) = bitsN 3 a b := by
  rw [n3, xor64]; exact xorL_cong (Int.emod_emod _ _) (Int.emod_emod _ _)
theorem s4 (a b : Int) : wrap32 (wrap64 (a % 4294967296 * 2 ^ (b % 32).toNat)) = bitsN 4 a b := by
  rw [n4]; exact wrap32_cong ((wrap64_low _).trans (mod_mul _ _))
theorem s5 (a b : Int) : wrap32 (wrap32 a / 2 ^ (b % 32).toNat) = bitsN 5 a b := by
  have h := div_pow_fits (wrap32 a) (b % 32).toNat (wrap32_lo a)
  rw [wrap32_in h.1 h.2, n5]
theorem s6 (a b : Int) : wrap32 (a % 4294967296 / 2 ^ (b % 32).toNat) = bitsN 6 a b := (n6 a b).symm
theorem s7 (a b : Int) : wrap32 (bits .or .i64 (wrap64 (a % 4294967296 * 2 ^ (b % 32).toNat)) (a % 4294967296 / 2 ^ (32 - b % 32).toNat)) = bitsN 7 a b := by
  rw [n7, or64]
  refine orL_cong ?_ (Eq.refl _)
  rw [wrap64_low, mod_mul]
theorem s8 (a b : Int) : wrap32 (bits .or .i64 (a % 4294967296 / 2 ^ (b % 32).toNat) (wrap64 (a % 4294967296 * 2 ^ (32 - b % 32).toNat))) = bitsN 8 a b := by
  rw [n8, or64]
  refine orL_cong (Eq.refl _) ?_
  rw [wrap64_low, mod_mul]
theorem i1 (a b : Int) : bits .and .i32 (wrap32 a) (wrap32 b) = bitsN 1 a b := by
  rw [n1, and32]; exact andL_cong (plain_wrap _) (plain_wrap _)
theorem i2 (a b : Int) : bits .or .i32 (wrap32 a) (wrap32 b) = bitsN 2 a b := by
  rw [n2, or32]; exact orL_cong (plain_wrap _) (plain_wrap _)
theorem i3 (a b : Int) : bits .xor .i32 (wrap32 a) (wrap32 b) = bitsN 3 a b := by
  rw [n3, xor32]; exact xorL_cong (plain_wrap _) (plain_wrap _)
theorem i4 (a b : Int) : wrap32 (wrap32 a * 2 ^ (b % 32).toNat) = bitsN 4 a b := by
  rw [n4]; exact wrap32_cong (wrap_mul _ _)
theorem i5 (a b : Int) : wrap32 a / 2 ^ (b % 32).toNat = bitsN 5 a b := (n5 a b).symm
theorem i7 (a b : Int) : wrap32 (rotL a (b % 32)) = bitsN 7 a b := by rw [n7, rotL_wrap]
theorem i8 (a b : Int) : wrap32 (rotL a (-(b % 32) % 32)) = bitsN 8 a b := by
  rw [n8, turn_right _ _ (by omega) (by omega)]
end Go.Proofs.YtnpjcgmfmfhgdacDoor.BitsNum
