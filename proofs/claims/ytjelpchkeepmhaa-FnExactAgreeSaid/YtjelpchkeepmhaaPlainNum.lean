/-
  Plain arithmetic on integers that wrap to 32 and 64 bits, no program in sight: what the walks of this seat lean on.
-/
import Derived.WalkKit
import Derived.Laws.BitsAll
namespace Go.Proofs.Ytjelpchkeepmhaa.PlainNum
open Go.RowKit
theorem and_nat64 (x y : Int) : bits .and .i64 x y = IntKind.i64.wrap (((x % 18446744073709551616).toNat &&& (y % 18446744073709551616).toNat : Nat) : Int) := by
  show IntKind.i64.wrap ((BitVec.ofInt 64 x &&& BitVec.ofInt 64 y).toNat : Int) = _
  rw [BitVec.toNat_and, BitVec.toNat_ofInt, BitVec.toNat_ofInt]; rfl
theorem or_nat64 (x y : Int) : bits .or .i64 x y = IntKind.i64.wrap (((x % 18446744073709551616).toNat ||| (y % 18446744073709551616).toNat : Nat) : Int) := by
  show IntKind.i64.wrap ((BitVec.ofInt 64 x ||| BitVec.ofInt 64 y).toNat : Int) = _
  rw [BitVec.toNat_or, BitVec.toNat_ofInt, BitVec.toNat_ofInt]; rfl
theorem xor_nat64 (x y : Int) : bits .xor .i64 x y = IntKind.i64.wrap (((x % 18446744073709551616).toNat ^^^ (y % 18446744073709551616).toNat : Nat) : Int) := by
  show IntKind.i64.wrap ((BitVec.ofInt 64 x ^^^ BitVec.ofInt 64 y).toNat : Int) = _
  rw [BitVec.toNat_xor, BitVec.toNat_ofInt, BitVec.toNat_ofInt]; rfl
theorem and_nat32 (x y : Int) : bits .and .i32 x y = IntKind.i32.wrap (((x % 4294967296).toNat &&& (y % 4294967296).toNat : Nat) : Int) := by
  show IntKind.i32.wrap ((BitVec.ofInt 32 x &&& BitVec.ofInt 32 y).toNat : Int) = _
  rw [BitVec.toNat_and, BitVec.toNat_ofInt, BitVec.toNat_ofInt]; rfl
theorem or_nat32 (x y : Int) : bits .or .i32 x y = IntKind.i32.wrap (((x % 4294967296).toNat ||| (y % 4294967296).toNat : Nat) : Int) := by
  show IntKind.i32.wrap ((BitVec.ofInt 32 x ||| BitVec.ofInt 32 y).toNat : Int) = _
  rw [BitVec.toNat_or, BitVec.toNat_ofInt, BitVec.toNat_ofInt]; rfl
theorem xor_nat32 (x y : Int) : bits .xor .i32 x y = IntKind.i32.wrap (((x % 4294967296).toNat ^^^ (y % 4294967296).toNat : Nat) : Int) := by
  show IntKind.i32.wrap ((BitVec.ofInt 32 x ^^^ BitVec.ofInt 32 y).toNat : Int) = _
  rw [BitVec.toNat_xor, BitVec.toNat_ofInt, BitVec.toNat_ofInt]; rfl
theorem and_low (n : Int) : bits .and .i64 n 4294967295 = n % 4294967296 := by
  rw [and_nat64, show ((4294967295:Int) % 18446744073709551616).toNat = 2^32-1 by decide, Nat.and_two_pow_sub_one_eq_mod, IntKind.wrap_i64]
  omega
theorem wrap32_lo (n : Int) : -2147483648 ≤ wrap32 n ∧ wrap32 n ≤ 2147483647 := by unfold wrap32; omega
theorem wrap32_hi {n : Int} (h : 2147483647 < n % 4294967296) : n % 4294967296 - 4294967296 = wrap32 n := by unfold wrap32; omega
theorem wrap32_low {n : Int} (h : ¬ 2147483647 < n % 4294967296) : n % 4294967296 = wrap32 n := by unfold wrap32; omega
theorem plain_wrap (n : Int) : wrap32 n % 4294967296 = n % 4294967296 := by unfold wrap32; omega
theorem wrap_plain (n : Int) : wrap32 (n % 4294967296) = wrap32 n := by unfold wrap32; omega
theorem wrap_wrap (n : Int) : wrap32 (wrap32 n) = wrap32 n := by unfold wrap32; omega
theorem mul_fits (a b : Int) : -4611686018427387904 ≤ wrap32 a * wrap32 b ∧ wrap32 a * wrap32 b ≤ 4611686018427387904 := by
  have h1 := wrap32_lo a
  have h2 := wrap32_lo b
  generalize wrap32 a = x at *
  generalize wrap32 b = y at *
  have e : (x * y).natAbs ≤ 2147483648 * 2147483648 := by
    rw [Int.natAbs_mul]; exact Nat.mul_le_mul (by omega) (by omega)
  omega
/-! ### Quotients and rests -/
theorem wrap32_in {n : Int} (h0 : -2147483648 ≤ n) (h1 : n ≤ 2147483647) : wrap32 n = n := by unfold wrap32; omega
theorem tdiv_fits {x y : Int} (hx : -2147483648 ≤ x ∧ x ≤ 2147483647) (hy : y ≠ 0) (hn : ¬ (x = -2147483648 ∧ y = -1)) : -2147483648 ≤ x.tdiv y ∧ x.tdiv y ≤ 2147483647 := by
  have e : (x.tdiv y).natAbs = x.natAbs / y.natAbs := Int.natAbs_tdiv x y
  have l : x.natAbs / y.natAbs ≤ x.natAbs := Nat.div_le_self _ _
  refine ⟨by omega, ?_⟩
  by_cases h2 : x.natAbs ≤ 2147483647
  · omega
  · have hxx : x = -2147483648 := by omega
    subst hxx
    by_cases h1 : y = 1
    · subst h1; simp
    · have h3 : 2 ≤ y.natAbs := by omega
      have h4 : (-2147483648 : Int).natAbs / y.natAbs ≤ 2147483648 / 2 := Nat.div_le_div_left h3 (by decide)
      omega
theorem tmod_fits {x y : Int} (hx : -2147483648 ≤ x ∧ x ≤ 2147483647) : -2147483648 ≤ x.tmod y ∧ x.tmod y ≤ 2147483647 := by
  have e : (x.tmod y).natAbs = x.natAbs % y.natAbs := Int.natAbs_tmod x y
  have l : x.natAbs % y.natAbs ≤ x.natAbs := Nat.mod_le _ _
  by_cases h : 0 ≤ x
  · have := Int.tmod_nonneg y h; omega
  · have : 0 ≤ (-x).tmod y := Int.tmod_nonneg y (by omega)
    rw [Int.neg_tmod] at this
    omega
/-- The quotient with a sign, and its code. -/
def dS (a b : Int) : Int := if wrap32 b = 0 then 0 else if wrap32 a = -2147483648 ∧ wrap32 b = -1 then 0 else (wrap32 a).tdiv (wrap32 b)
def dSc (a b : Int) : Int := if wrap32 b = 0 then 2 else if wrap32 a = -2147483648 ∧ wrap32 b = -1 then 3 else 0
def rS (a b : Int) : Int := if wrap32 b = 0 then 0 else (wrap32 a).tmod (wrap32 b)
def zc (b : Int) : Int := if wrap32 b = 0 then 2 else 0
def dU (a b : Int) : Int := if wrap32 b = 0 then 0 else wrap32 ((a % 4294967296) / (b % 4294967296))
def rU (a b : Int) : Int := if wrap32 b = 0 then 0 else wrap32 ((a % 4294967296) % (b % 4294967296))
theorem zero_plain (b : Int) : wrap32 b = 0 ↔ b % 4294967296 = 0 := by unfold wrap32; omega
theorem div_fits {x y : Int} (hx : 0 ≤ x ∧ x < 4294967296) (hy : 0 ≤ y) : 0 ≤ x / y ∧ x / y < 4294967296 := by
  refine ⟨Int.ediv_nonneg hx.1 hy, ?_⟩
  have := Int.ediv_le_self y hx.1
  omega
theorem mod_fits {x y : Int} (hx : 0 ≤ x ∧ x < 4294967296) (hy : 0 < y) : 0 ≤ x % y ∧ x % y < 4294967296 := by
  refine ⟨Int.emod_nonneg _ (by omega), ?_⟩
  by_cases h : x < y
  · rw [Int.emod_eq_of_lt hx.1 h]; omega
  · have := Int.emod_lt_of_pos x hy; omega
end Go.Proofs.Ytjelpchkeepmhaa.PlainNum
