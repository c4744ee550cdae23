/-
  Plain arithmetic on integers that wrap to 32 and 64 bits, no program in sight: what the walks of this seat lean on.
-/
import Derived.WalkKit
import Derived.Laws.BitsAll
namespace Go.Proofs.Ytnpjcgmfmfhgdai.PlainNum
open Go.RowKit
theorem and_nat64 (x y : Int) : bits .and .i64 x y = IntKind.i64.wrap (((x % 18446744073709551616).toNat &&& (y % 18446744073709551616).toNat : Nat) : Int) := by
  show IntKind.i64.wrap ((BitVec.ofInt 64 x &&& BitVec.ofInt 64 y).toNat : Int) = _
  rw [BitVec.toNat_and, BitVec.toNat_ofInt, BitVec.toNat_ofInt]; rfl
theorem or_nat64 (x y : Int) : bits .or .i64 x y = IntKind.i64.wrap (((x % 18446744073709551616).toNat ||| (y % 18446744073709551616).toNat : Nat) : Int) := by
  show IntKind.i64.wrap ((BitVec.ofInt 64 x ||| BitVec.ofInt 64 y).toNat : Int) = _
  rw [BitVec.toNat_or, BitVec.toNat_ofInt, BitVec.toNat_ofInt]; rfl
theorem xor_nat64 (x y : Int) : bits .xor .i64 x y = IntKind.i64.wrap (((x % 18446744073709551616).toNat ^^^ (y % 18446744073709551616).toNat : Nat) : Int) := by
  show IntKind.i64.wrap ((BitVec.ofInt 64 x ^^^ BitVec.ofInt 64 y).toNat : Int) = _
  rw [BitVec.toNat_xor, BitVec.toNat_ofInt, BitVec.toNat_ofInt]; rfl
theorem and_nat32 (x y : Int) : bits .and .i32 x y = IntKind.i32.wrap (((x % 4294967296).toNat &&& (y % 4294967296).toNat : Nat) : Int) := by
  show IntKind.i32.wrap ((BitVec.ofInt 32 x &&& BitVec.ofInt 32 y).toNat : Int) = _
  rw [BitVec.toNat_and, BitVec.toNat_ofInt, BitVec.toNat_ofInt]; rfl
theorem or_nat32 (x y : Int) : bits .or .i32 x y = IntKind.i32.wrap (((x % 4294967296).toNat ||| (y % 4294967296).toNat : Nat) : Int) := by
  show IntKind.i32.wrap ((BitVec.ofInt 32 x ||| BitVec.ofInt 32 y).toNat : Int) = _
  rw [BitVec.toNat_or, BitVec.toNat_ofInt, BitVec.toNat_ofInt]; rfl
theorem xor_nat32 (x y : Int) : bits .xor .i32 x y = IntKind.i32.wrap (((x % 4294967296).toNat ^^^ (y % 4294967296).toNat : Nat) : Int) := by
  show IntKind.i32.wrap ((BitVec.ofInt 32 x ^^^ BitVec.ofInt 32 y).toNat : Int) = _
  rw [BitVec.toNat_xor, BitVec.toNat_ofInt, BitVec.toNat_ofInt]; rfl
theorem and_low (n : Int) : bits .and .i64 n 4294967295 = n % 4294967296 := by
  rw [and_nat64, show ((4294967295:Int) % 18446744073709551616).toNat = 2^32-1 by decide, Nat.and_two_pow_sub_one_eq_mod, IntKind.wrap_i64]
  omega
theorem wrap32_lo (n : Int) : -2147483648 ≤ wrap32 n ∧ wrap32 n ≤ 2147483647 := by unfold wrap32; omega
theorem wrap32_hi {n : Int} (h : 2147483647 < n % 4294967296) : n % 4294967296 - 4294967296 = wrap32 n := by unfold wrap32; omega
theorem wrap32_low {n : Int} (h : ¬ 2147483647 < n % 4294967296) : n % 4294967296 = wrap32 n := by unfold wrap32; omega
theorem plain_wrap (n : Int) : wrap32 n % 4294967296 = n % 4294967296 := by unfold wrap32; omega
theorem wrap_plain (n : Int) : wrap32 (n % 4294967296) = wrap32 n := by unfold wrap32; omega
theorem wrap_wrap (n : Int) : wrap32 (wrap32 n) = wrap32 n := by unfold wrap32; omega
theorem mul_fits (a b : Int) : -4611686018427387904 ≤ wrap32 a * wrap32 b ∧ wrap32 a * wrap32 b ≤ 4611686018427387904 := by
  have h1 := wrap32_lo a
  have h2 := wrap32_lo b
  generalize wrap32 a = x at *
  generalize wrap32 b = y at *
  have e : (x * y).natAbs ≤ 2147483648 * 2147483648 := by
    rw [Int.natAbs_mul]; exact Nat.mul_le_mul (by omega) (by omega)
  omega
end Go.Proofs.Ytnpjcgmfmfhgdai.PlainNum
