/-
  Plain facts on numbers in pieces of seven bits, no program in sight: with and without a sign.
-/
import Derived.Test.YtffngjgjhialnaaGreatDoorPlainNum
import Derived.Shelf.Bin.AppendUvarint
namespace Go.Proofs.YtffngjgjhialnaaGreatDoor.PlainLeb
open Go.RowKit PlainNum

theorem or_nat8 (x y : Int) : bits .or .u8 x y = IntKind.u8.wrap (((x % 256).toNat ||| (y % 256).toNat : Nat) : Int) := by
  show IntKind.u8.wrap ((BitVec.ofInt 8 x ||| BitVec.ofInt 8 y).toNat : Int) = _
  rw [BitVec.toNat_or, BitVec.toNat_ofInt, BitVec.toNat_ofInt]; rfl
theorem and_nat8 (x y : Int) : bits .and .u8 x y = IntKind.u8.wrap (((x % 256).toNat &&& (y % 256).toNat : Nat) : Int) := by
  show IntKind.u8.wrap ((BitVec.ofInt 8 x &&& BitVec.ofInt 8 y).toNat : Int) = _
  rw [BitVec.toNat_and, BitVec.toNat_ofInt, BitVec.toNat_ofInt]; rfl
set_option maxRecDepth 10000 in
theorem or128 : ∀ m, m < 256 → m ||| 128 = m % 128 + 128 := by decide
theorem or_u8 {a : Int} : bits .or .u8 (a % 256) 128 = a % 128 + 128 := by
  have h := or128 (a % 256).toNat (by omega)
  rw [or_nat8, Int.emod_emod, show ((128 : Int) % 256).toNat = 128 by decide, h, IntKind.wrap_u8]
  omega
theorem andNot_nat8 (x y : Int) : bits .andNot .u8 x y = IntKind.u8.wrap (((x % 256).toNat &&& (255 - (y % 256).toNat) : Nat) : Int) := by
  show IntKind.u8.wrap ((BitVec.ofInt 8 x &&& ~~~ BitVec.ofInt 8 y).toNat : Int) = _
  rw [BitVec.toNat_and, BitVec.toNat_not, BitVec.toNat_ofInt, BitVec.toNat_ofInt]; rfl
theorem and127 (m : Nat) : m &&& 127 = m % 128 := by
  rw [show 127 = 2 ^ 7 - 1 by decide, Nat.and_two_pow_sub_one_eq_mod]
theorem andNot_u8 {a : Int} : bits .andNot .u8 (a % 256) 128 = a % 128 := by
  rw [andNot_nat8, Int.emod_emod, show 255 - ((128 : Int) % 256).toNat = 127 by decide, and127, IntKind.wrap_u8]
  omega
theorem and_i64_127 (a : Int) : bits .and .i64 a 127 = a % 128 := by
  rw [and_nat64, show ((127 : Int) % 18446744073709551616).toNat = 127 by decide, and127, IntKind.wrap_i64]
  omega
theorem toU8 {y : Nat} (h : y < 256) : ((y.toUInt8.toNat : Nat) : Int) = (y : Int) := by
  simp [Nat.toUInt8, UInt8.toNat_ofNat', Nat.mod_eq_of_lt h]

/-- A number with a sign in pieces: as long as it is not between -64 and 63, a piece with 128 added. -/
def sleb : Nat → Int → List UInt8
  | 0, _ => []
  | k + 1, y => if -64 ≤ y ∧ y ≤ 63 then [(y % 128).toNat.toUInt8] else ((y % 128).toNat + 128).toUInt8 :: sleb k (y / 128)
/-- What k more pieces reach. -/
def lim : Nat → Int
  | 0 => 64
  | k + 1 => 128 * lim k
theorem sleb_small (k : Nat) {y : Int} (h : -64 ≤ y ∧ y ≤ 63) : sleb (k + 1) y = [(y % 128).toNat.toUInt8] := by simp [sleb, h]
theorem sleb_big (k : Nat) {y : Int} (h : ¬ (-64 ≤ y ∧ y ≤ 63)) : sleb (k + 1) y = ((y % 128).toNat + 128).toUInt8 :: sleb k (y / 128) := by simp only [sleb, if_neg h]
theorem lim_step {k : Nat} {y : Int} (h : -lim (k + 1) ≤ y ∧ y < lim (k + 1)) : -lim k ≤ y / 128 ∧ y / 128 < lim k := by
  have e : lim (k + 1) = 128 * lim k := rfl
  omega
theorem sleb_length : ∀ (k : Nat) (y : Int), (sleb k y).length ≤ k
  | 0, _ => by simp [sleb]
  | k + 1, y => by
    by_cases h : -64 ≤ y ∧ y ≤ 63
    · rw [sleb_small k h]; simp
    · rw [sleb_big k h]; have := sleb_length k (y / 128); simp; omega
theorem sleb_pos (k : Nat) (y : Int) : 0 < (sleb (k + 1) y).length := by
  by_cases h : -64 ≤ y ∧ y ≤ 63
  · rw [sleb_small k h]; simp
  · rw [sleb_big k h]; simp
end Go.Proofs.YtffngjgjhialnaaGreatDoor.PlainLeb
