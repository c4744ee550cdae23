/-
  Plain arithmetic on single bits: how many ones, zeros ahead, zeros behind. No program in sight.
-/
import Derived.Test.YtnpjcgmfmfhgdacDoorPlainNum
import Derived.Shelf.Small.Bits
import Derived.Lib.Tables
import Derived.Laws.BitsAll
namespace Go.Proofs.YtnpjcgmfmfhgdacDoor.PlainZero
open Go.RowKit PlainNum

theorem and1 (z : Int) : bits .and .i64 z 1 = z % 2 := by
  rw [and_nat64, show ((1 : Int) % 18446744073709551616).toNat = 2 ^ 1 - 1 by decide, Nat.and_two_pow_sub_one_eq_mod, IntKind.wrap_i64]
  omega
/-- Ones among the lowest k bits. -/
def popN (x : Int) : Nat → Int
  | 0 => 0
  | k + 1 => popN x k + x / 2 ^ k % 2
theorem popN_fits (x : Int) : ∀ k, 0 ≤ popN x k ∧ popN x k ≤ k
  | 0 => ⟨Int.le_refl _, Int.le_refl _⟩
  | k + 1 => by
    have h := popN_fits x k
    unfold popN
    omega
theorem pow_cast (k : Nat) : ((2 : Int) ^ k).toNat = 2 ^ k := by
  have : ((2 ^ k : Nat) : Int) = (2 : Int) ^ k := by simp
  rw [← this]; rfl
theorem bitLen_at (x : Int) (k : Nat) (hk : k ≤ 31) (h0 : 0 ≤ x) (h1 : x < 2 ^ (k + 1)) (h2 : x / 2 ^ k % 2 = 1) : (Lib.bitLen x.toNat : Int) = k + 1 := by
  have hp : (0 : Int) < 2 ^ k := Int.pow_pos (by decide)
  have e1 : x / 2 ^ k < 2 := by
    refine Int.ediv_lt_of_lt_mul hp ?_
    rw [Int.pow_succ] at h1; rw [Int.mul_comm]; exact h1
  have e0 : 0 ≤ x / 2 ^ k := Int.ediv_nonneg h0 (by omega)
  have e2 : x / 2 ^ k = 1 := by omega
  have e3 : 2 ^ k ≤ x := by
    have := Int.mul_ediv_self_le (x := x) (k := 2 ^ k) (by omega)
    rw [e2] at this; omega
  have c1 : ((2 ^ k : Nat) : Int) = (2 : Int) ^ k := by simp
  have c2 : ((2 ^ (k + 1) : Nat) : Int) = (2 : Int) ^ (k + 1) := by simp
  have n3 : 2 ^ k ≤ x.toNat := by omega
  have n1 : x.toNat < 2 ^ (k + 1) := by omega
  have n4 : x.toNat < 2 ^ 64 := Nat.lt_of_lt_of_le n1 (Nat.pow_le_pow_right (by decide) (by omega))
  have n5 : x.toNat / 2 ^ k = 1 := by
    have h : x.toNat / 2 ^ k < 2 := by
      rw [Nat.div_lt_iff_lt_mul (Nat.two_pow_pos k)]
      rw [Nat.pow_succ] at n1; omega
    have h' : 1 ≤ x.toNat / 2 ^ k := (Nat.le_div_iff_mul_le (Nat.two_pow_pos k)).2 (by omega)
    omega
  rw [Lib.bitLen_shift k x.toNat n3 n4, n5, show Lib.bitLen 1 = 1 by decide]
  omega
theorem below (x : Int) (k : Nat) (h0 : 0 ≤ x) (h1 : x < 2 ^ (k + 1)) (h2 : ¬ x / 2 ^ k % 2 = 1) : x < 2 ^ k := by
  have hp : (0 : Int) < 2 ^ k := Int.pow_pos (by decide)
  have e1 : x / 2 ^ k < 2 := by
    refine Int.ediv_lt_of_lt_mul hp ?_
    rw [Int.pow_succ] at h1; rw [Int.mul_comm]; exact h1
  have e0 : 0 ≤ x / 2 ^ k := Int.ediv_nonneg h0 (by omega)
  have e2 : x / 2 ^ k = 0 := by omega
  have := Int.lt_mul_ediv_self_add (x := x) (k := 2 ^ k) hp
  rw [e2] at this; omega
theorem popN_add (x : Int) (k : Nat) : ∀ j, popN x (k + j) = popN x k + popN (x / 2 ^ k) j
  | 0 => by simp [popN]
  | j + 1 => by
    have e : x / 2 ^ k / 2 ^ j = x / 2 ^ (k + j) := by rw [Int.ediv_ediv_of_nonneg (Int.le_of_lt (Int.pow_pos (by decide))), ← Int.pow_add]
    rw [← Nat.add_assoc, popN, popN, popN_add x k j, e]; omega
theorem popN_low8 (x : Int) : popN x 8 = popN (x % 256) 8 := by
  simp only [popN, Int.reducePow]; omega
theorem pop8_popN : ∀ n : Fin 256, Lib.pop8 (n.val : Int) = popN (n.val : Int) 8 := by decide +kernel
theorem pop8_at (x : Int) (h0 : 0 ≤ x) (h1 : x ≤ 255) : Lib.pop8 x = popN x 8 := by
  have h := pop8_popN ⟨x.toNat, by omega⟩
  have e : ((x.toNat : Nat) : Int) = x := by omega
  simpa [e] using h
theorem pop_four (x : Int) (h0 : 0 ≤ x) (h1 : x ≤ 4294967295) :
    Lib.pop8 (x / 16777216) + Lib.pop8 (x / 65536 % 256) + Lib.pop8 (x / 256 % 256) + Lib.pop8 (x % 256) = popN x 32 := by
  rw [pop8_at _ (by omega) (by omega), pop8_at _ (by omega) (by omega), pop8_at _ (by omega) (by omega), pop8_at _ (by omega) (by omega)]
  rw [show (32 : Nat) = 8 + 24 from rfl, popN_add, show (24 : Nat) = 8 + 16 from rfl, popN_add, show (16 : Nat) = 8 + 8 from rfl, popN_add]
  rw [← popN_low8, ← popN_low8, ← popN_low8]
  simp only [Int.reducePow]
  rw [show x / 256 / 256 = x / 65536 by omega, show x / 65536 / 256 = x / 16777216 by omega]
  omega
theorem pop8_fits (x : Int) (h0 : 0 ≤ x) (h1 : x ≤ 255) : 0 ≤ Lib.pop8 x ∧ Lib.pop8 x ≤ 8 := by
  rw [pop8_at x h0 h1]; exact popN_fits x 8
theorem and255 (x : Int) (h0 : 0 ≤ x) (h1 : x ≤ 4294967295) : bits .and .u32 x 255 = x % 256 := by
  rw [u32_and _ _ h0 (by omega) (by decide) (by decide), show (255 : Int).toNat = 255 from rfl, nat_mask8]; omega
end Go.Proofs.YtnpjcgmfmfhgdacDoor.PlainZero
