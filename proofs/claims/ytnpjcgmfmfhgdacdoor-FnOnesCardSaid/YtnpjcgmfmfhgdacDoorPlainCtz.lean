/-
  Plain arithmetic: zeros behind the lowest one. No program in sight.
-/
import Derived.Test.YtnpjcgmfmfhgdacDoorPlainNum
import Derived.Lib.TrailingZeros
namespace Go.Proofs.YtnpjcgmfmfhgdacDoor.PlainCtz
open Go.RowKit PlainNum

theorem and1 (z : Int) : bits .and .i64 z 1 = z % 2 := by
  rw [and_nat64, show ((1 : Int) % 18446744073709551616).toNat = 2 ^ 1 - 1 by decide, Nat.and_two_pow_sub_one_eq_mod, IntKind.wrap_i64]
  omega
theorem ctzFrom_at : ∀ (k f x : Nat), k < f → x % 2 ^ k = 0 → x / 2 ^ k % 2 = 1 → Lib.ctzFrom f x = k
  | 0, f + 1, x, _, _, h => by
    rw [Lib.ctzFrom, if_pos (by simpa using h)]
  | k + 1, f + 1, x, hk, h0, h1 => by
    have e : x % 2 = 0 := by
      have := Nat.mod_mod_of_dvd x (show 2 ∣ 2 ^ (k + 1) from ⟨2 ^ k, by rw [Nat.pow_succ, Nat.mul_comm]⟩)
      rw [h0] at this; omega
    have d : x / 2 / 2 ^ k = x / 2 ^ (k + 1) := by rw [Nat.div_div_eq_div_mul, Nat.pow_succ, Nat.mul_comm]
    have m : x / 2 % 2 ^ k = 0 := by
      have hd : 2 ^ (k + 1) ∣ x := Nat.dvd_of_mod_eq_zero h0
      obtain ⟨c, hc⟩ := hd
      have : x / 2 = 2 ^ k * c := by rw [hc, Nat.pow_succ, Nat.mul_comm (2 ^ k) 2, Nat.mul_assoc, Nat.mul_div_cancel_left _ (by decide)]
      rw [this]; exact Nat.mul_mod_right _ _
    rw [Lib.ctzFrom, if_neg (by omega), ctzFrom_at k f (x / 2) (by omega) m (by rw [d]; exact h1)]
    omega
theorem ctz_at (x k : Nat) (hk : k < 32) (h0 : x % 2 ^ k = 0) (h1 : x / 2 ^ k % 2 = 1) : Lib.ctz 32 x = k := by
  have hx : x ≠ 0 := by intro h; subst h; simp at h1
  unfold Lib.ctz
  rw [if_neg hx]; exact ctzFrom_at k 32 x hk h0 h1
theorem ctz_end (x : Nat) (hx : x < 4294967296) (h0 : x % 2 ^ 32 = 0) : Lib.ctz 32 x = 32 := by
  have : x = 0 := by omega
  subst this; rfl
theorem next (x k : Nat) (h0 : x % 2 ^ k = 0) (h1 : ¬ x / 2 ^ k % 2 = 1) : x % 2 ^ (k + 1) = 0 := by
  rw [Nat.mod_pow_succ, h0]
  have : x / 2 ^ k % 2 = 0 := by omega
  rw [this]; simp
theorem bit_cast (n : Int) (k : Nat) : n % 4294967296 / 2 ^ k % 2 = (((n % 4294967296).toNat / 2 ^ k % 2 : Nat) : Int) := by
  obtain ⟨x, hx⟩ : ∃ x : Nat, n % 4294967296 = (x : Int) := ⟨(n % 4294967296).toNat, by omega⟩
  rw [hx, Int.toNat_natCast]; simp
end Go.Proofs.YtnpjcgmfmfhgdacDoor.PlainCtz
