/-
  Plain facts on ones and zeros of a number of 32 bits. No program in sight.
-/
import Derived.Test.YtnpjcgmfmfhgdacDoorBitsNum
import Derived.Test.YtnpjcgmfmfhgdacDoorPlainZero
import Derived.Test.YtnpjcgmfmfhgdacDoorPlainCtz
namespace Go.Proofs.YtnpjcgmfmfhgdacDoor.OnesFacts
open Go.RowKit PlainNum BitsNum PlainZero

def popT (m : Nat) : Nat → Nat
  | 0 => 0
  | k + 1 => popT m k + (m.testBit k).toNat
theorem popN_popT (m : Nat) : ∀ k, popN (m : Int) k = (popT m k : Int)
  | 0 => rfl
  | k + 1 => by
    have e : ((m : Int) / 2 ^ k % 2) = ((m / 2 ^ k % 2 : Nat) : Int) := by simp
    rw [popN, popT, popN_popT m k, e, ← Nat.toNat_testBit]; simp
theorem pop_compl (m : Nat) (hm : m < 2 ^ 32) : ∀ k, k ≤ 32 → popT m k + popT (2 ^ 32 - (m + 1)) k = k
  | 0, _ => rfl
  | k + 1, hk => by
    have h := pop_compl m hm k (by omega)
    have hb : (2 ^ 32 - (m + 1)).testBit k = (decide (k < 32) && !m.testBit k) := Nat.testBit_two_pow_sub_succ hm k
    have hk' : decide (k < 32) = true := by simp; omega
    rw [popT, popT, hb, hk']
    generalize popT (2 ^ 32 - (m + 1)) k = B at *
    cases m.testBit k <;> simp <;> omega
theorem pop_le (m c : Nat) (h0 : ∀ i, i < c → m.testBit i = false) : ∀ k, popT m k ≤ k - c
  | 0 => by simp [popT]
  | k + 1 => by
    have h := pop_le m c h0 k
    rw [popT]
    by_cases hk : k < c
    · rw [h0 k hk]; simp; omega
    · have : (m.testBit k).toNat ≤ 1 := Bool.toNat_le _
      omega
theorem pop_top (m L : Nat) (h1 : ∀ i, L ≤ i → m.testBit i = false) : ∀ k, L ≤ k → popT m k = popT m L
  | 0, h => by have : L = 0 := by omega
               subst this; rfl
  | k + 1, h => by
    by_cases hk : L = k + 1
    · subst hk; rfl
    · rw [popT, h1 k (by omega), pop_top m L h1 k (by omega)]; simp
theorem bitLen_bounds (m : Nat) : m ≠ 0 → m < 2 ^ 64 → 2 ^ (Lib.bitLen m - 1) ≤ m ∧ m < 2 ^ Lib.bitLen m ∧ 1 ≤ Lib.bitLen m := by
  induction m using Nat.strongRecOn with
  | _ m ih =>
    intro h0 h1
    rw [Lib.bitLen_half m h0 h1]
    by_cases h : m / 2 = 0
    · have hm : m = 1 := by omega
      subst hm
      have e : Lib.bitLen (1 / 2) = 0 := by decide
      rw [e]; decide
    · obtain ⟨a, b, c⟩ := ih (m / 2) (by omega) h (by omega)
      generalize Lib.bitLen (m / 2) = L at *
      have e1 : 1 + L - 1 = (L - 1) + 1 := by omega
      have e2 : 1 + L = L + 1 := by omega
      rw [e1, e2, Nat.pow_succ, Nat.pow_succ]
      omega
theorem ctz_form (m : Nat) (h0 : m ≠ 0) (h1 : m < 2 ^ 32) : ∃ q, m = 2 ^ Lib.ctz 32 m * (2 * q + 1) ∧ Lib.ctz 32 m < 32 := by
  unfold Lib.ctz
  rw [if_neg h0]
  exact Lib.ctzFrom_spec 32 m (by omega) h1
theorem ones_le (m : Nat) (h0 : m ≠ 0) (h1 : m < 2 ^ 32) : popT m 32 + Lib.ctz 32 m ≤ Lib.bitLen m ∧ Lib.bitLen m ≤ 32 ∧ 1 ≤ Lib.bitLen m := by
  obtain ⟨a, b, c⟩ := bitLen_bounds m h0 (by omega)
  obtain ⟨q, hq, hc⟩ := ctz_form m h0 h1
  have hL : Lib.bitLen m ≤ 32 := by
    rcases Nat.lt_or_ge 32 (Lib.bitLen m) with h | h
    · exact absurd (Nat.lt_of_le_of_lt (Nat.le_trans (Nat.pow_le_pow_right (by decide) (show 32 ≤ Lib.bitLen m - 1 by omega)) a) h1) (by decide)
    · exact h
  have z0 : ∀ i, i < Lib.ctz 32 m → m.testBit i = false := by
    intro i hi
    rw [hq, Nat.testBit_two_pow_mul]
    simp; intro hle; omega
  have z1 : ∀ i, Lib.bitLen m ≤ i → m.testBit i = false := fun i hi => Nat.testBit_lt_two_pow (Nat.lt_of_lt_of_le b (Nat.pow_le_pow_right (by decide) hi))
  have hle := pop_le m (Lib.ctz 32 m) z0 (Lib.bitLen m)
  rw [pop_top m (Lib.bitLen m) z1 32 hL]
  have hcL : Lib.ctz 32 m < Lib.bitLen m := by
    rcases Nat.lt_or_ge (Lib.ctz 32 m) (Lib.bitLen m) with h | h
    · exact h
    · have h2 := Nat.pow_le_pow_right (show 0 < 2 by decide) h
      have h3 : 2 ^ Lib.ctz 32 m ≤ m := by
        rcases Nat.eq_zero_or_pos m with hz | hz
        · omega
        · exact Nat.le_of_dvd hz ⟨2 * q + 1, hq⟩
      omega
  omega
theorem top_one (m : Nat) (h0 : m ≠ 0) (h1 : m < 2 ^ 32) : m / 2 ^ (Lib.bitLen m - 1) = 1 := by
  obtain ⟨a, b, c⟩ := bitLen_bounds m h0 (by omega)
  generalize Lib.bitLen m = L at *
  obtain ⟨k, rfl⟩ : ∃ k, L = k + 1 := ⟨L - 1, by omega⟩
  rw [Nat.pow_succ] at b
  simp only [Nat.add_sub_cancel] at *
  have hp := Nat.two_pow_pos k
  have h2 : m / 2 ^ k < 2 := by rw [Nat.div_lt_iff_lt_mul hp]; omega
  have h3 : 1 ≤ m / 2 ^ k := (Nat.le_div_iff_mul_le hp).2 (by omega)
  omega
theorem low_one (m : Nat) (h0 : m ≠ 0) (h1 : m < 2 ^ 32) : m / 2 ^ Lib.ctz 32 m % 2 = 1 := by
  obtain ⟨q, hq, hc⟩ := ctz_form m h0 h1
  generalize Lib.ctz 32 m = c at *
  rw [hq, Nat.mul_div_cancel_left _ (Nat.two_pow_pos c)]
  omega
end Go.Proofs.YtnpjcgmfmfhgdacDoor.OnesFacts
