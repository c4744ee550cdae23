/-
  Plain facts: a number that is read is written in no more bytes; no program in sight.
-/
import Derived.Test.YtgfdgeieojbgaaaPlainTrip
namespace Go.Proofs.Ytgfdgeieojbgaaa.PlainSize
open Go.RowKit PlainNum PlainLeb PlainGet PlainTrip

theorem okU_lt {t : List UInt8} (h : okU t) (h5 : t.length ≤ 5) : val t < 4294967296 := by
  have hv := val_last h.1
  have hl := val_lt t
  obtain ⟨⟨h0, _⟩, h2⟩ := h
  rcases (show t.length = 1 ∨ t.length = 2 ∨ t.length = 3 ∨ t.length = 4 ∨ t.length = 5 by omega) with e | e | e | e | e
  all_goals
    rw [e] at hv hl h2
    simp only [Nat.reducePow, Nat.reduceSub] at hv hl
    omega
theorem uv_len {t : List UInt8} (h : fin t) : (Lib.uvarint (val t)).length ≤ t.length := by
  obtain ⟨k, hk⟩ : ∃ k, t.length = k + 1 := ⟨t.length - 1, by have := h.1; omega⟩
  have hl := val_lt t
  rw [hk] at hl ⊢
  exact (uv k (val t) hl).2.2.2
theorem lim_pow : ∀ k, lim k = 64 * 128 ^ k
  | 0 => rfl
  | k + 1 => by rw [lim, lim_pow k, Int.pow_succ]; omega
theorem sval_lim {t : List UInt8} (h : fin t) {k : Nat} (hk : t.length = k + 1) : -lim k ≤ sval t ∧ sval t < lim k := by
  have hv := val_last h
  have hl := val_lt t
  have h1 := h.2
  rw [hk] at hv hl
  rw [lim_pow]
  rw [Nat.add_sub_cancel, Nat.add_mul, Nat.one_mul] at hv
  rw [Nat.pow_succ] at hl
  unfold sval
  rw [hk, Int.pow_succ]
  have e : (128 : Int) ^ k = ((128 ^ k : Nat) : Int) := by simp
  rw [e]
  generalize 128 ^ k = P at *
  split
  · rename_i h64
    have := Nat.mul_le_mul_right P h64
    omega
  · rename_i h64
    have h63 : lst t ≤ 63 := by omega
    have := Nat.mul_le_mul_right P h63
    omega
theorem sleb_len : ∀ (k j : Nat) (y : Int), -lim k ≤ y ∧ y < lim k → k + 1 ≤ j → (sleb j y).length ≤ k + 1
  | k, 0, y, _, h => by omega
  | k, j + 1, y, hy, hj => by
    by_cases h64 : -64 ≤ y ∧ y ≤ 63
    · rw [sleb_small j h64]; simp
    · rw [sleb_big j h64]
      cases k with
      | zero => have e : lim 0 = 64 := rfl; omega
      | succ k =>
        have := sleb_len k j (y / 128) (lim_step hy) (by omega)
        simp; omega
theorem okS_lt {t : List UInt8} (h : okS t) (h5 : t.length ≤ 5) : -2147483648 ≤ sval t ∧ sval t ≤ 2147483647 := by
  have hv := val_last h.1
  have hl := val_lt t
  obtain ⟨⟨h0, h1⟩, h2⟩ := h
  unfold sval
  rcases (show t.length = 1 ∨ t.length = 2 ∨ t.length = 3 ∨ t.length = 4 ∨ t.length = 5 by omega) with e | e | e | e | e
  all_goals
    rw [e] at hv hl h2 ⊢
    simp only [Nat.reducePow, Nat.reduceSub, Int.reducePow] at hv hl ⊢
    split <;> omega
theorem sl_len {t : List UInt8} (h : okS t) (h5 : t.length ≤ 5) : (sleb 5 (sval t)).length ≤ t.length := by
  obtain ⟨k, hk⟩ : ∃ k, t.length = k + 1 := ⟨t.length - 1, by have := h.1.1; omega⟩
  have := sleb_len k 5 (sval t) (sval_lim h.1 hk) (by omega)
  omega
end Go.Proofs.Ytgfdgeieojbgaaa.PlainSize
