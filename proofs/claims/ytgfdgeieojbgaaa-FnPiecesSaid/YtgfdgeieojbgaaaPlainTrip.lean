/-
  Plain facts: a number that is written in pieces is read again; no program in sight.
-/
import Derived.Test.YtgfdgeieojbgaaaPlainGet
namespace Go.Proofs.Ytgfdgeieojbgaaa.PlainTrip
open Go.RowKit PlainNum PlainLeb PlainGet

theorem toU8n {y : Nat} (h : y < 256) : y.toUInt8.toNat = y := by
  simp [Nat.toUInt8, UInt8.toNat_ofNat', Nat.mod_eq_of_lt h]
theorem lst_cons {u : UInt8} {r : List UInt8} (h : 0 < r.length) : lst (u :: r) = lst r := by
  cases r with
  | nil => simp at h
  | cons v s => simp [lst]
/-- Where the last byte stands. -/
theorem val_last {t : List UInt8} (h : fin t) : lst t * 128 ^ (t.length - 1) ≤ val t ∧ val t < (lst t + 1) * 128 ^ (t.length - 1) := by
  obtain ⟨h0, h1⟩ := h
  rcases List.eq_nil_or_concat t with rfl | ⟨q, u, rfl⟩
  · simp at h0
  · rw [List.concat_eq_append] at h0 h1 ⊢
    have hv := val_snoc q u
    have hl := val_lt q
    rw [lst_snoc] at h1
    rw [Nat.mod_eq_of_lt h1] at hv
    have hlen : (q ++ [u]).length - 1 = q.length := by simp
    rw [lst_snoc, hlen, hv, Nat.add_mul, Nat.one_mul]
    omega
theorem uv (k : Nat) : ∀ x, x < 128 ^ (k + 1) → took (k + 1) (Lib.uvarint x) = Lib.uvarint x ∧ val (Lib.uvarint x) = x ∧ fin (Lib.uvarint x) ∧ (Lib.uvarint x).length ≤ k + 1 := by
  induction k with
  | zero =>
    intro x hx
    have hx' : x < 128 := by simpa using hx
    rw [Lib.uvarint_small hx']
    have hu := toU8n (y := x) (by omega)
    refine ⟨took_small 0 [] (by omega), by simp [val, hu]; omega, ⟨by simp, by simp [lst, hu]; omega⟩, by simp⟩
  | succ k ih =>
    intro x hx
    by_cases h128 : 128 ≤ x
    · rw [Lib.uvarint_big h128]
      have hu := toU8n (y := x % 128 + 128) (by omega)
      obtain ⟨i1, i2, i3, i4⟩ := ih (x / 128) (by rw [Nat.pow_succ] at hx; omega)
      refine ⟨?_, ?_, ⟨by simp, ?_⟩, by simp; omega⟩
      · rw [took_big _ _ (by omega), i1]
      · rw [val, hu, i2]; omega
      · rw [lst_cons i3.1]; exact i3.2
    · have hx' : x < 128 := by omega
      rw [Lib.uvarint_small hx']
      have hu := toU8n (y := x) (by omega)
      refine ⟨took_small _ [] (by omega), by simp [val, hu]; omega, ⟨by simp, by simp [lst, hu]; omega⟩, by simp⟩
theorem uv_ok {x : Nat} (h : x < 4294967296) : took 5 (Lib.uvarint x) = Lib.uvarint x ∧ val (Lib.uvarint x) = x ∧ okU (Lib.uvarint x) ∧ (Lib.uvarint x).length ≤ 5 := by
  obtain ⟨h1, h2, h3, h4⟩ := uv 4 x (by simp; omega)
  refine ⟨h1, h2, ⟨h3, ?_⟩, h4⟩
  by_cases h5 : (Lib.uvarint x).length < 5
  · exact .inl h5
  · have hv := val_last h3
    rw [h2, show (Lib.uvarint x).length - 1 = 4 by omega] at hv
    simp only [Nat.reducePow] at hv
    omega
theorem sl (k : Nat) : ∀ y, -lim k ≤ y ∧ y < lim k → took (k + 1) (sleb (k + 1) y) = sleb (k + 1) y ∧ sval (sleb (k + 1) y) = y ∧ fin (sleb (k + 1) y) ∧ (sleb (k + 1) y).length ≤ k + 1 := by
  have small : ∀ (k : Nat) (y : Int), -64 ≤ y ∧ y ≤ 63 → took (k + 1) (sleb (k + 1) y) = sleb (k + 1) y ∧ sval (sleb (k + 1) y) = y ∧ fin (sleb (k + 1) y) ∧ (sleb (k + 1) y).length ≤ k + 1 := by
    intro k y h
    rw [sleb_small k h]
    have hu := toU8n (y := (y % 128).toNat) (by omega)
    have hl : lst [(y % 128).toNat.toUInt8] = (y % 128).toNat := by simp [lst, hu]
    have hv : val [(y % 128).toNat.toUInt8] = (y % 128).toNat := by simp [val, hu]; omega
    refine ⟨took_small _ [] (by omega), ?_, ⟨by simp, by omega⟩, by simp⟩
    unfold sval
    rw [hl, hv]
    simp only [List.length_singleton, Int.pow_succ, Int.pow_zero]
    split <;> omega
  induction k with
  | zero =>
    intro y hy
    have e : lim 0 = 64 := rfl
    exact small 0 y (by omega)
  | succ k ih =>
    intro y hy
    by_cases h64 : -64 ≤ y ∧ y ≤ 63
    · exact small (k + 1) y h64
    · rw [sleb_big (k + 1) h64]
      have hu := toU8n (y := (y % 128).toNat + 128) (by omega)
      obtain ⟨i1, i2, i3, i4⟩ := ih (y / 128) (lim_step hy)
      have hc := lst_cons (u := ((y % 128).toNat + 128).toUInt8) i3.1
      refine ⟨?_, ?_, ⟨by simp, ?_⟩, by simp; omega⟩
      · rw [took_big _ _ (by omega), i1]
      · have hv : val (((y % 128).toNat + 128).toUInt8 :: sleb (k + 1) (y / 128)) = (y % 128).toNat + 128 * val (sleb (k + 1) (y / 128)) := by rw [val, hu]; omega
        unfold sval at i2 ⊢
        rw [hc, hv, List.length_cons, Int.pow_succ]
        generalize (128 : Int) ^ (sleb (k + 1) (y / 128)).length = P at *
        split
        · rename_i h; rw [if_pos h] at i2; omega
        · rename_i h; rw [if_neg h] at i2; omega
      · rw [hc]; exact i3.2
theorem sl_ok {y : Int} (h : -2147483648 ≤ y ∧ y ≤ 2147483647) : took 5 (sleb 5 y) = sleb 5 y ∧ sval (sleb 5 y) = y ∧ okS (sleb 5 y) ∧ (sleb 5 y).length ≤ 5 := by
  obtain ⟨h1, h2, h3, h4⟩ := sl 4 y (by simp [lim]; omega)
  refine ⟨h1, h2, ⟨h3, ?_⟩, h4⟩
  by_cases h5 : (sleb 5 y).length < 5
  · exact .inl h5
  · have hv := val_last h3
    have h5' : (sleb 5 y).length = 5 := by have : (sleb 5 y).length ≤ 5 := h4; omega
    unfold sval at h2
    rw [show (sleb (4 + 1) y) = sleb 5 y from rfl] at h2 hv
    rw [h5'] at h2 hv
    simp only [Nat.reducePow, Nat.reduceSub, Int.reducePow] at h2 hv
    by_cases h64 : 64 ≤ lst (sleb 5 y)
    · rw [if_pos h64] at h2; omega
    · rw [if_neg h64] at h2; omega
theorem tk_behind (bs r : List UInt8) : tk (bs ++ r) (bs.length : Int) = took 5 r := by
  unfold tk
  simp
end Go.Proofs.Ytgfdgeieojbgaaa.PlainTrip
