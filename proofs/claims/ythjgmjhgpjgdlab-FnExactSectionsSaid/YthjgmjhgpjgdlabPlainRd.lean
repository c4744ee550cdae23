/-
  Reading from the beginning of a list of bytes, in plain words: numbers and instructions.
-/
import Derived.Test.YthjgmjhgpjgdlabPlainGet
namespace Go.Proofs.Ythjgmjhgpjgdlab.PlainRd
open Go.RowKit PlainNum PlainLeb PlainGet

/-- A plain number at the beginning, and how many bytes it takes. -/
def gU (bs : List UInt8) : Option (Nat × Nat) := if okU (tk bs 0) then some (val (tk bs 0), (tk bs 0).length) else none
/-- A number with a sign. -/
def gS (bs : List UInt8) : Option (Int × Nat) := if okS (tk bs 0) then some (sval (tk bs 0), (tk bs 0).length) else none
theorem took_le : ∀ (k : Nat) (l : List UInt8), (took k l).length ≤ l.length
  | 0, _ => by simp [took]
  | _ + 1, [] => by simp [took]
  | k + 1, u :: r => by
    rw [took]
    split
    · simp
    · have := took_le k r; simp; omega
theorem tk_le (bs : List UInt8) : (tk bs 0).length ≤ bs.length := took_le 5 _
theorem tk_at (bs : List UInt8) (p : Nat) : tk bs (p : Int) = tk (bs.drop p) 0 := rfl
theorem gU_some {bs : List UInt8} {n k : Nat} (h : gU bs = some (n, k)) : okU (tk bs 0) ∧ n = val (tk bs 0) ∧ k = (tk bs 0).length := by
  unfold gU at h
  split at h
  · rename_i h1
    simp only [Option.some.injEq, Prod.mk.injEq] at h
    exact ⟨h1, h.1.symm, h.2.symm⟩
  · cases h
theorem gS_some {bs : List UInt8} {n : Int} {k : Nat} (h : gS bs = some (n, k)) : okS (tk bs 0) ∧ n = sval (tk bs 0) ∧ k = (tk bs 0).length := by
  unfold gS at h
  split at h
  · rename_i h1
    simp only [Option.some.injEq, Prod.mk.injEq] at h
    exact ⟨h1, h.1.symm, h.2.symm⟩
  · cases h
theorem gU_none {bs : List UInt8} (h : gU bs = none) : ¬ okU (tk bs 0) := by
  unfold gU at h
  split at h
  · cases h
  · assumption
theorem gS_none {bs : List UInt8} (h : gS bs = none) : ¬ okS (tk bs 0) := by
  unfold gS at h
  split at h
  · cases h
  · assumption
theorem gU_le {bs : List UInt8} {n k : Nat} (h : gU bs = some (n, k)) : 0 < k ∧ k ≤ bs.length ∧ k ≤ 5 ∧ n < 34359738368 := by
  obtain ⟨h1, h2, h3⟩ := gU_some h
  have a := tk_le bs
  have b := tk_length bs 0
  have c := val_lt (tk bs 0)
  have d := h1.1.1
  have e : 128 ^ (tk bs 0).length ≤ 128 ^ 5 := Nat.pow_le_pow_right (by decide) b
  rw [show (128 : Nat) ^ 5 = 34359738368 by decide] at e
  omega
theorem gS_le {bs : List UInt8} {n : Int} {k : Nat} (h : gS bs = some (n, k)) : 0 < k ∧ k ≤ bs.length ∧ k ≤ 5 ∧ -34359738368 ≤ n ∧ n < 34359738368 := by
  obtain ⟨h1, h2, h3⟩ := gS_some h
  have a := tk_le bs
  have b := tk_length bs 0
  have c := val_lt (tk bs 0)
  have d := h1.1.1
  have e : 128 ^ (tk bs 0).length ≤ 128 ^ 5 := Nat.pow_le_pow_right (by decide) b
  rw [show (128 : Nat) ^ 5 = 34359738368 by decide] at e
  have f : (((128 ^ (tk bs 0).length : Nat)) : Int) = (128 : Int) ^ (tk bs 0).length := by simp
  by_cases g : 64 ≤ lst (tk bs 0)
  · rw [sval_hi g, ← f] at h2
    omega
  · rw [sval_lo g] at h2
    omega
theorem ansU_at {bs : List UInt8} {p n k : Nat} (hp : p ≤ bs.length) (h : gU (bs.drop p) = some (n, k)) : ansU bs (p : Int) = .tuple #[.int .i64 (n : Int), .int .i64 ((p : Int) + (k : Int)), .bool true] := by
  obtain ⟨h1, h2, h3⟩ := gU_some h
  have hl := gU_le h
  rw [List.length_drop] at hl
  rw [ansU_yes ⟨by omega, by omega, by rw [tk_at]; exact h1⟩, tk_at, ← h2, ← h3]
theorem ansU_at_no {bs : List UInt8} {p : Nat} (h : gU (bs.drop p) = none) : ansU bs (p : Int) = nought := ansU_no fun ⟨_, _, h3⟩ => gU_none h (by rw [tk_at] at h3; exact h3)
theorem ansS_at {bs : List UInt8} {p k : Nat} {n : Int} (hp : p ≤ bs.length) (h : gS (bs.drop p) = some (n, k)) : ansS bs (p : Int) = .tuple #[.int .i64 n, .int .i64 ((p : Int) + (k : Int)), .bool true] := by
  obtain ⟨h1, h2, h3⟩ := gS_some h
  have hl := gS_le h
  rw [List.length_drop] at hl
  rw [ansS_yes ⟨by omega, by omega, by rw [tk_at]; exact h1⟩, tk_at, ← h2, ← h3]
theorem ansS_at_no {bs : List UInt8} {p : Nat} (h : gS (bs.drop p) = none) : ansS bs (p : Int) = nought := ansS_no fun ⟨_, _, h3⟩ => gS_none h (by rw [tk_at] at h3; exact h3)
theorem ansU_0 {bs : List UInt8} {n k : Nat} (h : gU bs = some (n, k)) : ansU bs 0 = .tuple #[.int .i64 (n : Int), .int .i64 (k : Int), .bool true] := by
  have := ansU_at (bs := bs) (p := 0) (Nat.zero_le _) (by rw [List.drop_zero]; exact h)
  simpa using this
theorem ansU_0_no {bs : List UInt8} (h : gU bs = none) : ansU bs 0 = nought := by
  have := ansU_at_no (bs := bs) (p := 0) (by rw [List.drop_zero]; exact h)
  simpa using this
theorem ansS_0 {bs : List UInt8} {n : Int} {k : Nat} (h : gS bs = some (n, k)) : ansS bs 0 = .tuple #[.int .i64 n, .int .i64 (k : Int), .bool true] := by
  have := ansS_at (bs := bs) (p := 0) (Nat.zero_le _) (by rw [List.drop_zero]; exact h)
  simpa using this
theorem ansS_0_no {bs : List UInt8} (h : gS bs = none) : ansS bs 0 = nought := by
  have := ansS_at_no (bs := bs) (p := 0) (by rw [List.drop_zero]; exact h)
  simpa using this
end Go.Proofs.Ythjgmjhgpjgdlab.PlainRd
