/-
  Plain facts on characters in UTF-8: how many bytes the right one at a place has; no program in sight.
-/
import Derived.Test.YtffngjgjhialnaaGreatDoorPlainNum
import Derived.Shelf.Unicode.DecodeAny
namespace Go.Proofs.YtffngjgjhialnaaGreatDoor.PlainUtf
open Go.RowKit PlainNum

/-- Byte k of a text. -/
def by' (s : ByteArray) (k : Nat) : Nat := (s.get! k).toNat
theorem get_by (s : ByteArray) (k : Nat) (h : k < s.size) : (((s[k]'h).toNat : Nat) : Int) = (by' s k : Int) := by
  unfold by'
  rw [Utf8W.get!_of_lt s k h]
theorem by_lt (s : ByteArray) (k : Nat) : by' s k < 256 := UInt8.toNat_lt _
/-- How many bytes the right character at i has; 0 where it isn't right. -/
def wd (s : ByteArray) (i : Nat) : Nat :=
  if by' s i < 128 then 1
  else if by' s i / 32 = 6 ∧ i + 1 < s.size ∧ by' s (i + 1) / 64 = 2 then (if 128 ≤ by' s i % 32 * 64 + by' s (i + 1) % 64 then 2 else 0)
  else if by' s i / 16 = 14 ∧ (i + 1 < s.size ∧ by' s (i + 1) / 64 = 2) ∧ (i + 2 < s.size ∧ by' s (i + 2) / 64 = 2) then
    (if 2048 ≤ by' s i % 16 * 4096 + by' s (i + 1) % 64 * 64 + by' s (i + 2) % 64 ∧ ¬ (55296 ≤ by' s i % 16 * 4096 + by' s (i + 1) % 64 * 64 + by' s (i + 2) % 64 ∧ by' s i % 16 * 4096 + by' s (i + 1) % 64 * 64 + by' s (i + 2) % 64 ≤ 57343) then 3 else 0)
  else if by' s i / 8 = 30 ∧ (i + 1 < s.size ∧ by' s (i + 1) / 64 = 2) ∧ (i + 2 < s.size ∧ by' s (i + 2) / 64 = 2) ∧ (i + 3 < s.size ∧ by' s (i + 3) / 64 = 2) then
    (if 65536 ≤ by' s i % 8 * 262144 + by' s (i + 1) % 64 * 4096 + by' s (i + 2) % 64 * 64 + by' s (i + 3) % 64 ∧ by' s i % 8 * 262144 + by' s (i + 1) % 64 * 4096 + by' s (i + 2) % 64 * 64 + by' s (i + 3) % 64 ≤ 1114111 then 4 else 0)
  else 0
/-- What the decoder of a range says of it. -/
theorem decode_wd (s : ByteArray) (i : Nat) : (wd s i = 0 ∧ Utf8.decode s i = (65533, 1)) ∨ (0 < wd s i ∧ (Utf8.decode s i).2 = wd s i ∧ (wd s i = 1 → (Utf8.decode s i).1 < 128)) := by
  have h0 := by_lt s i
  have h1 := by_lt s (i + 1)
  have h2 := by_lt s (i + 2)
  have h3 := by_lt s (i + 3)
  have e : ∀ k, (s.get! k).toNat = by' s k := fun _ => rfl
  unfold wd Utf8.decode Utf8.valid Utf8.runeError
  simp only [Nat.add_zero, e, Bool.and_eq_true, beq_iff_eq, decide_eq_true_eq, Bool.or_eq_true, and_assoc]
  generalize by' s i = b0 at *
  generalize by' s (i + 1) = b1 at *
  generalize by' s (i + 2) = b2 at *
  generalize by' s (i + 3) = b3 at *
  clear e
  by_cases c0 : b0 < 128
  · simp only [if_pos c0]; refine .inr ?_; simp [c0]
  · simp only [if_neg c0]
    by_cases c1 : b0 / 32 = 6 ∧ i + 1 < s.size ∧ b1 / 64 = 2
    · simp only [if_pos c1]
      by_cases d1 : 128 ≤ b0 % 32 * 64 + b1 % 64
      · simp only [ge_iff_le, if_pos d1]; refine .inr ?_; simp
      · simp only [ge_iff_le, if_neg d1]; refine .inl ?_; simp
    · simp only [if_neg c1]
      by_cases c2 : b0 / 16 = 14 ∧ i + 1 < s.size ∧ b1 / 64 = 2 ∧ i + 2 < s.size ∧ b2 / 64 = 2
      · simp only [if_pos c2]
        by_cases d2 : 2048 ≤ b0 % 16 * 4096 + b1 % 64 * 64 + b2 % 64 ∧ ¬(55296 ≤ b0 % 16 * 4096 + b1 % 64 * 64 + b2 % 64 ∧ b0 % 16 * 4096 + b1 % 64 * 64 + b2 % 64 ≤ 57343)
        · simp only [if_pos d2]; rw [if_pos (by omega)]; refine .inr ?_; simp
        · simp only [if_neg d2]; rw [if_neg (by omega)]; refine .inl ?_; simp
      · simp only [if_neg c2]
        by_cases c3 : b0 / 8 = 30 ∧ i + 1 < s.size ∧ b1 / 64 = 2 ∧ i + 2 < s.size ∧ b2 / 64 = 2 ∧ i + 3 < s.size ∧ b3 / 64 = 2
        · simp only [if_pos c3]
          by_cases d3 : 65536 ≤ b0 % 8 * 262144 + b1 % 64 * 4096 + b2 % 64 * 64 + b3 % 64 ∧ b0 % 8 * 262144 + b1 % 64 * 4096 + b2 % 64 * 64 + b3 % 64 ≤ 1114111
          · simp only [if_pos d3]; rw [if_pos (by omega)]; refine .inr ?_; simp
          · simp only [if_neg d3]; rw [if_neg (by omega)]; refine .inl ?_; simp
        · simp only [if_neg c3]; refine .inl ?_; simp
end Go.Proofs.YtffngjgjhialnaaGreatDoor.PlainUtf
