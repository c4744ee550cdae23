/-
  Plain facts on decimal texts: their digits, their value, that reading gives back what was written. No program in sight.
-/
import Derived.Lib.ItoaNum
import Derived.Lib.ItoaLen
import Derived.Lib.ItoaMem
import Derived.Lib.ParseIntB
namespace Go.Proofs.YtjbhelcdakhjbaaDoor.PlainText
open Go.Lib

def isDig (c : UInt8) : Prop := 48 ≤ c.toNat ∧ c.toNat ≤ 57
def valFrom (acc : Nat) : List UInt8 → Nat
  | [] => acc
  | c :: r => valFrom (acc * 10 + (c.toNat - 48)) r
theorem valFrom_snoc (l : List UInt8) : ∀ (acc : Nat) (c : UInt8), valFrom acc (l ++ [c]) = valFrom acc l * 10 + (c.toNat - 48) := by
  induction l with
  | nil => intro acc c; rfl
  | cons a t ih => intro acc c; exact ih _ c
theorem valFrom_ge (l : List UInt8) : ∀ acc : Nat, acc ≤ valFrom acc l := by
  induction l with
  | nil => intro acc; exact Nat.le_refl _
  | cons a t ih =>
    intro acc
    show acc ≤ valFrom (acc * 10 + (a.toNat - 48)) t
    exact Nat.le_trans (Nat.le_trans (Nat.le_mul_of_pos_right acc (by decide)) (Nat.le_add_right _ _)) (ih _)
theorem dig_toNat (n : Nat) (h : n < 10) : (UInt8.ofNat (48 + n)).toNat = 48 + n := by
  rw [UInt8.toNat_ofNat']; omega
theorem dec_spec (u : Nat) : (∀ c ∈ decDigits u, isDig c) ∧ valFrom 0 (decDigits u) = u ∧ decDigits u ≠ [] := by
  induction u using Nat.strongRecOn with
  | _ u ih =>
    by_cases hu : u < 10
    · rw [decDigits_one hu]
      refine ⟨fun c hc => ?_, ?_, by simp⟩
      · rw [List.mem_singleton.1 hc]; unfold isDig; rw [dig_toNat u hu]; omega
      · show 0 * 10 + ((UInt8.ofNat (48 + u)).toNat - 48) = u
        rw [dig_toNat u hu]; omega
    · obtain ⟨h1, h2, h3⟩ := ih (u / 10) (by omega)
      rw [decDigits, dif_neg hu]
      refine ⟨fun c hc => ?_, ?_, by simp⟩
      · rcases List.mem_append.1 hc with hc | hc
        · exact h1 c hc
        · rw [List.mem_singleton.1 hc]; unfold isDig; rw [dig_toNat _ (by omega)]; omega
      · rw [valFrom_snoc, h2, dig_toNat _ (by omega)]; omega
theorem uint_ok (M : Nat) (hM : M < 1844674407370955162) (l : List UInt8) : ∀ acc : Nat, (∀ c ∈ l, isDig c) → valFrom acc l ≤ M → parseUintM M acc l = .ok (valFrom acc l) := by
  induction l with
  | nil => intro acc _ _; rfl
  | cons a t ih =>
    intro acc hd hv
    have hge := valFrom_ge t (acc * 10 + (a.toNat - 48))
    have hv : valFrom (acc * 10 + (a.toNat - 48)) t ≤ M := hv
    rw [parseUintM, if_pos (show 48 ≤ a.toNat ∧ a.toNat ≤ 57 from hd a (by simp)), if_neg (by omega), if_neg (by omega)]
    exact ih _ (fun c hc => hd c (by simp [hc])) hv
theorem parse_itoa (v : Int) (h0 : -2147483648 ≤ v) (h1 : v ≤ 2147483647) : parseIntB 32 (itoa v) = .ok v := by
  by_cases hneg : v < 0
  · obtain ⟨u, rfl⟩ : ∃ u : Nat, v = -(u : Int) := ⟨v.natAbs, by omega⟩
    obtain ⟨d1, d2, d3⟩ := dec_spec u
    have hp : parseUintB 32 (decDigits u) = .ok u := by
      unfold parseUintB
      rw [if_neg d3, uint_ok _ (by decide) _ 0 d1 (by rw [d2]; omega), d2]
    rw [itoa_neg u (by omega)]
    have h45 : (45 : UInt8).toNat = 45 := rfl
    simp only [parseIntB, h45]
    simp only [or_true, if_true]
    rw [hp]
    simp only [not_true, false_and, if_false, true_and]
    rw [if_neg (by omega)]
  · obtain ⟨u, rfl⟩ : ∃ u : Nat, v = (u : Int) := ⟨v.toNat, by omega⟩
    obtain ⟨d1, d2, d3⟩ := dec_spec u
    have hp : parseUintB 32 (decDigits u) = .ok u := by
      unfold parseUintB
      rw [if_neg d3, uint_ok _ (by decide) _ 0 d1 (by rw [d2]; omega), d2]
    rw [itoa_nonneg u]
    cases hl : decDigits u with
    | nil => exact absurd hl d3
    | cons c r =>
      have hc : isDig c := d1 c (by rw [hl]; simp)
      have hn : ¬ (c.toNat = 43 ∨ c.toNat = 45) := by unfold isDig at hc; omega
      have hn' : ¬ c.toNat = 45 := by unfold isDig at hc; omega
      simp only [parseIntB]
      rw [if_neg hn, ← hl, hp]
      simp only [hn', not_false_eq_true, true_and, false_and, if_false]
      rw [if_neg (by omega)]
end Go.Proofs.YtjbhelcdakhjbaaDoor.PlainText
