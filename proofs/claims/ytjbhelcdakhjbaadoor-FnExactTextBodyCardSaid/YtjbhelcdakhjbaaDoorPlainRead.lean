/-
  Plain facts on reading a decimal text: which texts are numbers of 32 bits, and what their digits spell. No program in sight.
-/
import Derived.Test.YtjbhelcdakhjbaaDoorPlainText
import Derived.PlainAid
namespace Go.Proofs.YtjbhelcdakhjbaaDoor.PlainRead
open Go.Lib PlainText Go.PlainAid

def inR (v : Int) : Prop := -2147483648 ≤ v ∧ v ≤ 2147483647
open Classical in
/-- What TextNum answers. -/
noncomputable def T (l : List UInt8) : Int × Bool := if h : ∃ v, inR v ∧ itoa v = l then (Classical.choose h, true) else (0, false)
theorem itoa_inj {v v' : Int} (h : inR v) (h' : inR v') (e : itoa v = itoa v') : v = v' := by
  have a := parse_itoa v h.1 h.2
  have b := parse_itoa v' h'.1 h'.2
  rw [e, b] at a
  exact (NumEnd.ok.inj a).symm
theorem T_yes {v : Int} {l : List UInt8} (h : inR v) (e : itoa v = l) : T l = (v, true) := by
  have hex : ∃ v, inR v ∧ itoa v = l := ⟨v, h, e⟩
  unfold T
  rw [dif_pos hex]
  have hc := Classical.choose_spec hex
  rw [itoa_inj hc.1 h (hc.2.trans e.symm)]
theorem T_no {l : List UInt8} (h : ∀ v, inR v → itoa v ≠ l) : T l = (0, false) := by
  unfold T
  rw [dif_neg]
  intro ⟨v, hv, e⟩
  exact h v hv e

theorem nDigits_le (k : Nat) : ∀ u : Nat, u < 10 ^ (k + 1) → nDigits u ≤ k + 1 := by
  induction k with
  | zero => intro u hu; rw [nDigits_small (by simpa using hu)]; exact Nat.le_refl _
  | succ k ih =>
    intro u hu
    by_cases h : u < 10
    · rw [nDigits_small h]; omega
    · rw [nDigits_big h]
      have := ih (u / 10) (by rw [Nat.pow_succ] at hu; omega)
      omega
theorem itoa_len {v : Int} (h : inR v) : 1 ≤ (itoa v).length ∧ (itoa v).length ≤ 11 := by
  obtain ⟨h0, h1⟩ := h
  have hpos : ∀ u, 1 ≤ (decDigits u).length := fun u => by
    have := (dec_spec u).2.2
    cases hd : decDigits u with
    | nil => exact absurd hd this
    | cons a t => simp
  by_cases hneg : v < 0
  · obtain ⟨u, rfl⟩ : ∃ u : Nat, v = -(u : Int) := ⟨v.natAbs, by omega⟩
    rw [itoa_neg u (by omega), List.length_cons]
    have := nDigits_le 9 u (by omega)
    rw [← decDigits_length] at this
    omega
  · obtain ⟨u, rfl⟩ : ∃ u : Nat, v = (u : Int) := ⟨v.toNat, by omega⟩
    rw [itoa_nonneg u]
    have := nDigits_le 9 u (by omega)
    rw [← decDigits_length] at this
    have := hpos u
    omega

/-- The first k characters, but for d ahead, are digits and spell N. -/
def Spell (l : List UInt8) (d k N : Nat) : Prop := (∀ c ∈ (l.take k).drop d, isDig c) ∧ N = valFrom 0 ((l.take k).drop d)
theorem good_start (l : List UInt8) (d : Nat) : Spell l d 0 0 := by
  have e : (l.take 0).drop d = [] := by rw [List.take_zero, List.drop_nil]
  refine ⟨fun c hc => ?_, ?_⟩
  · rw [e] at hc; simp at hc
  · rw [e]; rfl
theorem good_sign (l : List UInt8) : Spell l 1 1 0 := by
  have e : (l.take 1).drop 1 = [] := by cases l <;> simp
  refine ⟨fun c hc => ?_, ?_⟩
  · rw [e] at hc; simp at hc
  · rw [e]; rfl
theorem good_sign1 {l : List UInt8} {N : Nat} (h : Spell l 1 0 N) : Spell l 1 1 N := by
  have e : N = 0 := h.2
  subst e; exact good_sign l
theorem good_step {l : List UInt8} {d k N : Nat} {c : UInt8} (h : Spell l d k N) (hd : d ≤ k) (hc : l[k]? = some c) (hdig : isDig c) : Spell l d (k + 1) (N * 10 + (c.toNat - 48)) := by
  have hk : k < l.length := (List.getElem?_eq_some_iff.1 hc).1
  have e : (l.take (k + 1)).drop d = (l.take k).drop d ++ [c] := by
    rw [List.take_add_one, hc, List.drop_append_of_le_length (by rw [List.length_take]; omega)]; rfl
  refine ⟨fun x hx => ?_, ?_⟩
  · rw [e] at hx
    rcases List.mem_append.1 hx with hx | hx
    · exact h.1 x hx
    · rw [List.mem_singleton.1 hx]; exact hdig
  · rw [e, valFrom_snoc, ← h.2]
theorem valFrom_lt (l : List UInt8) : ∀ acc : Nat, (∀ c ∈ l, isDig c) → valFrom acc l < (acc + 1) * 10 ^ l.length := by
  induction l with
  | nil => intro acc _; show acc < (acc + 1) * 1; omega
  | cons a t ih =>
    intro acc hd
    have h := ih (acc * 10 + (a.toNat - 48)) (fun c hc => hd c (by simp [hc]))
    have ha : isDig a := hd a (by simp)
    show valFrom (acc * 10 + (a.toNat - 48)) t < (acc + 1) * 10 ^ (t.length + 1)
    refine Nat.lt_of_lt_of_le h ?_
    rw [Nat.pow_succ, Nat.mul_comm (10 ^ t.length) 10, ← Nat.mul_assoc]
    refine Nat.mul_le_mul_right _ ?_
    unfold isDig at ha
    omega
theorem good_lt {l : List UInt8} {d k N : Nat} (h : Spell l d k N) (hk : k ≤ 11) : N ≤ 99999999999 := by
  have h1 := valFrom_lt _ 0 h.1
  rw [← h.2] at h1
  have h2 : ((l.take k).drop d).length ≤ 11 := by rw [List.length_drop, List.length_take]; omega
  have h3 := Nat.pow_le_pow_right (show 0 < 10 by decide) h2
  omega
/-- A character that is no digit: no number. -/
theorem end_bad {l : List UInt8} {d k : Nat} {c : UInt8} (hd : d = if l[0]? = some 45 then 1 else 0) (hk : d ≤ k) (hc : l[k]? = some c) (hb : ¬ isDig c) : T l = (0, false) := by
  refine T_no fun v hv e => ?_
  by_cases hneg : v < 0
  · obtain ⟨u, rfl⟩ : ∃ u : Nat, v = -(u : Int) := ⟨v.natAbs, by omega⟩
    rw [itoa_neg u (by omega)] at e
    subst e
    simp at hd
    subst hd
    obtain ⟨j, rfl⟩ : ∃ j, k = j + 1 := ⟨k - 1, by omega⟩
    rw [List.getElem?_cons_succ] at hc
    exact hb ((dec_spec u).1 c (List.mem_of_getElem? hc))
  · obtain ⟨u, rfl⟩ : ∃ u : Nat, v = (u : Int) := ⟨v.toNat, by omega⟩
    rw [itoa_nonneg u] at e
    subst e
    exact hb ((dec_spec u).1 c (List.mem_of_getElem? hc))
theorem end_len {l : List UInt8} (h : l.length < 1 ∨ 11 < l.length) : T l = (0, false) := by
  refine T_no fun v hv e => ?_
  have := itoa_len hv
  rw [e] at this; omega
/-- At the end the number is what the text spells, if it spells one. -/
theorem end_val {l : List UInt8} {d N : Nat} (hd : d = if l[0]? = some 45 then 1 else 0) (h : Spell l d l.length N) {v : Int} (e : itoa v = l) : v = if l[0]? = some 45 then -(N : Int) else N := by
  have h2 := h.2
  rw [List.take_length] at h2
  by_cases hneg : v < 0
  · obtain ⟨u, rfl⟩ : ∃ u : Nat, v = -(u : Int) := ⟨v.natAbs, by omega⟩
    rw [itoa_neg u (by omega)] at e
    subst e
    simp at hd
    subst hd
    simp only [List.drop_succ_cons, List.drop_zero] at h2
    rw [(dec_spec u).2.1] at h2
    simp [h2]
  · obtain ⟨u, rfl⟩ : ∃ u : Nat, v = (u : Int) := ⟨v.toNat, by omega⟩
    rw [itoa_nonneg u] at e
    subst e
    have hn : ¬ (decDigits u)[0]? = some 45 := fun hc => by
      have := (dec_spec u).1 45 (List.mem_of_getElem? hc)
      unfold isDig at this
      have h45 : (45 : UInt8).toNat = 45 := rfl
      omega
    rw [if_neg hn] at hd ⊢
    subst hd
    rw [List.drop_zero, (dec_spec u).2.1] at h2
    omega
theorem pair_eq {l : List UInt8} {v : Int} {B : Bool} {v' : Int} {B' : Bool} (h : T l = (v, B)) (h' : T l = (v', B')) : v = v' ∧ B = B' := by
  rw [h] at h'; exact ⟨(Prod.mk.inj h').1, (Prod.mk.inj h').2⟩
theorem bt_get (s : ByteArray) (k : Nat) (h : k < s.size) : ∃ c, s.data.toList[k]? = some c ∧ (c.toNat : Int) = bt s k := by
  refine ⟨s[k], ?_, get_bt s k h⟩
  show s.data.toList[k]? = some s.data[k]
  simp
end Go.Proofs.YtjbhelcdakhjbaaDoor.PlainRead
