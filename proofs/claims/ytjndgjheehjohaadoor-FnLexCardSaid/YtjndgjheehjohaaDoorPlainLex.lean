/-
  Words of the language in plain words: which bytes are what, names, signs, tokens, a text read as tokens; no program in sight.
-/
import Derived.Test.YtjndgjheehjohaaDoorPlainOps
namespace Go.Proofs.YtjndgjheehjohaaDoor.PlainLex
open PlainOps

/-- Between two numbers. -/
def btw (a b : Int) (c : UInt8) : Bool := decide (a ≤ (c.toNat : Int)) && decide ((c.toNat : Int) ≤ b)
def small (c : UInt8) : Bool := btw 97 122 c
def great (c : UInt8) : Bool := btw 65 90 c
def digit (c : UInt8) : Bool := btw 48 57 c
def inName (c : UInt8) : Bool := small c || great c || digit c || decide ((c.toNat : Int) = 95)
def isGap (c : UInt8) : Bool := decide ((c.toNat : Int) = 32) || decide ((c.toNat : Int) = 9) || decide ((c.toNat : Int) = 10) || decide ((c.toNat : Int) = 13)
theorem btw_true {a b : Int} {c : UInt8} : btw a b c = true ↔ a ≤ (c.toNat : Int) ∧ (c.toNat : Int) ≤ b := by unfold btw; simp
theorem btw_false {a b : Int} {c : UInt8} : btw a b c = false ↔ ¬ (a ≤ (c.toNat : Int) ∧ (c.toNat : Int) ≤ b) := by
  rw [← btw_true]; simp
/-- How many bytes a text begins with that are such ones. -/
def stretch (p : UInt8 → Bool) (l : List UInt8) : Nat := (l.takeWhile p).length
theorem stretch_le (p : UInt8 → Bool) (l : List UInt8) : stretch p l ≤ l.length := by
  unfold stretch
  induction l with
  | nil => simp
  | cons x l ih => by_cases h : p x = true <;> simp [h]; exact ih
theorem stretch_cons_yes {p : UInt8 → Bool} {x : UInt8} (h : p x = true) (l : List UInt8) : stretch p (x :: l) = stretch p l + 1 := by
  unfold stretch; rw [List.takeWhile_cons, if_pos h, List.length_cons]
theorem stretch_cons_no {p : UInt8 → Bool} {x : UInt8} (h : p x = false) (l : List UInt8) : stretch p (x :: l) = 0 := by
  unfold stretch; rw [List.takeWhile_cons, h]; rfl
/-- A stretch is as long as told: all ahead of k are such ones, and k is the end or is none. -/
theorem stretch_is {p : UInt8 → Bool} : ∀ {l : List UInt8} {k : Nat}, (∀ j, j < k → ∃ x, l[j]? = some x ∧ p x = true) → (k = l.length ∨ ∃ x, l[k]? = some x ∧ p x = false) → stretch p l = k
  | l, 0, _, h => by
    rcases h with h | ⟨x, hx, hp⟩
    · cases l with
      | nil => rfl
      | cons x l => simp at h
    · cases l with
      | nil => simp at hx
      | cons y l => simp at hx; subst hx; exact stretch_cons_no hp _
  | [], k + 1, h, _ => by
    obtain ⟨x, hx, _⟩ := h 0 (by omega)
    simp at hx
  | y :: l, k + 1, h, h2 => by
    obtain ⟨x, hx, hp⟩ := h 0 (by omega)
    simp at hx
    subst hx
    rw [stretch_cons_yes hp, stretch_is (l := l) (k := k) (fun j hj => by obtain ⟨x, hx, hp⟩ := h (j + 1) (by omega); exact ⟨x, by simpa using hx, hp⟩) (by simpa using h2)]
theorem stretch_all {p : UInt8 → Bool} {l : List UInt8} : stretch p l = l.length ↔ l.all p = true := by
  unfold stretch
  induction l with
  | nil => simp
  | cons x l ih => by_cases h : p x = true <;> simp [h]; simpa using ih
theorem takeWhile_eq (p : UInt8 → Bool) (l : List UInt8) : l.takeWhile p = l.take (stretch p l) := by
  unfold stretch
  induction l with
  | nil => rfl
  | cons x l ih => by_cases h : p x = true <;> simp [h]; exact ih
/-- The words that are signs. -/
def words : List (List UInt8) := [[105, 110, 116], [118, 97, 114], [102, 117, 110, 99], [105, 102], [101, 108, 115, 101], [119, 104, 105, 108, 101], [114, 101, 116, 117, 114, 110]]
/-- The signs of bytes, those of two ahead. -/
def signs : List (List UInt8) := [[124, 124], [38, 38], [61, 61], [33, 61], [60, 61], [62, 61], [60, 60], [62, 62], [40], [41], [123], [125], [91], [93], [44], [59], [61], [60], [62], [43], [45], [42], [47], [37], [38], [124], [94], [33], [126]]
def isWord (l : List UInt8) : Bool := decide (l ∈ words)
/-- A small letter and parts of a name. -/
def wordForm : List UInt8 → Bool
  | [] => false
  | c :: l => small c && (c :: l).all inName
def isName (l : List UInt8) : Bool := wordForm l && !isWord l
def nameOk (l : List UInt8) : Bool := isName l && decide (l.length ≤ 12)
/-- The sign with which a text begins; nothing where there is none. -/
def sgn (l : List UInt8) : List UInt8 := (signs.find? (fun x => x.isPrefixOf l)).getD []
def isSign (l : List UInt8) : Bool := isWord l || decide (l ∈ signs)
theorem small_part {c : UInt8} (h : small c = true) : inName c = true := by unfold inName; rw [h]; rfl
/-- How many bytes a word has with which a text begins. -/
def wordSize : List UInt8 → Nat
  | [] => 0
  | c :: l => if small c = true then stretch inName (c :: l) else 0
theorem wordSize_le (l : List UInt8) : wordSize l ≤ l.length := by
  cases l with
  | nil => exact Nat.le_refl _
  | cons c l =>
    show (if small c = true then stretch inName (c :: l) else 0) ≤ (c :: l).length
    by_cases h : small c = true
    · rw [if_pos h]; exact stretch_le _ _
    · rw [if_neg h]; exact Nat.zero_le _
theorem word_all {l : List UInt8} (h : l ≠ []) : (wordSize l = l.length) = (wordForm l = true) := by
  cases l with
  | nil => exact absurd rfl h
  | cons c l =>
    show ((if small c = true then stretch inName (c :: l) else 0) = (c :: l).length) = ((small c && (c :: l).all inName) = true)
    by_cases hc : small c = true
    · rw [if_pos hc, hc, Bool.true_and, stretch_all]
    · rw [if_neg hc]
      have : small c = false := by simpa using hc
      rw [this]
      simp
theorem sgn_cases (l : List UInt8) : (sgn l = [] ∧ ∀ x ∈ signs, x.isPrefixOf l = false) ∨ (sgn l ∈ signs ∧ (sgn l).isPrefixOf l = true) := by
  unfold sgn
  cases h : signs.find? (fun x => x.isPrefixOf l) with
  | none => exact .inl ⟨rfl, fun x hx => by have := List.find?_eq_none.1 h x hx; exact Bool.eq_false_iff.2 this⟩
  | some x => exact .inr ⟨List.mem_of_find?_eq_some h, by have := List.find?_some h; exact this⟩
theorem signs_len : ∀ x ∈ signs, 1 ≤ x.length ∧ x.length ≤ 2 := by decide
theorem sgn_len (l : List UInt8) : (sgn l).length ≤ 2 ∧ (sgn l).length ≤ l.length := by
  rcases sgn_cases l with ⟨h, _⟩ | ⟨h1, h2⟩
  · rw [h]; exact ⟨by simp, by simp⟩
  · exact ⟨(signs_len _ h1).2, (List.isPrefixOf_iff_prefix.1 h2).length_le⟩
theorem sgn_ne {l : List UInt8} : (sgn l).length = 0 ↔ ∀ x ∈ signs, x.isPrefixOf l = false := by
  rcases sgn_cases l with ⟨h, h2⟩ | ⟨h1, h2⟩
  · rw [h]; exact ⟨fun _ => h2, fun _ => rfl⟩
  · have := (signs_len _ h1).1
    refine ⟨fun h => by omega, fun h => ?_⟩
    rw [h _ h1] at h2
    cases h2
theorem sgn_self : ∀ x ∈ signs, sgn x = x := by decide
theorem sgn_take (l : List UInt8) : l.take (sgn l).length = sgn l := by
  rcases sgn_cases l with ⟨h, _⟩ | ⟨_, h2⟩
  · rw [h]; rfl
  · obtain ⟨t, ht⟩ := List.isPrefixOf_iff_prefix.1 h2
    generalize sgn l = g at *
    subst ht
    exact List.take_left
/-- A text is a sign just where the sign with which it begins is all of it. -/
theorem sign_all {l : List UInt8} (h : l ≠ []) : ((sgn l).length = l.length) = (l ∈ signs) := by
  refine propext ⟨fun e => ?_, fun hm => by rw [sgn_self l hm]⟩
  have ht := sgn_take l
  rw [e, List.take_length] at ht
  rcases sgn_cases l with ⟨h0, _⟩ | ⟨h1, _⟩
  · rw [h0] at ht; exact absurd ht h
  · rwa [← ht] at h1
end Go.Proofs.YtjndgjheehjohaaDoor.PlainLex
