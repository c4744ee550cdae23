/-
  A text read as tokens, in plain words; no program in sight.
-/
import Derived.Test.YtjndgjheehjohaaDoorPlainLex
namespace Go.Proofs.YtjndgjheehjohaaDoor.PlainScan
open PlainOps PlainLex

/-- The number with these digits. -/
def dval (l : List UInt8) : Nat := l.foldl (fun n c => n * 10 + (c.toNat - 48)) 0
theorem dval_snoc (l : List UInt8) (c : UInt8) : dval (l ++ [c]) = dval l * 10 + (c.toNat - 48) := by
  unfold dval; rw [List.foldl_append]; rfl
/-- A token but for its place: kind, number, text, how many bytes. -/
inductive One where
  | num (n : Nat) (z : Nat)
  | txt (sign : Bool) (s : List UInt8)
  | bad (code : Nat)
/-- The token with which a text begins that isn't empty. -/
def one : List UInt8 → One
  | [] => .bad 2
  | c :: l =>
    if digit c = true then
      (if dval ((c :: l).takeWhile digit) ≤ 2147483647 then .num (dval ((c :: l).takeWhile digit)) (stretch digit (c :: l)) else .bad 3)
    else if small c = true then .txt (isWord ((c :: l).takeWhile inName)) ((c :: l).takeWhile inName)
    else if sgn (c :: l) = [] then .bad 2
    else .txt true (sgn (c :: l))
theorem one_cons (c : UInt8) (l : List UInt8) : one (c :: l) =
    if digit c = true then
      (if dval ((c :: l).takeWhile digit) ≤ 2147483647 then .num (dval ((c :: l).takeWhile digit)) (stretch digit (c :: l)) else .bad 3)
    else if small c = true then .txt (isWord ((c :: l).takeWhile inName)) ((c :: l).takeWhile inName)
    else if sgn (c :: l) = [] then .bad 2
    else .txt true (sgn (c :: l)) := rfl
/-- Where "*/" stands first. -/
def closeAt : List UInt8 → Option Nat
  | [] => none
  | c :: l => if ([42, 47] : List UInt8).isPrefixOf (c :: l) then some 0 else (closeAt l).map (· + 1)
theorem closeAt_le : ∀ {l : List UInt8} {k : Nat}, closeAt l = some k → k + 2 ≤ l.length
  | [], k, h => by simp [closeAt] at h
  | c :: l, k, h => by
    unfold closeAt at h
    split at h
    · rename_i hp
      have := (List.isPrefixOf_iff_prefix.1 hp).length_le
      simp at h this
      subst h
      simp; omega
    · simp only [Option.map_eq_some_iff] at h
      obtain ⟨j, hj, rfl⟩ := h
      have := closeAt_le hj
      simp; omega
/-- A remark begins here. -/
def remark (l : List UInt8) : Bool := ([47, 42] : List UInt8).isPrefixOf l
/-- What parts tokens where a text begins: how many bytes; nothing where a remark isn't ended. -/
def gap (l : List UInt8) : Option Nat := if remark l then (closeAt (l.drop 2)).map (· + 4) else some (stretch isGap l)
theorem remark_len {l : List UInt8} (h : remark l = true) : 2 ≤ l.length := (List.isPrefixOf_iff_prefix.1 h).length_le
theorem gap_le {l : List UInt8} {k : Nat} (h : gap l = some k) : k ≤ l.length := by
  unfold gap at h
  split at h
  · rename_i hr
    simp only [Option.map_eq_some_iff] at h
    obtain ⟨j, hj, rfl⟩ := h
    have := closeAt_le hj
    have := remark_len hr
    simp at *; omega
  · simp at h; subst h; exact stretch_le _ _
abbrev T4 := Int × Int × List UInt8 × Int
def One.size : One → Nat
  | .num _ z => z
  | .txt _ s => s.length
  | .bad _ => 0
def One.tok (at' : Nat) : One → T4
  | .num n _ => (1, n, [], at')
  | .txt b s => (if b then 3 else 2, 0, s, at')
  | .bad _ => (0, 0, [], at')
def One.code : One → Nat
  | .bad c => c
  | _ => 0
theorem one_pos {l : List UInt8} (h : (one l).code = 0) : 0 < (one l).size ∧ (one l).size ≤ l.length := by
  cases l with
  | nil => simp [one, One.code] at h
  | cons c l =>
    rw [one_cons] at h ⊢
    by_cases hd : digit c = true
    · rw [if_pos hd] at h ⊢
      by_cases hv : dval ((c :: l).takeWhile digit) ≤ 2147483647
      · rw [if_pos hv]
        exact ⟨by show 0 < stretch digit (c :: l); rw [stretch_cons_yes hd]; omega, stretch_le _ _⟩
      · rw [if_neg hv] at h; simp [One.code] at h
    · rw [if_neg hd] at h ⊢
      by_cases hs : small c = true
      · rw [if_pos hs]
        exact ⟨by show 0 < stretch inName (c :: l); rw [stretch_cons_yes (small_part hs)]; omega, stretch_le _ _⟩
      · rw [if_neg hs] at h ⊢
        by_cases hg : sgn (c :: l) = []
        · rw [if_pos hg] at h; simp [One.code] at h
        · rw [if_neg hg]
          refine ⟨?_, (sgn_len _).2⟩
          show 0 < (sgn (c :: l)).length
          exact List.length_pos_iff.2 hg
theorem one_code (l : List UInt8) : (one l).code ≤ 9 := by
  cases l with
  | nil => simp [one, One.code]
  | cons c l =>
    rw [one_cons]
    split
    · split <;> simp [One.code]
    · split
      · simp [One.code]
      · split <;> simp [One.code]
theorem one_tok {l : List UInt8} (_ : (one l).code = 0) (k : Nat) : ∃ kd n t, (one l).tok 0 = (kd, n, t, 0) ∧ (one l).tok k = (kd, n, t, (k : Int)) := by
  cases ho : one l with
  | num n z => exact ⟨_, _, _, rfl, rfl⟩
  | txt b s => exact ⟨_, _, _, rfl, rfl⟩
  | bad c => exact ⟨_, _, _, rfl, rfl⟩
/-- What is read: the tokens, or a code and a place. -/
inductive Ans where
  | ok (l : List T4)
  | bad (code at' : Nat)
def Ans.cons (t : T4) : Ans → Ans
  | .ok l => .ok (t :: l)
  | .bad c a => .bad c a
def Ans.after (p : List T4) : Ans → Ans
  | .ok l => .ok (p ++ l)
  | .bad c a => .bad c a
theorem after_cons (p : List T4) (t : T4) (x : Ans) : (Ans.cons t x).after p = x.after (p ++ [t]) := by
  cases x <;> simp [Ans.cons, Ans.after]
/-- A text read as tokens, its first byte at 'at''. -/
def lexL : Nat → List UInt8 → Nat → Ans
  | 0, _, _ => .ok []
  | f + 1, l, at' =>
    if l = [] then .ok []
    else match gap l with
      | none => .bad 4 at'
      | some g =>
        if g ≠ 0 then lexL f (l.drop g) (at' + g)
        else if (one l).code ≠ 0 then .bad (one l).code at'
        else (lexL f (l.drop (one l).size) (at' + (one l).size)).cons ((one l).tok at')
theorem lexL_more : ∀ (f g : Nat) (l : List UInt8) (a : Nat), l.length ≤ f → l.length ≤ g → lexL f l a = lexL g l a
  | 0, 0, _, _, _, _ => rfl
  | 0, g + 1, l, a, h, _ => by
    have : l = [] := List.length_eq_zero_iff.1 (by omega)
    subst this
    rfl
  | f + 1, 0, l, a, _, h => by
    have : l = [] := List.length_eq_zero_iff.1 (by omega)
    subst this
    rfl
  | f + 1, g + 1, l, a, hf, hg => by
    unfold lexL
    by_cases h0 : l = []
    · rw [if_pos h0, if_pos h0]
    · rw [if_neg h0, if_neg h0]
      cases hgap : gap l with
      | none => rfl
      | some k =>
        have hk := gap_le hgap
        simp only
        by_cases hk0 : k ≠ 0
        · rw [if_pos hk0, if_pos hk0]
          exact lexL_more f g _ _ (by simp; omega) (by simp; omega)
        · rw [if_neg hk0, if_neg hk0]
          by_cases hc : (one l).code ≠ 0
          · rw [if_pos hc, if_pos hc]
          · rw [if_neg hc, if_neg hc]
            have := one_pos (l := l) (by omega)
            rw [lexL_more f g _ _ (by simp; omega) (by simp; omega)]
/-- The text from the byte at 'at'' on. -/
def lexAt (s : List UInt8) (at' : Nat) : Ans := lexL (s.drop at').length (s.drop at') at'
theorem lexAt_end (s : List UInt8) (k : Nat) (h : s.length ≤ k) : lexAt s k = .ok [] := by
  unfold lexAt
  rw [List.drop_eq_nil_of_le h]
  rfl
theorem lexAt_step (s : List UInt8) (k : Nat) (h : k < s.length) : lexAt s k = (match gap (s.drop k) with
      | none => .bad 4 k
      | some g =>
        if g ≠ 0 then lexAt s (k + g)
        else if (one (s.drop k)).code ≠ 0 then .bad (one (s.drop k)).code k
        else (lexAt s (k + (one (s.drop k)).size)).cons ((one (s.drop k)).tok k)) := by
  have hne : s.drop k ≠ [] := by rw [Ne, List.drop_eq_nil_iff]; omega
  obtain ⟨f, hf⟩ : ∃ f, (s.drop k).length = f + 1 := ⟨(s.drop k).length - 1, by simp; omega⟩
  conv => lhs; unfold lexAt; rw [hf]; unfold lexL
  rw [if_neg hne]
  cases hgap : gap (s.drop k) with
  | none => rfl
  | some g =>
    have hk := gap_le hgap
    simp only
    by_cases hk0 : g ≠ 0
    · rw [if_pos hk0, if_pos hk0]
      unfold lexAt
      rw [List.drop_drop]
      exact lexL_more _ _ _ _ (by simp at hf ⊢; omega) (Nat.le_refl _)
    · rw [if_neg hk0, if_neg hk0]
      by_cases hc : (one (s.drop k)).code ≠ 0
      · rw [if_pos hc, if_pos hc]
      · rw [if_neg hc, if_neg hc]
        have := one_pos (l := s.drop k) (by omega)
        unfold lexAt
        rw [List.drop_drop]
        rw [lexL_more f _ _ _ (by simp at hf ⊢; omega) (Nat.le_refl _)]
/-- What Lex answers. -/
def lexT (s : List UInt8) : Ans := if s.length ≤ 6000 then lexAt s 0 else .bad 1 0
end Go.Proofs.YtjndgjheehjohaaDoor.PlainScan
