/-
  Where an if's else stands, in plain words: counting what is open, and passing over what begins within.
-/
import Derived.Test.YtpofboimlconeaaPlainShape
namespace Go.Proofs.Ytpofboimlconeaa.PlainElse
open PlainShape

/-- From k on, d open: the first else that stands just within one open. -/
def elsF (l : List I3) : Nat → Nat → Int → Int
  | 0, _, _ => -1
  | f + 1, k, d => if oAt l k = 5 ∧ stp d (oAt l k) = 1 then (k : Int) else elsF l f (k + 1) (stp d (oAt l k))
def elseOf (l : List I3) (at' : Int) : Int := if endOf l at' < 0 then -1 else if oAt l at'.toNat = 4 then elsF l ((endOf l at').toNat - at'.toNat) at'.toNat 0 else -1
theorem elsF_yes {l : List I3} {f k : Nat} {d : Int} (h : oAt l k = 5) (hd : d = 1) : elsF l (f + 1) k d = (k : Int) := by
  rw [elsF, if_pos ⟨h, by rw [h, hd]; rfl⟩]
theorem elsF_no {l : List I3} {f k : Nat} {d d' : Int} (hs : stp d (oAt l k) = d') (h : ¬ (oAt l k = 5 ∧ d' = 1)) : elsF l (f + 1) k d = elsF l f (k + 1) d' := by
  rw [elsF, hs, if_neg h]
theorem stp_succ (d o : Int) : stp (d + 1) o = stp d o + 1 := by
  unfold stp
  split
  · omega
  · split <;> omega
theorem stp_ge (d o : Int) : d - 1 ≤ stp d o := by
  unfold stp
  split
  · omega
  · split <;> omega
theorem stp_zero {d o : Int} (hd : 1 ≤ d ∨ (d = 0 ∧ bg o = true)) (h : stp d o = 0) : o = 11 := by
  unfold stp at h
  split at h
  · omega
  · split at h
    · assumption
    · rename_i hb _
      rcases hd with h' | ⟨h', h''⟩
      · omega
      · exact absurd h'' hb
/-- What is passed over: an end that is found lies at or behind k. -/
theorem endF_le {l : List I3} : ∀ (f k : Nat) (d : Int), endF l f k d = -1 ∨ ∃ m : Nat, endF l f k d = (m : Int) ∧ k ≤ m ∧ m < k + f
  | 0, _, _ => .inl rfl
  | f + 1, k, d => by
    by_cases h : stp d (oAt l k) = 0
    · exact .inr ⟨k, endF_yes rfl h, by omega, by omega⟩
    · rw [endF_no rfl h]
      rcases endF_le (l := l) f (k + 1) (stp d (oAt l k)) with h1 | ⟨m, h1, h2, h3⟩
      · exact .inl h1
      · exact .inr ⟨m, h1, by omega, by omega⟩
/-- With one more open: behind the end one is still open. -/
theorem end_skip {l : List I3} : ∀ (f k : Nat) (d : Int) (m : Nat), 0 ≤ d → (1 ≤ d ∨ (d = 0 ∧ bg (oAt l k) = true)) → endF l f k d = (m : Int) → endF l f k (d + 1) = endF l (f - (m + 1 - k)) (m + 1) 1
  | 0, _, _, m, _, _, h => by cases h
  | f + 1, k, d, m, h0, hd, h => by
    by_cases hz : stp d (oAt l k) = 0
    · rw [endF_yes rfl hz] at h
      obtain rfl : k = m := by omega
      rw [endF_no (stp_succ d (oAt l k)) (by omega), hz, show f + 1 - (k + 1 - k) = f by omega]
      rfl
    · have hg := stp_ge d (oAt l k)
      have h1 : 1 ≤ stp d (oAt l k) := by
        rcases hd with h' | ⟨h', hb⟩
        · omega
        · rw [stp_bg hb] at hz ⊢; omega
      rw [endF_no rfl hz] at h
      have hm := endF_le (l := l) f (k + 1) (stp d (oAt l k))
      rw [h] at hm
      have hkm : k + 1 ≤ m := by
        rcases hm with e | ⟨m', e, e1, _⟩
        · omega
        · omega
      rw [endF_no (stp_succ d (oAt l k)) (by omega), end_skip f (k + 1) _ m (by omega) (.inl h1) h, show f + 1 - (m + 1 - k) = f - (m + 1 - (k + 1)) by omega]
theorem end_none {l : List I3} : ∀ (f k : Nat) (d : Int), 0 ≤ d → (1 ≤ d ∨ (d = 0 ∧ bg (oAt l k) = true)) → endF l f k d = -1 → endF l f k (d + 1) = -1
  | 0, _, _, _, _, _ => rfl
  | f + 1, k, d, h0, hd, h => by
    by_cases hz : stp d (oAt l k) = 0
    · rw [endF_yes rfl hz] at h; omega
    · have hg := stp_ge d (oAt l k)
      have h1 : 1 ≤ stp d (oAt l k) := by
        rcases hd with h' | ⟨h', hb⟩
        · omega
        · rw [stp_bg hb] at hz ⊢; omega
      rw [endF_no rfl hz] at h
      rw [endF_no (stp_succ d (oAt l k)) (by omega)]
      exact end_none f (k + 1) _ (by omega) (.inl h1) h
theorem els_skip {l : List I3} : ∀ (f k : Nat) (d : Int) (m F : Nat), 0 ≤ d → (1 ≤ d ∨ (d = 0 ∧ bg (oAt l k) = true)) → endF l f k d = (m : Int) → m + 1 - k ≤ F → elsF l F k (d + 1) = elsF l (F - (m + 1 - k)) (m + 1) 1
  | 0, _, _, m, _, _, _, h, _ => by cases h
  | f + 1, k, d, m, F, h0, hd, h, hF => by
    by_cases hz : stp d (oAt l k) = 0
    · have h11 := stp_zero hd hz
      rw [endF_yes rfl hz] at h
      obtain rfl : k = m := by omega
      obtain ⟨F, rfl⟩ : ∃ j, F = j + 1 := ⟨F - 1, by omega⟩
      rw [elsF_no (stp_succ d (oAt l k)) (by rw [h11]; omega), hz, show F + 1 - (k + 1 - k) = F by omega]
      rfl
    · have hg := stp_ge d (oAt l k)
      have h1 : 1 ≤ stp d (oAt l k) := by
        rcases hd with h' | ⟨h', hb⟩
        · omega
        · rw [stp_bg hb] at hz ⊢; omega
      rw [endF_no rfl hz] at h
      have hm := endF_le (l := l) f (k + 1) (stp d (oAt l k))
      rw [h] at hm
      have hkm : k + 1 ≤ m := by
        rcases hm with e | ⟨m', e, e1, _⟩
        · omega
        · omega
      obtain ⟨F, rfl⟩ : ∃ j, F = j + 1 := ⟨F - 1, by omega⟩
      rw [elsF_no (stp_succ d (oAt l k)) (by omega), els_skip f (k + 1) _ m F (by omega) (.inl h1) h (by omega), show F + 1 - (m + 1 - k) = F - (m + 1 - (k + 1)) by omega]
/-- What begins at k within e: its end is found within, and behind it things are as before. -/
theorem pass {l : List I3} {k e : Nat} (hk : k < e) (he : e < l.length) (hb : bg (oAt l k) = true) (h : endF l (l.length - k) k 1 = (e : Int)) :
    ∃ m : Nat, endOf l (k : Int) = (m : Int) ∧ k ≤ m ∧ m < e ∧ endF l (l.length - (m + 1)) (m + 1) 1 = (e : Int) ∧ elsF l (e - k) k 1 = elsF l (e - (m + 1)) (m + 1) 1 := by
  have hdef : endOf l (k : Int) = endF l (l.length - k) k 0 := by
    unfold endOf
    rw [if_neg (by omega), Int.toNat_natCast, if_neg (by rw [hb]; decide)]
  rcases endF_le (l := l) (l.length - k) k 0 with h1 | ⟨m, h1, h2, h3⟩
  · have := end_none (l.length - k) k 0 (by omega) (.inr ⟨rfl, hb⟩) h1
    rw [show (0 : Int) + 1 = 1 from rfl, h] at this
    omega
  · have hs := end_skip (l.length - k) k 0 m (by omega) (.inr ⟨rfl, hb⟩) h1
    rw [show (0 : Int) + 1 = 1 from rfl, h, show l.length - k - (m + 1 - k) = l.length - (m + 1) by omega] at hs
    have hle := endF_le (l := l) (l.length - (m + 1)) (m + 1) 1
    rw [← hs] at hle
    have hme : m < e := by
      rcases hle with e' | ⟨m', e', e1, _⟩
      · omega
      · omega
    have he' := els_skip (l.length - k) k 0 m (e - k) (by omega) (.inr ⟨rfl, hb⟩) h1 (by omega)
    rw [show (0 : Int) + 1 = 1 from rfl, show e - k - (m + 1 - k) = e - (m + 1) by omega] at he'
    exact ⟨m, hdef.trans h1, h2, hme, hs.symm, he'⟩
/-- One step where nothing begins. -/
theorem pass1 {l : List I3} {k e : Nat} (hk : k < e) (he : e < l.length) (hb : bg (oAt l k) = false) (h5 : oAt l k ≠ 5) (h : endF l (l.length - k) k 1 = (e : Int)) :
    endF l (l.length - (k + 1)) (k + 1) 1 = (e : Int) ∧ elsF l (e - k) k 1 = elsF l (e - (k + 1)) (k + 1) 1 := by
  have h11 : oAt l k ≠ 11 := by
    intro e'
    rw [show l.length - k = (l.length - (k + 1)) + 1 by omega, endF_yes (d' := stp 1 11) (by rw [e']) (by decide)] at h
    omega
  have hs := stp_no (d := 1) hb h11
  refine ⟨?_, ?_⟩
  · rw [show l.length - k = (l.length - (k + 1)) + 1 by omega, endF_no hs (by decide)] at h
    exact h
  · rw [show e - k = (e - (k + 1)) + 1 by omega, elsF_no hs (by omega)]
/-- The first step: the if itself. -/
theorem first {l : List I3} {k e : Nat} (hk : k < l.length) (h4 : oAt l k = 4) (h : endOf l (k : Int) = (e : Int)) :
    k < e ∧ e < l.length ∧ endF l (l.length - (k + 1)) (k + 1) 1 = (e : Int) ∧ elsF l (e - k) k 0 = elsF l (e - (k + 1)) (k + 1) 1 := by
  have hb : bg (oAt l k) = true := by rw [h4]; rfl
  have hdef : endOf l (k : Int) = endF l (l.length - k) k 0 := by
    unfold endOf
    rw [if_neg (by omega), Int.toNat_natCast, if_neg (by rw [hb]; decide)]
  have hs : stp 0 (oAt l k) = 1 := stp_bg hb
  rw [hdef, show l.length - k = (l.length - (k + 1)) + 1 by omega, endF_no hs (by decide)] at h
  have hle := endF_le (l := l) (l.length - (k + 1)) (k + 1) 1
  rw [h] at hle
  have hke : k + 1 ≤ e ∧ e < l.length := by
    rcases hle with e' | ⟨m', e', e1, e2⟩
    · omega
    · omega
  refine ⟨by omega, by omega, h, ?_⟩
  rw [show e - k = (e - (k + 1)) + 1 by omega, elsF_no hs (by rw [h4]; omega)]
end Go.Proofs.Ytpofboimlconeaa.PlainElse
