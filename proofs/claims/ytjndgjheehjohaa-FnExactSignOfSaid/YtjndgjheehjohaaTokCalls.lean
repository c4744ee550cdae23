/-
  What the functions on single tokens answer when they are called: the law's copy and count, SignOf; a text is cloned.
-/
import Derived.Test.YtjndgjheehjohaaMemTok
import Derived.Test.YtjndgjheehjohaaShelf
namespace Go.Proofs.Ytjndgjheehjohaa.TokCalls
open Go.RowKit

/-- A token as a value. -/
abbrev tokV (k n : Int) (s : ByteArray) (a : Int) : Value := .agg #[.int .i64 k, .int .i64 n, .string s, .int .i64 a]
/-- The sign of a token. -/
def signOf (k : Int) (s : ByteArray) : ByteArray := if k = 3 then s else ⟨#[]⟩
theorem szTok (k n : Int) (s : ByteArray) (a l : Int) (w : World) (hl : s.size ≤ 9223372036854775807) (h0 : 0 ≤ l) (h1 : l ≤ 1048576) :
    Calls Try.prog 4 #[tokV k n s a, .int .i64 l] w fun e w' => ∃ r : Int, e = .returned (.int .i64 r) ∧ -1 ≤ r ∧ r ≤ l ∧ (0 ≤ r → s.size ≤ 1048576) ∧ (0 ≤ r → r = l - s.size) ∧ Below w.heap.size w w' := by
  by_cases h : l - (s.size : Int) < 0
  · go_enter Try.func4, Try.ntmps4
    go_wp2_with fail
    go_ret
    exact ⟨-1, rfl, by omega, by omega, by omega, by omega, (Below.refl _ _).alloc (Nat.le_refl _) _⟩
  · have h' : ¬ l - (s.size : Int) < 0 := h
    have h2 : 0 ≤ l - (s.size : Int) := by omega
    go_enter Try.func4, Try.ntmps4
    go_wp2_with fail
    go_ret
    exact ⟨l - (s.size : Int), rfl, by omega, by omega, by omega, by omega, (Below.refl _ _).alloc (Nat.le_refl _) _⟩
theorem clone (s : ByteArray) (w : World) (hlim : s.size ≤ 281474976710656) :
    Calls Try.prog 8 #[.string s] w fun e w' => e = .returned (.string s) ∧ Below w.heap.size w w' := by
  go_enter Try.func8, Try.ntmps8
  go_wp2_with (go_at_call 9; refine (Try.stringslite_Clone s _ hlim).mono ?_; rintro e w1 ⟨rfl, b1⟩)
  go_ret
  exact ⟨rfl, b1⟩
theorem spec_signOf (k n : Int) (s : ByteArray) (a : Int) (w : World) :
    Calls Try.prog 5 #[tokV k n s a] w fun e w' => e = .returned (.string (signOf k s)) ∧ Below w.heap.size w w' := by
  by_cases hk : k = 3
  · have hs : Hid (signOf k s = s) := if_pos hk
    subst hk
    go_enter Try.func5, Try.ntmps5
    go_wp2_with fail
    go_ret
    exact ⟨by rw [hs.out]; rfl, (Below.refl _ _).alloc (Nat.le_refl _) _⟩
  · have hs : Hid (signOf k s = ⟨#[]⟩) := if_neg hk
    go_enter Try.func5, Try.ntmps5
    go_wp2_with fail
    go_ret
    exact ⟨by rw [hs.out]; rfl, (Below.refl _ _).alloc (Nat.le_refl _) _⟩
theorem impl_signOf (k n : Int) (s : ByteArray) (a : Int) (w : World) (hl : s.size ≤ 1048576) :
    Calls Try.prog 7 #[tokV k n s a] w fun e w' => e = .returned (.string (signOf k s)) ∧ Below w.heap.size w w' := by
  by_cases hk : k = 3
  · have hs : Hid (signOf k s = s) := if_pos hk
    have hl' : Hid (s.size ≤ 281474976710656) := Nat.le_trans hl (by omega)
    subst hk
    go_enter Try.func7, Try.ntmps7
    go_wp2_with (go_at_call 8; refine (clone s _ hl'.out).mono ?_; rintro e w1 ⟨rfl, b1⟩)
    go_ret
    exact ⟨by rw [hs.out]; rfl, ((Below.refl _ _).alloc (Nat.le_refl _) _).trans (b1.mono (by simp))⟩
  · have hs : Hid (signOf k s = ⟨#[]⟩) := if_neg hk
    go_enter Try.func7, Try.ntmps7
    go_wp2_with fail
    go_ret
    exact ⟨by rw [hs.out]; rfl, (Below.refl _ _).alloc (Nat.le_refl _) _⟩
theorem fnExactSignOf (k n : Int) (s : ByteArray) (a : Int) (w : World) (hl : s.size ≤ 9223372036854775807) :
    Calls Try.prog 3 #[tokV k n s a] w fun e w' => e = .returned (.bool true) ∧ Below w.heap.size w w' := by
  have kz : Hid (∀ u, Calls Try.prog 4 #[tokV k n s a, .int .i64 1048576] u fun e w' => ∃ r : Int, e = .returned (.int .i64 r) ∧ -1 ≤ r ∧ r ≤ 1048576 ∧ (0 ≤ r → s.size ≤ 1048576) ∧ (0 ≤ r → r = 1048576 - s.size) ∧ Below u.heap.size u w') := fun u => szTok k n s a 1048576 u hl (by omega) (by omega)
  have kI : Hid (∀ u, s.size ≤ 1048576 → Calls Try.prog 7 #[tokV k n s a] u fun e w' => e = .returned (.string (signOf k s)) ∧ Below u.heap.size u w') := fun u h => impl_signOf k n s a u h
  have kS : Hid (∀ u, Calls Try.prog 5 #[tokV k n s a] u fun e w' => e = .returned (.string (signOf k s)) ∧ Below u.heap.size u w') := fun u => spec_signOf k n s a u
  clear hl
  generalize signOf k s = R at *
  have T0 : Hid (Below w.heap.size w (w.alloc (.cells #[.int .i64 k, .int .i64 n, .string s, .int .i64 a] 23))) := (Below.refl _ _).alloc (Nat.le_refl _) _
  have c0 : Hid (∀ u, Below (w.alloc (.cells #[.int .i64 k, .int .i64 n, .string s, .int .i64 a] 23)).heap.size (w.alloc (.cells #[.int .i64 k, .int .i64 n, .string s, .int .i64 a] 23)) u → u.cell? ⟨w.heap.size, 0, none⟩ = some (.int .i64 k) ∧ u.cell? ⟨w.heap.size, 1, none⟩ = some (.int .i64 n) ∧ u.cell? ⟨w.heap.size, 2, none⟩ = some (.string s) ∧ u.cell? ⟨w.heap.size, 3, none⟩ = some (.int .i64 a)) := fun u hb => by
    refine ⟨?_, ?_, ?_, ?_⟩ <;> rw [hb.cell (by simp)] <;> simp
  go_enter Try.func3, Try.ntmps3
  go_wp2_with (go_at_call 4; refine (kz.out _).mono ?_; rintro e w1 ⟨r, rfl, r0, r1, r2, _, q1⟩; have q1' : Hid _ := q1; have r2' : Hid (0 ≤ r → s.size ≤ 1048576) := r2; clear q1 r2; obtain ⟨_, _, _, _⟩ := c0.out _ q1'.out)
  · go_ret
    exact ⟨rfl, T0.out.trans (q1'.out.mono (by simp))⟩
  · have hs : Hid (s.size ≤ 1048576) := r2'.out (by omega)
    clear r2'
    go_wp2_with (first
      | (go_at_call 6; refine (MemTok.to1 _ _ _ _ _).mono ?_; rintro e w2 ⟨rfl, q2⟩; have Q2 : Hid _ := q1'.out.trans (q2.mono q1'.out.size); clear q2)
      | (go_at_call 5; refine (kS.out _).mono ?_; rintro e w3 ⟨rfl, q3⟩; have Q3 : Hid _ := Q2.out.trans (q3.mono Q2.out.size); clear q3 kS; obtain ⟨_, _, _, _⟩ := c0.out _ Q3.out))
    go_wp2_with (first
      | (go_at_call 6; refine (MemTok.to1 _ _ _ _ _).mono ?_; rintro e w4 ⟨rfl, q4⟩; have Q4 : Hid _ := Q3.out.trans (q4.mono Q3.out.size); clear q4)
      | (go_at_call 7; refine (kI.out _ hs.out).mono ?_; rintro e w5 ⟨rfl, q5⟩; have Q5 : Hid _ := Q4.out.trans (q5.mono Q4.out.size); clear q5))
    go_ret
    exact ⟨rfl, T0.out.trans (Q5.out.mono (by simp))⟩
end Go.Proofs.Ytjndgjheehjohaa.TokCalls
