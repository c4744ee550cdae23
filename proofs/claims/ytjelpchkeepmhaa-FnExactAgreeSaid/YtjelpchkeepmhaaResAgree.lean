/-
  Agree of both sides, and its exact law. (Written by my agree.py.)
-/
import Derived.Test.YtjelpchkeepmhaaResFun
import Derived.Deep.RegionHeld
namespace Go.Proofs.Ytjelpchkeepmhaa.ResAgree
open Go.RowKit PlainNum NumCalls ByteMem NumMem2 ResMem ResTo ResFun

def agreeR (x0 y0 : Int) (R1 R2 R3 : Bool) : Bool := if x0 = 4 ∨ y0 = 4 then false else if x0 = 3 ∧ y0 = 3 then R1 || R2 else if x0 = 3 then R1 else if y0 = 3 then R2 else R3
set_option maxRecDepth 20000 in
set_option maxHeartbeats 2000000 in
theorem spec_agree (w : World) (x0 x1 x2 x4 y0 y1 y2 y4 : Int) (p q p' q' : Option Addr) (n c i d m c' i' d' : Nat) (Z Y : Nat → Int) (R1 R2 R3 : Bool) (hP : R1 = true ↔ (n ≤ m ∧ ∀ j, j < n → Z j = Y j)) (hQ : R2 = true ↔ (m ≤ n ∧ ∀ j, j < m → Y j = Z j)) (hS : R3 = true ↔ (x0 = y0 ∧ x1 = y1 ∧ x2 = y2 ∧ n = m ∧ ∀ j, j < n → Z j = Y j)) (ho : RdN w p n Z) (ho' : RdN w p' m Y) (h1 : n ≤ 1048576) (h2 : m ≤ 1048576) :
    Calls Try.prog 5 #[.agg #[.int .i64 x0, .int .i64 x1, .int .i64 x2, .slice p n c, .int .i64 x4, .slice q i d], .agg #[.int .i64 y0, .int .i64 y1, .int .i64 y2, .slice p' m c', .int .i64 y4, .slice q' i' d']] w fun e w' => e = .returned (.bool (agreeR x0 y0 R1 R2 R3)) ∧ Below w.heap.size w w' := by
  have kP : Hid (∀ u, Below w.heap.size w u → Calls Try.prog 10 #[.agg #[.int .i64 x0, .int .i64 x1, .int .i64 x2, .slice p n c, .int .i64 x4, .slice q i d], .agg #[.int .i64 y0, .int .i64 y1, .int .i64 y2, .slice p' m c', .int .i64 y4, .slice q' i' d']] u fun e w' => e = .returned (.bool R1) ∧ Below u.heap.size u w') := fun u hu => spec_prefix u x0 x1 x2 x4 y0 y1 y2 y4 p q p' q' n c i d m c' i' d' Z Y R1 hP (ho.later hu) (ho'.later hu) h1 h2
  have kQ : Hid (∀ u, Below w.heap.size w u → Calls Try.prog 10 #[.agg #[.int .i64 y0, .int .i64 y1, .int .i64 y2, .slice p' m c', .int .i64 y4, .slice q' i' d'], .agg #[.int .i64 x0, .int .i64 x1, .int .i64 x2, .slice p n c, .int .i64 x4, .slice q i d]] u fun e w' => e = .returned (.bool R2) ∧ Below u.heap.size u w') := fun u hu => spec_prefix u y0 y1 y2 y4 x0 x1 x2 x4 p' q' p q m c' i' d' n c i d Y Z R2 hQ (ho'.later hu) (ho.later hu) h2 h1
  have kS : Hid (∀ u, Below w.heap.size w u → Calls Try.prog 11 #[.agg #[.int .i64 x0, .int .i64 x1, .int .i64 x2, .slice p n c, .int .i64 x4, .slice q i d], .agg #[.int .i64 y0, .int .i64 y1, .int .i64 y2, .slice p' m c', .int .i64 y4, .slice q' i' d']] u fun e w' => e = .returned (.bool R3) ∧ Below u.heap.size u w') := fun u hu => spec_same u x0 x1 x2 x4 y0 y1 y2 y4 p q p' q' n c i d m c' i' d' Z Y R3 hS (ho.later hu) (ho'.later hu) h1 h2
  clear hP hQ hS ho ho' h1 h2
  have T0 : Hid (TE w ((w.alloc (.cells #[.int .i64 x0, .int .i64 x1, .int .i64 x2, .slice p n c, .int .i64 x4, .slice q i d] 27)).alloc (.cells #[.int .i64 y0, .int .i64 y1, .int .i64 y2, .slice p' m c', .int .i64 y4, .slice q' i' d'] 27)) 27 27 (.int .i64 x0) (.int .i64 x1) (.int .i64 x2) (.slice p n c) (.int .i64 x4) (.slice q i d) (.int .i64 y0) (.int .i64 y1) (.int .i64 y2) (.slice p' m c') (.int .i64 y4) (.slice q' i' d')) := TE.made w _ _ _ _ _ _ _ _ _ _ _ _ _ _
  by_cases e1 : x0 = 4
  · subst e1
    have hR : Hid (agreeR 4 y0 R1 R2 R3 = false) := by simp [Hid, agreeR]
    rw [hR.out]
    go_enter Try.func5, Try.ntmps5
    go_wp2_with fail
    go_ret
    exact ⟨rfl, T0.out.bl⟩
  have b1 : (x0 == 4) = false := beq_false_of_ne e1
  by_cases e2 : y0 = 4
  · subst e2
    have hR : Hid (agreeR x0 4 R1 R2 R3 = false) := by simp [Hid, agreeR]
    rw [hR.out]
    go_enter Try.func5, Try.ntmps5
    go_wp2_with fail
    go_ret
    exact ⟨rfl, T0.out.bl⟩
  have b2 : (y0 == 4) = false := beq_false_of_ne e2
  by_cases e3 : x0 = 3
  · subst e3
    by_cases e4 : y0 = 3
    · subst e4
      cases R1 with
      | true =>
        have hR : Hid (agreeR 3 3 true R2 R3 = true) := by simp [Hid, agreeR]
        rw [hR.out]
        go_enter Try.func5, Try.ntmps5
        go_wp2_with (go_at_call 10; refine (kP.out _ T0.out.bl).mono ?_; rintro e u ⟨rfl, q1⟩; clear kP; have T1 : Hid _ := T0.out.call q1; obtain ⟨_, _, _, _, _, _⟩ := r6 T1.out.ra; obtain ⟨_, _, _, _, _, _⟩ := r6 T1.out.rb)
        go_ret
        exact ⟨rfl, T1.out.bl⟩
      | false =>
        have hR : Hid (agreeR 3 3 false R2 R3 = R2) := by simp [Hid, agreeR]
        rw [hR.out]
        go_enter Try.func5, Try.ntmps5
        go_wp2_with (first
          | (go_at_call 10; refine (kP.out _ T0.out.bl).mono ?_; rintro e u ⟨rfl, q1⟩; clear kP; have T1 : Hid _ := T0.out.call q1; obtain ⟨_, _, _, _, _, _⟩ := r6 T1.out.ra; obtain ⟨_, _, _, _, _, _⟩ := r6 T1.out.rb)
          | (go_at_call 10; refine (kQ.out _ T1.out.bl).mono ?_; rintro e u2 ⟨rfl, q2⟩; clear kQ; have T2 : Hid _ := T1.out.call q2))
        go_ret
        exact ⟨rfl, T2.out.bl⟩
    · have b4 : (y0 == 3) = false := beq_false_of_ne e4
      have hR : Hid (agreeR 3 y0 R1 R2 R3 = R1) := by simp [Hid, agreeR, e2, e4]
      rw [hR.out]
      go_enter Try.func5, Try.ntmps5
      go_wp2_with (go_at_call 10; refine (kP.out _ T0.out.bl).mono ?_; rintro e u ⟨rfl, q1⟩; clear kP; have T1 : Hid _ := T0.out.call q1; obtain ⟨_, _, _, _, _, _⟩ := r6 T1.out.ra; obtain ⟨_, _, _, _, _, _⟩ := r6 T1.out.rb)
      go_ret
      exact ⟨rfl, T1.out.bl⟩
  · have b3 : (x0 == 3) = false := beq_false_of_ne e3
    by_cases e4 : y0 = 3
    · subst e4
      have hR : Hid (agreeR x0 3 R1 R2 R3 = R2) := by simp [Hid, agreeR, e1, e3]
      rw [hR.out]
      go_enter Try.func5, Try.ntmps5
      go_wp2_with (go_at_call 10; refine (kQ.out _ T0.out.bl).mono ?_; rintro e u ⟨rfl, q1⟩; clear kQ; have T1 : Hid _ := T0.out.call q1; obtain ⟨_, _, _, _, _, _⟩ := r6 T1.out.ra; obtain ⟨_, _, _, _, _, _⟩ := r6 T1.out.rb)
      go_ret
      exact ⟨rfl, T1.out.bl⟩
    · have b4 : (y0 == 3) = false := beq_false_of_ne e4
      have hR : Hid (agreeR x0 y0 R1 R2 R3 = R3) := by simp [Hid, agreeR, e1, e2, e3, e4]
      rw [hR.out]
      go_enter Try.func5, Try.ntmps5
      go_wp2_with (go_at_call 11; refine (kS.out _ T0.out.bl).mono ?_; rintro e u ⟨rfl, q1⟩; clear kS; have T1 : Hid _ := T0.out.call q1; obtain ⟨_, _, _, _, _, _⟩ := r6 T1.out.ra; obtain ⟨_, _, _, _, _, _⟩ := r6 T1.out.rb)
      go_ret
      exact ⟨rfl, T1.out.bl⟩
set_option maxRecDepth 20000 in
set_option maxHeartbeats 2000000 in
theorem impl_agree (w : World) (x0 x1 x2 x4 y0 y1 y2 y4 : Int) (p q p' q' : Option Addr) (n c i d m c' i' d' : Nat) (Z Y : Nat → Int) (R1 R2 R3 : Bool) (hP : R1 = true ↔ (n ≤ m ∧ ∀ j, j < n → Z j = Y j)) (hQ : R2 = true ↔ (m ≤ n ∧ ∀ j, j < m → Y j = Z j)) (hS : R3 = true ↔ (x0 = y0 ∧ x1 = y1 ∧ x2 = y2 ∧ n = m ∧ ∀ j, j < n → Z j = Y j)) (ho : RdN w p n Z) (ho' : RdN w p' m Y) (h1 : n ≤ 1048576) (h2 : m ≤ 1048576) (hc1 : n ≤ c) (hc2 : m ≤ c') :
    Calls Try.prog 7 #[.agg #[.int .i64 x0, .int .i64 x1, .int .i64 x2, .slice p n c, .int .i64 x4, .slice q i d], .agg #[.int .i64 y0, .int .i64 y1, .int .i64 y2, .slice p' m c', .int .i64 y4, .slice q' i' d']] w fun e w' => e = .returned (.bool (agreeR x0 y0 R1 R2 R3)) ∧ Below w.heap.size w w' := by
  have kP : Hid (∀ u, Below w.heap.size w u → Calls Try.prog 13 #[.agg #[.int .i64 x0, .int .i64 x1, .int .i64 x2, .slice p n c, .int .i64 x4, .slice q i d], .agg #[.int .i64 y0, .int .i64 y1, .int .i64 y2, .slice p' m c', .int .i64 y4, .slice q' i' d']] u fun e w' => e = .returned (.bool R1) ∧ Below u.heap.size u w') := fun u hu => impl_prefix u x0 x1 x2 x4 y0 y1 y2 y4 p q p' q' n c i d m c' i' d' Z Y R1 hP (ho.later hu) (ho'.later hu) h1 hc2
  have kQ : Hid (∀ u, Below w.heap.size w u → Calls Try.prog 13 #[.agg #[.int .i64 y0, .int .i64 y1, .int .i64 y2, .slice p' m c', .int .i64 y4, .slice q' i' d'], .agg #[.int .i64 x0, .int .i64 x1, .int .i64 x2, .slice p n c, .int .i64 x4, .slice q i d]] u fun e w' => e = .returned (.bool R2) ∧ Below u.heap.size u w') := fun u hu => impl_prefix u y0 y1 y2 y4 x0 x1 x2 x4 p' q' p q m c' i' d' n c i d Y Z R2 hQ (ho'.later hu) (ho.later hu) h2 hc1
  have kS : Hid (∀ u, Below w.heap.size w u → Calls Try.prog 14 #[.agg #[.int .i64 x0, .int .i64 x1, .int .i64 x2, .slice p n c, .int .i64 x4, .slice q i d], .agg #[.int .i64 y0, .int .i64 y1, .int .i64 y2, .slice p' m c', .int .i64 y4, .slice q' i' d']] u fun e w' => e = .returned (.bool R3) ∧ Below u.heap.size u w') := fun u hu => impl_same u x0 x1 x2 x4 y0 y1 y2 y4 p q p' q' n c i d m c' i' d' Z Y R3 hS (ho.later hu) (ho'.later hu) h1 h2
  clear hP hQ hS ho ho' h1 h2 hc1 hc2
  have T0 : Hid (TE w ((w.alloc (.cells #[.int .i64 x0, .int .i64 x1, .int .i64 x2, .slice p n c, .int .i64 x4, .slice q i d] 27)).alloc (.cells #[.int .i64 y0, .int .i64 y1, .int .i64 y2, .slice p' m c', .int .i64 y4, .slice q' i' d'] 27)) 27 27 (.int .i64 x0) (.int .i64 x1) (.int .i64 x2) (.slice p n c) (.int .i64 x4) (.slice q i d) (.int .i64 y0) (.int .i64 y1) (.int .i64 y2) (.slice p' m c') (.int .i64 y4) (.slice q' i' d')) := TE.made w _ _ _ _ _ _ _ _ _ _ _ _ _ _
  by_cases e1 : x0 = 4
  · subst e1
    have hR : Hid (agreeR 4 y0 R1 R2 R3 = false) := by simp [Hid, agreeR]
    rw [hR.out]
    go_enter Try.func7, Try.ntmps7
    go_wp2_with fail
    go_ret
    exact ⟨rfl, T0.out.bl⟩
  have b1 : (x0 == 4) = false := beq_false_of_ne e1
  by_cases e2 : y0 = 4
  · subst e2
    have hR : Hid (agreeR x0 4 R1 R2 R3 = false) := by simp [Hid, agreeR]
    rw [hR.out]
    go_enter Try.func7, Try.ntmps7
    go_wp2_with fail
    go_ret
    exact ⟨rfl, T0.out.bl⟩
  have b2 : (y0 == 4) = false := beq_false_of_ne e2
  by_cases e3 : x0 = 3
  · subst e3
    by_cases e4 : y0 = 3
    · subst e4
      cases R1 with
      | true =>
        have hR : Hid (agreeR 3 3 true R2 R3 = true) := by simp [Hid, agreeR]
        rw [hR.out]
        go_enter Try.func7, Try.ntmps7
        go_wp2_with (go_at_call 13; refine (kP.out _ T0.out.bl).mono ?_; rintro e u ⟨rfl, q1⟩; clear kP; have T1 : Hid _ := T0.out.call q1; obtain ⟨_, _, _, _, _, _⟩ := r6 T1.out.ra; obtain ⟨_, _, _, _, _, _⟩ := r6 T1.out.rb)
        go_ret
        exact ⟨rfl, T1.out.bl⟩
      | false =>
        have hR : Hid (agreeR 3 3 false R2 R3 = R2) := by simp [Hid, agreeR]
        rw [hR.out]
        go_enter Try.func7, Try.ntmps7
        go_wp2_with (first
          | (go_at_call 13; refine (kP.out _ T0.out.bl).mono ?_; rintro e u ⟨rfl, q1⟩; clear kP; have T1 : Hid _ := T0.out.call q1; obtain ⟨_, _, _, _, _, _⟩ := r6 T1.out.ra; obtain ⟨_, _, _, _, _, _⟩ := r6 T1.out.rb)
          | (go_at_call 13; refine (kQ.out _ T1.out.bl).mono ?_; rintro e u2 ⟨rfl, q2⟩; clear kQ; have T2 : Hid _ := T1.out.call q2))
        go_ret
        exact ⟨rfl, T2.out.bl⟩
    · have b4 : (y0 == 3) = false := beq_false_of_ne e4
      have hR : Hid (agreeR 3 y0 R1 R2 R3 = R1) := by simp [Hid, agreeR, e2, e4]
      rw [hR.out]
      go_enter Try.func7, Try.ntmps7
      go_wp2_with (go_at_call 13; refine (kP.out _ T0.out.bl).mono ?_; rintro e u ⟨rfl, q1⟩; clear kP; have T1 : Hid _ := T0.out.call q1; obtain ⟨_, _, _, _, _, _⟩ := r6 T1.out.ra; obtain ⟨_, _, _, _, _, _⟩ := r6 T1.out.rb)
      go_ret
      exact ⟨rfl, T1.out.bl⟩
  · have b3 : (x0 == 3) = false := beq_false_of_ne e3
    by_cases e4 : y0 = 3
    · subst e4
      have hR : Hid (agreeR x0 3 R1 R2 R3 = R2) := by simp [Hid, agreeR, e1, e3]
      rw [hR.out]
      go_enter Try.func7, Try.ntmps7
      go_wp2_with (go_at_call 13; refine (kQ.out _ T0.out.bl).mono ?_; rintro e u ⟨rfl, q1⟩; clear kQ; have T1 : Hid _ := T0.out.call q1; obtain ⟨_, _, _, _, _, _⟩ := r6 T1.out.ra; obtain ⟨_, _, _, _, _, _⟩ := r6 T1.out.rb)
      go_ret
      exact ⟨rfl, T1.out.bl⟩
    · have b4 : (y0 == 3) = false := beq_false_of_ne e4
      have hR : Hid (agreeR x0 y0 R1 R2 R3 = R3) := by simp [Hid, agreeR, e1, e2, e3, e4]
      rw [hR.out]
      go_enter Try.func7, Try.ntmps7
      go_wp2_with (go_at_call 14; refine (kS.out _ T0.out.bl).mono ?_; rintro e u ⟨rfl, q1⟩; clear kS; have T1 : Hid _ := T0.out.call q1; obtain ⟨_, _, _, _, _, _⟩ := r6 T1.out.ra; obtain ⟨_, _, _, _, _, _⟩ := r6 T1.out.rb)
      go_ret
      exact ⟨rfl, T1.out.bl⟩
set_option maxRecDepth 20000 in
set_option maxHeartbeats 4000000 in
theorem fnExactAgree (w : World) (x0 x1 x2 x4 y0 y1 y2 y4 : Int) (p q p' q' : Option Addr) (n c i d m c' i' d' : Nat) (Z Z2 Y Y2 : Nat → Int) (ho : RdN w p n Z) (hg : RdN w q i Z2) (ho' : RdN w p' m Y) (hg' : RdN w q' i' Y2) (b1 : n ≤ 9223372036854775807) (b2 : i ≤ 9223372036854775807) (b3 : m ≤ 9223372036854775807) (b4 : i' ≤ 9223372036854775807) :
    Calls Try.prog 3 #[.agg #[.int .i64 x0, .int .i64 x1, .int .i64 x2, .slice p n c, .int .i64 x4, .slice q i d], .agg #[.int .i64 y0, .int .i64 y1, .int .i64 y2, .slice p' m c', .int .i64 y4, .slice q' i' d']] w fun e w' => e = .returned (.bool true) ∧ Below w.heap.size w w' := by
  obtain ⟨R1, hP⟩ : ∃ R : Bool, R = true ↔ (n ≤ m ∧ ∀ j, j < n → Z j = Y j) := ⟨decide _, decide_eq_true_iff⟩
  obtain ⟨R2, hQ⟩ : ∃ R : Bool, R = true ↔ (m ≤ n ∧ ∀ j, j < m → Y j = Z j) := ⟨decide _, decide_eq_true_iff⟩
  obtain ⟨R3, hS⟩ : ∃ R : Bool, R = true ↔ (x0 = y0 ∧ x1 = y1 ∧ x2 = y2 ∧ n = m ∧ ∀ j, j < n → Z j = Y j) := ⟨decide _, decide_eq_true_iff⟩
  obtain ⟨R, hR⟩ : ∃ R : Bool, agreeR x0 y0 R1 R2 R3 = R := ⟨_, rfl⟩
  have s1 : Hid (∀ u, Calls Try.prog 4 #[.agg #[.int .i64 x0, .int .i64 x1, .int .i64 x2, .slice p n c, .int .i64 x4, .slice q i d], .int .i64 1048576] u fun e w' => ∃ z : Int, e = .returned (.int .i64 z) ∧ z ≤ 1048576 ∧ -1 ≤ z ∧ (0 ≤ z → n ≤ 1048576 ∧ i ≤ 1048576) ∧ Below u.heap.size u w') := fun u => szRes0 u x0 x1 x2 x4 p q n c i d 1048576 b1 b2 (by omega) (by omega)
  have s2 : Hid (∀ u (l : Int), 0 ≤ l → l ≤ 1048576 → Calls Try.prog 4 #[.agg #[.int .i64 y0, .int .i64 y1, .int .i64 y2, .slice p' m c', .int .i64 y4, .slice q' i' d'], .int .i64 l] u fun e w' => ∃ z : Int, e = .returned (.int .i64 z) ∧ z ≤ l ∧ -1 ≤ z ∧ (0 ≤ z → m ≤ 1048576 ∧ i' ≤ 1048576) ∧ Below u.heap.size u w') := fun u l l0 l1 => szRes0 u y0 y1 y2 y4 p' q' m c' i' d' l b3 b4 l0 l1
  have kA : Hid (∀ u, Below w.heap.size w u → n ≤ 1048576 → i ≤ 1048576 → Calls Try.prog 6 #[.agg #[.int .i64 x0, .int .i64 x1, .int .i64 x2, .slice p n c, .int .i64 x4, .slice q i d]] u fun e w' => ∃ g1 g2 : Nat, e = .returned (.agg #[.int .i64 x0, .int .i64 x1, .int .i64 x2, .slice (some ⟨g1, 0, none⟩) n n, .int .i64 x4, .slice (some ⟨g2, 0, none⟩) i i]) ∧ RdN w' (some ⟨g1, 0, none⟩) n Z ∧ RdN w' (some ⟨g2, 0, none⟩) i Z2 ∧ Below u.heap.size u w') := fun u hu e1 e2 => toRes0 u x0 x1 x2 x4 p q n c i d Z Z2 (ho.later hu) (hg.later hu) e1 e2
  have kB : Hid (∀ u, Below w.heap.size w u → m ≤ 1048576 → i' ≤ 1048576 → Calls Try.prog 6 #[.agg #[.int .i64 y0, .int .i64 y1, .int .i64 y2, .slice p' m c', .int .i64 y4, .slice q' i' d']] u fun e w' => ∃ g1 g2 : Nat, e = .returned (.agg #[.int .i64 y0, .int .i64 y1, .int .i64 y2, .slice (some ⟨g1, 0, none⟩) m m, .int .i64 y4, .slice (some ⟨g2, 0, none⟩) i' i']) ∧ RdN w' (some ⟨g1, 0, none⟩) m Y ∧ RdN w' (some ⟨g2, 0, none⟩) i' Y2 ∧ Below u.heap.size u w') := fun u hu e1 e2 => toRes0 u y0 y1 y2 y4 p' q' m c' i' d' Y Y2 (ho'.later hu) (hg'.later hu) e1 e2
  have kS : Hid (∀ u g1 g2 g3 g4, RdN u (some ⟨g1, 0, none⟩) n Z → RdN u (some ⟨g3, 0, none⟩) m Y → n ≤ 1048576 → m ≤ 1048576 → Calls Try.prog 5 #[.agg #[.int .i64 x0, .int .i64 x1, .int .i64 x2, .slice (some ⟨g1, 0, none⟩) n n, .int .i64 x4, .slice (some ⟨g2, 0, none⟩) i i], .agg #[.int .i64 y0, .int .i64 y1, .int .i64 y2, .slice (some ⟨g3, 0, none⟩) m m, .int .i64 y4, .slice (some ⟨g4, 0, none⟩) i' i']] u fun e w' => e = .returned (.bool R) ∧ Below u.heap.size u w') := fun u g1 g2 g3 g4 r1 r2 e1 e2 => by rw [← hR]; exact spec_agree u x0 x1 x2 x4 y0 y1 y2 y4 _ _ _ _ n n i i m m i' i' Z Y R1 R2 R3 hP hQ hS r1 r2 e1 e2
  have kI : Hid (∀ u g1 g2 g3 g4, RdN u (some ⟨g1, 0, none⟩) n Z → RdN u (some ⟨g3, 0, none⟩) m Y → n ≤ 1048576 → m ≤ 1048576 → Calls Try.prog 7 #[.agg #[.int .i64 x0, .int .i64 x1, .int .i64 x2, .slice (some ⟨g1, 0, none⟩) n n, .int .i64 x4, .slice (some ⟨g2, 0, none⟩) i i], .agg #[.int .i64 y0, .int .i64 y1, .int .i64 y2, .slice (some ⟨g3, 0, none⟩) m m, .int .i64 y4, .slice (some ⟨g4, 0, none⟩) i' i']] u fun e w' => e = .returned (.bool R) ∧ Below u.heap.size u w') := fun u g1 g2 g3 g4 r1 r2 e1 e2 => by rw [← hR]; exact impl_agree u x0 x1 x2 x4 y0 y1 y2 y4 _ _ _ _ n n i i m m i' i' Z Y R1 R2 R3 hP hQ hS r1 r2 e1 e2 (Nat.le_refl _) (Nat.le_refl _)
  have qA : Hid (∀ u g1 g2 g3 g4, RdN u (some ⟨g1, 0, none⟩) n Z → RdN u (some ⟨g2, 0, none⟩) i Z2 → RdN u (some ⟨g3, 0, none⟩) n Z → RdN u (some ⟨g4, 0, none⟩) i Z2 → n ≤ 1048576 → i ≤ 1048576 → Calls Try.prog 8 #[.agg #[.int .i64 x0, .int .i64 x1, .int .i64 x2, .slice (some ⟨g1, 0, none⟩) n n, .int .i64 x4, .slice (some ⟨g2, 0, none⟩) i i], .agg #[.int .i64 x0, .int .i64 x1, .int .i64 x2, .slice (some ⟨g3, 0, none⟩) n n, .int .i64 x4, .slice (some ⟨g4, 0, none⟩) i i]] u fun e w' => e = .returned (.bool true) ∧ Below u.heap.size u w') := fun u g1 g2 g3 g4 r1 r2 r3 r4 e1 e2 => eqRes0 u x0 x1 x2 x4 _ _ _ _ n n n i i i Z Z2 r1 r2 r3 r4 e1 e2
  have qB : Hid (∀ u g1 g2 g3 g4, RdN u (some ⟨g1, 0, none⟩) m Y → RdN u (some ⟨g2, 0, none⟩) i' Y2 → RdN u (some ⟨g3, 0, none⟩) m Y → RdN u (some ⟨g4, 0, none⟩) i' Y2 → m ≤ 1048576 → i' ≤ 1048576 → Calls Try.prog 8 #[.agg #[.int .i64 y0, .int .i64 y1, .int .i64 y2, .slice (some ⟨g1, 0, none⟩) m m, .int .i64 y4, .slice (some ⟨g2, 0, none⟩) i' i'], .agg #[.int .i64 y0, .int .i64 y1, .int .i64 y2, .slice (some ⟨g3, 0, none⟩) m m, .int .i64 y4, .slice (some ⟨g4, 0, none⟩) i' i']] u fun e w' => e = .returned (.bool true) ∧ Below u.heap.size u w') := fun u g1 g2 g3 g4 r1 r2 r3 r4 e1 e2 => eqRes0 u y0 y1 y2 y4 _ _ _ _ m m m i' i' i' Y Y2 r1 r2 r3 r4 e1 e2
  clear ho hg ho' hg' hR hP hQ hS b1 b2 b3 b4
  have T0 : Hid (TE w ((w.alloc (.cells #[.int .i64 x0, .int .i64 x1, .int .i64 x2, .slice p n c, .int .i64 x4, .slice q i d] 24)).alloc (.cells #[.int .i64 y0, .int .i64 y1, .int .i64 y2, .slice p' m c', .int .i64 y4, .slice q' i' d'] 24)) 24 24 (.int .i64 x0) (.int .i64 x1) (.int .i64 x2) (.slice p n c) (.int .i64 x4) (.slice q i d) (.int .i64 y0) (.int .i64 y1) (.int .i64 y2) (.slice p' m c') (.int .i64 y4) (.slice q' i' d')) := TE.made w _ _ _ _ _ _ _ _ _ _ _ _ _ _
  go_enter Try.func3, Try.ntmps3
  go_wp2_with (go_at_call 4; refine (s1.out _).mono ?_; rintro e w1 ⟨z1, rfl, z1a, z1b, z1c, q1⟩; have z1' : Hid (0 ≤ z1 → n ≤ 1048576 ∧ i ≤ 1048576) := z1c; clear z1c s1; have T1 : Hid (TE w w1 24 24 (.int .i64 x0) (.int .i64 x1) (.int .i64 x2) (.slice p n c) (.int .i64 x4) (.slice q i d) (.int .i64 y0) (.int .i64 y1) (.int .i64 y2) (.slice p' m c') (.int .i64 y4) (.slice q' i' d')) := T0.out.call q1; obtain ⟨_, _, _, _, _, _⟩ := r6 T1.out.ra; obtain ⟨_, _, _, _, _, _⟩ := r6 T1.out.rb)
  · go_ret
    exact ⟨rfl, T1.out.bl⟩
  · have hz1 : 0 ≤ z1 := by omega
    have hs1 : Hid (n ≤ 1048576 ∧ i ≤ 1048576) := z1'.out hz1
    clear z1'
    go_wp2_with (go_at_call 4; refine (s2.out _ _ hz1 (by omega)).mono ?_; rintro e w2 ⟨z2, rfl, z2a, z2b, z2c, q2⟩; have z2' : Hid (0 ≤ z2 → m ≤ 1048576 ∧ i' ≤ 1048576) := z2c; clear z2c s2; have T2 : Hid (TE w w2 24 24 (.int .i64 x0) (.int .i64 x1) (.int .i64 x2) (.slice p n c) (.int .i64 x4) (.slice q i d) (.int .i64 y0) (.int .i64 y1) (.int .i64 y2) (.slice p' m c') (.int .i64 y4) (.slice q' i' d')) := T1.out.call q2; obtain ⟨_, _, _, _, _, _⟩ := r6 T2.out.ra; obtain ⟨_, _, _, _, _, _⟩ := r6 T2.out.rb)
    · go_ret
      exact ⟨rfl, T2.out.bl⟩
    · have hs2 : Hid (m ≤ 1048576 ∧ i' ≤ 1048576) := z2'.out (by omega)
      clear z2'
      have T2d : Hid (TE w w2.drew 24 24 (.int .i64 x0) (.int .i64 x1) (.int .i64 x2) (.slice p n c) (.int .i64 x4) (.slice q i d) (.int .i64 y0) (.int .i64 y1) (.int .i64 y2) (.slice p' m c') (.int .i64 y4) (.slice q' i' d')) := T2.out.call (Below.refl _ _).drew
      have kA1 := kA
      have kA2 := kA
      have kB2 := kB
      have kB1 := kB
      go_region_held (fun w' => w'.cell? ⟨w.heap.size, 0, none⟩ = some (.int .i64 x0) ∧ w'.cell? ⟨w.heap.size, 1, none⟩ = some (.int .i64 x1) ∧ w'.cell? ⟨w.heap.size, 2, none⟩ = some (.int .i64 x2) ∧ w'.cell? ⟨w.heap.size, 3, none⟩ = some (.slice p n c) ∧ w'.cell? ⟨w.heap.size, 4, none⟩ = some (.int .i64 x4) ∧ w'.cell? ⟨w.heap.size, 5, none⟩ = some (.slice q i d) ∧ w'.cell? ⟨w.heap.size + 1, 0, none⟩ = some (.int .i64 y0) ∧ w'.cell? ⟨w.heap.size + 1, 1, none⟩ = some (.int .i64 y1) ∧ w'.cell? ⟨w.heap.size + 1, 2, none⟩ = some (.int .i64 y2) ∧ w'.cell? ⟨w.heap.size + 1, 3, none⟩ = some (.slice p' m c') ∧ w'.cell? ⟨w.heap.size + 1, 4, none⟩ = some (.int .i64 y4) ∧ w'.cell? ⟨w.heap.size + 1, 5, none⟩ = some (.slice q' i' d')) (go_keep)
        (first
          | (go_at_call 6; refine (kA1.out _ (by first | exact T2d.out.bl | exact TB.out.bl) hs1.out.1 hs1.out.2).mono ?_; rintro e wA ⟨gA, hA, rfl, cA, cA2, qqA⟩; clear kA1; (first | (have TA : Hid (TE w wA 24 24 (.int .i64 x0) (.int .i64 x1) (.int .i64 x2) (.slice p n c) (.int .i64 x4) (.slice q i d) (.int .i64 y0) (.int .i64 y1) (.int .i64 y2) (.slice p' m c') (.int .i64 y4) (.slice q' i' d')) := TB.out.call qqA; have UA : Hid (RdN wA (some ⟨gA, 0, none⟩) n Z ∧ RdN wA (some ⟨gB, 0, none⟩) m Y) := ⟨cA, cB.later qqA⟩) | (have TA : Hid (TE w wA 24 24 (.int .i64 x0) (.int .i64 x1) (.int .i64 x2) (.slice p n c) (.int .i64 x4) (.slice q i d) (.int .i64 y0) (.int .i64 y1) (.int .i64 y2) (.slice p' m c') (.int .i64 y4) (.slice q' i' d')) := T2d.out.call qqA)); obtain ⟨_, _, _, _, _, _⟩ := r6 TA.out.ra; obtain ⟨_, _, _, _, _, _⟩ := r6 TA.out.rb)
          | (go_at_call 6; refine (kB1.out _ (by first | exact T2d.out.bl | exact TA.out.bl) hs2.out.1 hs2.out.2).mono ?_; rintro e wB ⟨gB, hB, rfl, cB, cB2, qqB⟩; clear kB1; (first | (have TB : Hid (TE w wB 24 24 (.int .i64 x0) (.int .i64 x1) (.int .i64 x2) (.slice p n c) (.int .i64 x4) (.slice q i d) (.int .i64 y0) (.int .i64 y1) (.int .i64 y2) (.slice p' m c') (.int .i64 y4) (.slice q' i' d')) := TA.out.call qqB; have UB : Hid (RdN wB (some ⟨gA, 0, none⟩) n Z ∧ RdN wB (some ⟨gB, 0, none⟩) m Y) := ⟨cA.later qqB, cB⟩) | (have TB : Hid (TE w wB 24 24 (.int .i64 x0) (.int .i64 x1) (.int .i64 x2) (.slice p n c) (.int .i64 x4) (.slice q i d) (.int .i64 y0) (.int .i64 y1) (.int .i64 y2) (.slice p' m c') (.int .i64 y4) (.slice q' i' d')) := T2d.out.call qqB)); obtain ⟨_, _, _, _, _, _⟩ := r6 TB.out.ra; obtain ⟨_, _, _, _, _, _⟩ := r6 TB.out.rb)
          | (go_at_call 5; (first | (refine (kS.out _ gA hA gB hB UA.out.1 UA.out.2 hs1.out.1 hs2.out.1).mono ?_; rintro e w3 ⟨rfl, q3⟩; have T3 : Hid (TE w w3 24 24 (.int .i64 x0) (.int .i64 x1) (.int .i64 x2) (.slice p n c) (.int .i64 x4) (.slice q i d) (.int .i64 y0) (.int .i64 y1) (.int .i64 y2) (.slice p' m c') (.int .i64 y4) (.slice q' i' d')) := TA.out.call q3) | (refine (kS.out _ gA hA gB hB UB.out.1 UB.out.2 hs1.out.1 hs2.out.1).mono ?_; rintro e w3 ⟨rfl, q3⟩; have T3 : Hid (TE w w3 24 24 (.int .i64 x0) (.int .i64 x1) (.int .i64 x2) (.slice p n c) (.int .i64 x4) (.slice q i d) (.int .i64 y0) (.int .i64 y1) (.int .i64 y2) (.slice p' m c') (.int .i64 y4) (.slice q' i' d')) := TB.out.call q3)); obtain ⟨_, _, _, _, _, _⟩ := r6 T3.out.ra; obtain ⟨_, _, _, _, _, _⟩ := r6 T3.out.rb))
      all_goals
        go_wp2_with (go_at_call 6; refine (kA2.out _ T3.out.bl hs1.out.1 hs1.out.2).mono ?_; rintro e w4 ⟨g4, h4, rfl, c4, d4, q4⟩; clear kA2; have T4 : Hid (TE w w4 24 24 (.int .i64 x0) (.int .i64 x1) (.int .i64 x2) (.slice p n c) (.int .i64 x4) (.slice q i d) (.int .i64 y0) (.int .i64 y1) (.int .i64 y2) (.slice p' m c') (.int .i64 y4) (.slice q' i' d')) := T3.out.call q4; have A4 : Hid (Below w4.heap.size w4 (w4.alloc (.cells #[.int .i64 x0, .int .i64 x1, .int .i64 x2, .slice (some ⟨g4, 0, none⟩) n n, .int .i64 x4, .slice (some ⟨h4, 0, none⟩) i i] 27))) := (Below.refl _ _).alloc (Nat.le_refl _) _; have T5 : Hid (TE w (w4.alloc (.cells #[.int .i64 x0, .int .i64 x1, .int .i64 x2, .slice (some ⟨g4, 0, none⟩) n n, .int .i64 x4, .slice (some ⟨h4, 0, none⟩) i i] 27)) 24 24 (.int .i64 x0) (.int .i64 x1) (.int .i64 x2) (.slice p n c) (.int .i64 x4) (.slice q i d) (.int .i64 y0) (.int .i64 y1) (.int .i64 y2) (.slice p' m c') (.int .i64 y4) (.slice q' i' d')) := T4.out.call A4.out; have X5 : Hid ((w4.alloc (.cells #[.int .i64 x0, .int .i64 x1, .int .i64 x2, .slice (some ⟨g4, 0, none⟩) n n, .int .i64 x4, .slice (some ⟨h4, 0, none⟩) i i] 27)).rowIs w4.heap.size 27 6 (R6 (.int .i64 x0) (.int .i64 x1) (.int .i64 x2) (.slice (some ⟨g4, 0, none⟩) n n) (.int .i64 x4) (.slice (some ⟨h4, 0, none⟩) i i))) := r6_made w4 _ _ _ _ _ _ _; have C5 : Hid (RdN (w4.alloc (.cells #[.int .i64 x0, .int .i64 x1, .int .i64 x2, .slice (some ⟨g4, 0, none⟩) n n, .int .i64 x4, .slice (some ⟨h4, 0, none⟩) i i] 27)) (some ⟨g4, 0, none⟩) n Z ∧ RdN (w4.alloc (.cells #[.int .i64 x0, .int .i64 x1, .int .i64 x2, .slice (some ⟨g4, 0, none⟩) n n, .int .i64 x4, .slice (some ⟨h4, 0, none⟩) i i] 27)) (some ⟨h4, 0, none⟩) i Z2) := ⟨c4.later A4.out, d4.later A4.out⟩; clear c4 d4; obtain ⟨_, _, _, _, _, _⟩ := r6 T4.out.ra; obtain ⟨_, _, _, _, _, _⟩ := r6 T4.out.rb; obtain ⟨_, _, _, _, _, _⟩ := r6 T5.out.rb)
        have B5 := T5.out.bl
        have Y5 : Hid (Below w.heap.size w (w4.alloc (.cells #[.int .i64 x0, .int .i64 x1, .int .i64 x2, .slice (some ⟨g4, 0, none⟩) n n, .int .i64 x4, .slice (some ⟨h4, 0, none⟩) i i] 27))) := B5
        clear B5
        go_wp2_with (go_at_call 6; refine (kB2.out _ Y5.out hs2.out.1 hs2.out.2).mono ?_; rintro e w6 ⟨g6, h6, rfl, c6, d6, q6⟩; clear Y5 kB2; have T6 : Hid (TE w w6 24 24 (.int .i64 x0) (.int .i64 x1) (.int .i64 x2) (.slice p n c) (.int .i64 x4) (.slice q i d) (.int .i64 y0) (.int .i64 y1) (.int .i64 y2) (.slice p' m c') (.int .i64 y4) (.slice q' i' d')) := T5.out.call q6; have A6 : Hid (Below w6.heap.size w6 (w6.alloc (.cells #[.int .i64 y0, .int .i64 y1, .int .i64 y2, .slice (some ⟨g6, 0, none⟩) m m, .int .i64 y4, .slice (some ⟨h6, 0, none⟩) i' i'] 27))) := (Below.refl _ _).alloc (Nat.le_refl _) _; have T7 : Hid (TE w (w6.alloc (.cells #[.int .i64 y0, .int .i64 y1, .int .i64 y2, .slice (some ⟨g6, 0, none⟩) m m, .int .i64 y4, .slice (some ⟨h6, 0, none⟩) i' i'] 27)) 24 24 (.int .i64 x0) (.int .i64 x1) (.int .i64 x2) (.slice p n c) (.int .i64 x4) (.slice q i d) (.int .i64 y0) (.int .i64 y1) (.int .i64 y2) (.slice p' m c') (.int .i64 y4) (.slice q' i' d')) := T6.out.call A6.out; have P7 : Hid ((w6.alloc (.cells #[.int .i64 y0, .int .i64 y1, .int .i64 y2, .slice (some ⟨g6, 0, none⟩) m m, .int .i64 y4, .slice (some ⟨h6, 0, none⟩) i' i'] 27)).rowIs w4.heap.size 27 6 (R6 (.int .i64 x0) (.int .i64 x1) (.int .i64 x2) (.slice (some ⟨g4, 0, none⟩) n n) (.int .i64 x4) (.slice (some ⟨h4, 0, none⟩) i i))) := row_later (row_later X5.out q6) A6.out; have X7 : Hid ((w6.alloc (.cells #[.int .i64 y0, .int .i64 y1, .int .i64 y2, .slice (some ⟨g6, 0, none⟩) m m, .int .i64 y4, .slice (some ⟨h6, 0, none⟩) i' i'] 27)).rowIs w6.heap.size 27 6 (R6 (.int .i64 y0) (.int .i64 y1) (.int .i64 y2) (.slice (some ⟨g6, 0, none⟩) m m) (.int .i64 y4) (.slice (some ⟨h6, 0, none⟩) i' i'))) := r6_made w6 _ _ _ _ _ _ _; have C7 : Hid (RdN ((w6.alloc (.cells #[.int .i64 y0, .int .i64 y1, .int .i64 y2, .slice (some ⟨g6, 0, none⟩) m m, .int .i64 y4, .slice (some ⟨h6, 0, none⟩) i' i'] 27))) (some ⟨g4, 0, none⟩) n Z ∧ RdN ((w6.alloc (.cells #[.int .i64 y0, .int .i64 y1, .int .i64 y2, .slice (some ⟨g6, 0, none⟩) m m, .int .i64 y4, .slice (some ⟨h6, 0, none⟩) i' i'] 27))) (some ⟨h4, 0, none⟩) i Z2 ∧ RdN ((w6.alloc (.cells #[.int .i64 y0, .int .i64 y1, .int .i64 y2, .slice (some ⟨g6, 0, none⟩) m m, .int .i64 y4, .slice (some ⟨h6, 0, none⟩) i' i'] 27))) (some ⟨g6, 0, none⟩) m Y ∧ RdN ((w6.alloc (.cells #[.int .i64 y0, .int .i64 y1, .int .i64 y2, .slice (some ⟨g6, 0, none⟩) m m, .int .i64 y4, .slice (some ⟨h6, 0, none⟩) i' i'] 27))) (some ⟨h6, 0, none⟩) i' Y2) := ⟨(C5.out.1.later q6).later A6.out, (C5.out.2.later q6).later A6.out, c6.later A6.out, d6.later A6.out⟩; clear c6 d6; obtain ⟨_, _, _, _, _, _⟩ := r6 T6.out.ra; obtain ⟨_, _, _, _, _, _⟩ := r6 T6.out.rb; obtain ⟨_, _, _, _, _, _⟩ := r6 P7.out; obtain ⟨_, _, _, _, _, _⟩ := r6 X7.out)
        go_wp2_with (go_at_call 7; refine (kI.out _ g4 h4 g6 h6 C7.out.1 C7.out.2.2.1 hs1.out.1 hs2.out.1).mono ?_; rintro e w8 ⟨rfl, q8⟩; clear kI; have T8 : Hid (TE w w8 24 24 (.int .i64 x0) (.int .i64 x1) (.int .i64 x2) (.slice p n c) (.int .i64 x4) (.slice q i d) (.int .i64 y0) (.int .i64 y1) (.int .i64 y2) (.slice p' m c') (.int .i64 y4) (.slice q' i' d')) := T7.out.call q8; have P8 : Hid (w8.rowIs w4.heap.size 27 6 (R6 (.int .i64 x0) (.int .i64 x1) (.int .i64 x2) (.slice (some ⟨g4, 0, none⟩) n n) (.int .i64 x4) (.slice (some ⟨h4, 0, none⟩) i i))) := row_later P7.out q8; have X8 : Hid (w8.rowIs w6.heap.size 27 6 (R6 (.int .i64 y0) (.int .i64 y1) (.int .i64 y2) (.slice (some ⟨g6, 0, none⟩) m m) (.int .i64 y4) (.slice (some ⟨h6, 0, none⟩) i' i'))) := row_later X7.out q8; have C8 : Hid (RdN w8 (some ⟨g4, 0, none⟩) n Z ∧ RdN w8 (some ⟨h4, 0, none⟩) i Z2 ∧ RdN w8 (some ⟨g6, 0, none⟩) m Y ∧ RdN w8 (some ⟨h6, 0, none⟩) i' Y2) := ⟨C7.out.1.later q8, C7.out.2.1.later q8, C7.out.2.2.1.later q8, C7.out.2.2.2.later q8⟩; obtain ⟨_, _, _, _, _, _⟩ := r6 T8.out.ra; obtain ⟨_, _, _, _, _, _⟩ := r6 P8.out)
        have D8 : Hid (Below w8.heap.size w8 w8.drew) := (Below.refl _ _).drew
        have T8d : Hid (TE w w8.drew 24 24 (.int .i64 x0) (.int .i64 x1) (.int .i64 x2) (.slice p n c) (.int .i64 x4) (.slice q i d) (.int .i64 y0) (.int .i64 y1) (.int .i64 y2) (.slice p' m c') (.int .i64 y4) (.slice q' i' d')) := T8.out.call D8.out
        have P8d : Hid (w8.drew.rowIs w4.heap.size 27 6 (R6 (.int .i64 x0) (.int .i64 x1) (.int .i64 x2) (.slice (some ⟨g4, 0, none⟩) n n) (.int .i64 x4) (.slice (some ⟨h4, 0, none⟩) i i))) := row_later P8.out D8.out
        go_region_held (fun w' => w'.cell? ⟨w.heap.size, 0, none⟩ = some (.int .i64 x0) ∧ w'.cell? ⟨w.heap.size, 1, none⟩ = some (.int .i64 x1) ∧ w'.cell? ⟨w.heap.size, 2, none⟩ = some (.int .i64 x2) ∧ w'.cell? ⟨w.heap.size, 3, none⟩ = some (.slice p n c) ∧ w'.cell? ⟨w.heap.size, 4, none⟩ = some (.int .i64 x4) ∧ w'.cell? ⟨w.heap.size, 5, none⟩ = some (.slice q i d) ∧ w'.cell? ⟨w4.heap.size, 0, none⟩ = some (.int .i64 x0) ∧ w'.cell? ⟨w4.heap.size, 1, none⟩ = some (.int .i64 x1) ∧ w'.cell? ⟨w4.heap.size, 2, none⟩ = some (.int .i64 x2) ∧ w'.cell? ⟨w4.heap.size, 3, none⟩ = some (.slice (some ⟨g4, 0, none⟩) n n) ∧ w'.cell? ⟨w4.heap.size, 4, none⟩ = some (.int .i64 x4) ∧ w'.cell? ⟨w4.heap.size, 5, none⟩ = some (.slice (some ⟨h4, 0, none⟩) i i)) (go_keep)
          (first
            | (go_at_call 6; refine (kA.out _ T8d.out.bl hs1.out.1 hs1.out.2).mono ?_; rintro e w9 ⟨g9, h9, rfl, c9, d9, q9⟩; clear kA; have T9 : Hid (TE w w9 24 24 (.int .i64 x0) (.int .i64 x1) (.int .i64 x2) (.slice p n c) (.int .i64 x4) (.slice q i d) (.int .i64 y0) (.int .i64 y1) (.int .i64 y2) (.slice p' m c') (.int .i64 y4) (.slice q' i' d')) := T8d.out.call q9; have P9 : Hid (w9.rowIs w4.heap.size 27 6 (R6 (.int .i64 x0) (.int .i64 x1) (.int .i64 x2) (.slice (some ⟨g4, 0, none⟩) n n) (.int .i64 x4) (.slice (some ⟨h4, 0, none⟩) i i))) := row_later P8d.out q9; have X9 : Hid (w9.rowIs w6.heap.size 27 6 (R6 (.int .i64 y0) (.int .i64 y1) (.int .i64 y2) (.slice (some ⟨g6, 0, none⟩) m m) (.int .i64 y4) (.slice (some ⟨h6, 0, none⟩) i' i'))) := row_later (row_later X8.out D8.out) q9; have C9 : Hid (RdN w9 (some ⟨g4, 0, none⟩) n Z ∧ RdN w9 (some ⟨h4, 0, none⟩) i Z2 ∧ RdN w9 (some ⟨g6, 0, none⟩) m Y ∧ RdN w9 (some ⟨h6, 0, none⟩) i' Y2) := ⟨(C8.out.1.later D8.out).later q9, (C8.out.2.1.later D8.out).later q9, (C8.out.2.2.1.later D8.out).later q9, (C8.out.2.2.2.later D8.out).later q9⟩; have E9 : Hid (RdN w9 (some ⟨g9, 0, none⟩) n Z ∧ RdN w9 (some ⟨h9, 0, none⟩) i Z2) := ⟨c9, d9⟩; clear c9 d9; obtain ⟨_, _, _, _, _, _⟩ := r6 T9.out.ra; obtain ⟨_, _, _, _, _, _⟩ := r6 P9.out)
            | (go_at_call 8; refine (qA.out _ g4 h4 g9 h9 C9.out.1 C9.out.2.1 E9.out.1 E9.out.2 hs1.out.1 hs1.out.2).mono ?_; rintro e w10 ⟨rfl, q10⟩; clear qA; have T10 : Hid (TE w w10 24 24 (.int .i64 x0) (.int .i64 x1) (.int .i64 x2) (.slice p n c) (.int .i64 x4) (.slice q i d) (.int .i64 y0) (.int .i64 y1) (.int .i64 y2) (.slice p' m c') (.int .i64 y4) (.slice q' i' d')) := T9.out.call q10; have P10 : Hid (w10.rowIs w4.heap.size 27 6 (R6 (.int .i64 x0) (.int .i64 x1) (.int .i64 x2) (.slice (some ⟨g4, 0, none⟩) n n) (.int .i64 x4) (.slice (some ⟨h4, 0, none⟩) i i))) := row_later P9.out q10; have X10 : Hid (w10.rowIs w6.heap.size 27 6 (R6 (.int .i64 y0) (.int .i64 y1) (.int .i64 y2) (.slice (some ⟨g6, 0, none⟩) m m) (.int .i64 y4) (.slice (some ⟨h6, 0, none⟩) i' i'))) := row_later X9.out q10; obtain ⟨_, _, _, _, _, _⟩ := r6 T10.out.ra; obtain ⟨_, _, _, _, _, _⟩ := r6 P10.out))
        go_wp2_with fail
        obtain ⟨_, _, _, _, _, _⟩ := r6 T10.out.rb
        obtain ⟨_, _, _, _, _, _⟩ := r6 X10.out
        have D10 : Hid (Below w10.heap.size w10 w10.drew) := (Below.refl _ _).drew
        have T10d : Hid (TE w w10.drew 24 24 (.int .i64 x0) (.int .i64 x1) (.int .i64 x2) (.slice p n c) (.int .i64 x4) (.slice q i d) (.int .i64 y0) (.int .i64 y1) (.int .i64 y2) (.slice p' m c') (.int .i64 y4) (.slice q' i' d')) := T10.out.call D10.out
        have X10d : Hid (w10.drew.rowIs w6.heap.size 27 6 (R6 (.int .i64 y0) (.int .i64 y1) (.int .i64 y2) (.slice (some ⟨g6, 0, none⟩) m m) (.int .i64 y4) (.slice (some ⟨h6, 0, none⟩) i' i'))) := row_later X10.out D10.out
        go_region_held (fun w' => w'.cell? ⟨w.heap.size + 1, 0, none⟩ = some (.int .i64 y0) ∧ w'.cell? ⟨w.heap.size + 1, 1, none⟩ = some (.int .i64 y1) ∧ w'.cell? ⟨w.heap.size + 1, 2, none⟩ = some (.int .i64 y2) ∧ w'.cell? ⟨w.heap.size + 1, 3, none⟩ = some (.slice p' m c') ∧ w'.cell? ⟨w.heap.size + 1, 4, none⟩ = some (.int .i64 y4) ∧ w'.cell? ⟨w.heap.size + 1, 5, none⟩ = some (.slice q' i' d') ∧ w'.cell? ⟨w6.heap.size, 0, none⟩ = some (.int .i64 y0) ∧ w'.cell? ⟨w6.heap.size, 1, none⟩ = some (.int .i64 y1) ∧ w'.cell? ⟨w6.heap.size, 2, none⟩ = some (.int .i64 y2) ∧ w'.cell? ⟨w6.heap.size, 3, none⟩ = some (.slice (some ⟨g6, 0, none⟩) m m) ∧ w'.cell? ⟨w6.heap.size, 4, none⟩ = some (.int .i64 y4) ∧ w'.cell? ⟨w6.heap.size, 5, none⟩ = some (.slice (some ⟨h6, 0, none⟩) i' i')) (go_keep)
          (first
            | (go_at_call 6; refine (kB.out _ T10d.out.bl hs2.out.1 hs2.out.2).mono ?_; rintro e w11 ⟨g11, h11, rfl, c11, d11, q11⟩; clear kB; have T11 : Hid (TE w w11 24 24 (.int .i64 x0) (.int .i64 x1) (.int .i64 x2) (.slice p n c) (.int .i64 x4) (.slice q i d) (.int .i64 y0) (.int .i64 y1) (.int .i64 y2) (.slice p' m c') (.int .i64 y4) (.slice q' i' d')) := T10d.out.call q11; have X11 : Hid (w11.rowIs w6.heap.size 27 6 (R6 (.int .i64 y0) (.int .i64 y1) (.int .i64 y2) (.slice (some ⟨g6, 0, none⟩) m m) (.int .i64 y4) (.slice (some ⟨h6, 0, none⟩) i' i'))) := row_later X10d.out q11; have C11 : Hid (RdN w11 (some ⟨g6, 0, none⟩) m Y ∧ RdN w11 (some ⟨h6, 0, none⟩) i' Y2) := ⟨((C9.out.2.2.1.later q10).later D10.out).later q11, ((C9.out.2.2.2.later q10).later D10.out).later q11⟩; have E11 : Hid (RdN w11 (some ⟨g11, 0, none⟩) m Y ∧ RdN w11 (some ⟨h11, 0, none⟩) i' Y2) := ⟨c11, d11⟩; clear c11 d11; obtain ⟨_, _, _, _, _, _⟩ := r6 T11.out.rb; obtain ⟨_, _, _, _, _, _⟩ := r6 X11.out)
            | (go_at_call 8; refine (qB.out _ g6 h6 g11 h11 C11.out.1 C11.out.2 E11.out.1 E11.out.2 hs2.out.1 hs2.out.2).mono ?_; rintro e w12 ⟨rfl, q12⟩; clear qB; have T12 : Hid (TE w w12 24 24 (.int .i64 x0) (.int .i64 x1) (.int .i64 x2) (.slice p n c) (.int .i64 x4) (.slice q i d) (.int .i64 y0) (.int .i64 y1) (.int .i64 y2) (.slice p' m c') (.int .i64 y4) (.slice q' i' d')) := T11.out.call q12; have X12 : Hid (w12.rowIs w6.heap.size 27 6 (R6 (.int .i64 y0) (.int .i64 y1) (.int .i64 y2) (.slice (some ⟨g6, 0, none⟩) m m) (.int .i64 y4) (.slice (some ⟨h6, 0, none⟩) i' i'))) := row_later X11.out q12; obtain ⟨_, _, _, _, _, _⟩ := r6 T12.out.rb; obtain ⟨_, _, _, _, _, _⟩ := r6 X12.out))
        go_wp2_with fail
        go_ret
        exact ⟨rfl, T12.out.bl⟩
end Go.Proofs.Ytjelpchkeepmhaa.ResAgree
