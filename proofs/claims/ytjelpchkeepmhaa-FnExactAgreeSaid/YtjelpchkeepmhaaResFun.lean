/-
  Prefix and Same of both sides.
-/
import Derived.Test.YtjelpchkeepmhaaResTo
namespace Go.Proofs.Ytjelpchkeepmhaa.ResFun
open Go.RowKit PlainNum NumCalls ByteMem NumMem2 ResMem ResTo

theorem dn2 (w : World) (m k : Nat) : Below w.heap.size w ((w.drewN m).drewN k) := ⟨rfl, rfl, rfl, Nat.le_refl _, fun _ _ => rfl⟩
/-- slices.Equal over numbers. -/
theorem equal (w : World) (a b : Option Addr) (n m c d : Nat) (Z Y : Nat → Int) (R : Bool) (hR : R = true ↔ (n = m ∧ ∀ j, j < n → Z j = Y j)) (ha : RdN w a n Z) (hb : RdN w b m Y) (hn : n ≤ 1048576) (hm : m ≤ 1048576) :
    Calls Try.prog 17 #[.slice a n c, .slice b m d] w fun e w' => e = .returned (.bool R) ∧ Below w.heap.size w w' := by
  have k1 : Hid (RdN w a n Z) := ha
  have k2 : Hid (RdN w b m Y) := hb
  clear ha hb
  by_cases hnm : n = m
  · have hR' : Hid (R = true ↔ ∀ j, j < n → Z j = Y j) := ⟨fun h => (hR.1 h).2, fun h => hR.2 ⟨hnm, h⟩⟩
    subst hnm
    clear hR
    go_enter Try.func17, Try.ntmps17
    go_wp2_with fail
    go_loopw [13] (fun i wr => ∃ k q : Nat, k ≤ n ∧ i = .int .i64 k ∧ wr = w.drewN q ∧ ∀ j, j < k → Z j = Y j) (fun i _ => n - (intOf i).toNat)
    case atStart => exact ⟨0, 0, Nat.zero_le _, rfl, rfl, fun j hj => by omega⟩
    case round =>
      obtain ⟨k, q, hk, rfl, rfl, hall⟩ := hrel
      by_cases hlt : k < n
      · have hlt' : (k : Int) < (n : Int) := by omega
        rcases k1.out with h0 | ⟨x, off, hx, hc⟩
        · omega
        · rcases k2.out with h0' | ⟨y, off', hy, hc'⟩
          · omega
          · have c1 := hc k hlt
            have c2 := hc' k hlt
            subst hx hy
            clear hc hc'
            have ha' : Hid (∀ j, j < k → Z j = Y j) := hall
            clear hall
            by_cases he : Z k = Y k
            · have hz : Hid (Z k = Y k) := he
              rw [← he] at c2
              clear he
              generalize Z k = z at c1 c2
              go_wp2_with fail
              go_quiet (fail)
              go_wp2_with fail
              go_roundw
              case rel => exact ⟨k + 1, _, by omega, by go_num, rfl, fun j hj => if e : j = k then by rw [e]; exact hz.out else ha'.out j (by omega)⟩
              case measure => simp [intOf]; omega
            · have hz : Hid (R = false) := by
                cases R
                · rfl
                · exact absurd (hR'.out.1 rfl k hlt) he
              generalize Z k = z at c1 he
              generalize Y k = y' at c2 he
              go_wp2_with fail
              go_quiet (fail)
              go_wp2_with fail
              go_ret
              exact ⟨by rw [hz.out]; rfl, dn2 w _ _⟩
      · obtain rfl : k = n := by omega
        have hz : Hid (R = true) := hR'.out.2 hall
        clear hall
        go_wp2_with fail
        go_ret
        exact ⟨by rw [hz.out]; rfl, below_dn w _⟩
  · have hz : Hid (R = false) := by
      cases R
      · rfl
      · exact absurd (hR.1 rfl).1 hnm
    have hnm' : (n : Int) ≠ (m : Int) := by omega
    clear hnm hR
    go_enter Try.func17, Try.ntmps17
    go_wp2_with fail
    go_ret
    exact ⟨by rw [hz.out]; rfl, Below.refl _ _⟩
theorem begins (w : World) (a b : Option Addr) (n m c d : Nat) (Z Y : Nat → Int) (R : Bool) (hR : R = true ↔ (m ≤ n ∧ ∀ j, j < m → Z j = Y j)) (ha : RdN w a n Z) (hb : RdN w b m Y) (hm : m ≤ 1048576) (hc : n ≤ c) :
    Calls Try.prog 16 #[.slice a n c, .slice b m d] w fun e w' => e = .returned (.bool R) ∧ Below w.heap.size w w' := by
  by_cases hnm : m ≤ n
  · have k : Hid (Calls Try.prog 17 #[.slice a m c, .slice b m d] w fun e w' => e = .returned (.bool R) ∧ Below w.heap.size w w') := equal w a b m m c d Z Y R ⟨fun h => ⟨rfl, (hR.1 h).2⟩, fun h => hR.2 ⟨hnm, h.2⟩⟩ (by
      rcases ha with h0 | ⟨x, off, hx, hcc⟩
      · exact .inl (by omega)
      · exact .inr ⟨x, off, hx, fun j hj => hcc j (by omega)⟩) hb hm hm
    clear ha hb hR
    have hnm' : (m : Int) ≤ (n : Int) := by omega
    have hmc : (m : Int) ≤ (c : Int) := by omega
    rcases a with _ | ⟨x, off, ao⟩
    all_goals
      go_enter Try.func16, Try.ntmps16
      go_wp2_with (go_at_call 17; refine k.out.mono ?_; rintro e w1 ⟨rfl, q⟩; clear k)
      go_ret
      exact ⟨rfl, q⟩
  · have hz : Hid (R = false) := by
      cases R
      · rfl
      · exact absurd (hR.1 rfl).1 hnm
    clear hR ha hb
    have hnm' : (n : Int) < (m : Int) := by omega
    go_enter Try.func16, Try.ntmps16
    go_wp2_with fail
    go_ret
    exact ⟨by rw [hz.out]; rfl, Below.refl _ _⟩
set_option maxRecDepth 20000 in
set_option maxHeartbeats 1000000 in
theorem spec_prefix (w : World) (x0 x1 x2 x4 y0 y1 y2 y4 : Int) (p q p' q' : Option Addr) (n c i d m c' i' d' : Nat) (Z Y : Nat → Int) (R : Bool) (hR : R = true ↔ (n ≤ m ∧ ∀ j, j < n → Z j = Y j)) (ho : RdN w p n Z) (ho' : RdN w p' m Y) (h1 : n ≤ 1048576) (h2 : m ≤ 1048576) :
    Calls Try.prog 10 #[.agg #[.int .i64 x0, .int .i64 x1, .int .i64 x2, .slice p n c, .int .i64 x4, .slice q i d], .agg #[.int .i64 y0, .int .i64 y1, .int .i64 y2, .slice p' m c', .int .i64 y4, .slice q' i' d']] w fun e w' => e = .returned (.bool R) ∧ Below w.heap.size w w' := by
  have T0 : Hid (TE w ((w.alloc (.cells #[.int .i64 x0, .int .i64 x1, .int .i64 x2, .slice p n c, .int .i64 x4, .slice q i d] 27)).alloc (.cells #[.int .i64 y0, .int .i64 y1, .int .i64 y2, .slice p' m c', .int .i64 y4, .slice q' i' d'] 27)) 27 27 (.int .i64 x0) (.int .i64 x1) (.int .i64 x2) (.slice p n c) (.int .i64 x4) (.slice q i d) (.int .i64 y0) (.int .i64 y1) (.int .i64 y2) (.slice p' m c') (.int .i64 y4) (.slice q' i' d')) := TE.made w _ _ _ _ _ _ _ _ _ _ _ _ _ _
  have k1 : Hid (RdN ((w.alloc (.cells #[.int .i64 x0, .int .i64 x1, .int .i64 x2, .slice p n c, .int .i64 x4, .slice q i d] 27)).alloc (.cells #[.int .i64 y0, .int .i64 y1, .int .i64 y2, .slice p' m c', .int .i64 y4, .slice q' i' d'] 27)) p n Z) := ho.later T0.out.bl
  have k2 : Hid (RdN ((w.alloc (.cells #[.int .i64 x0, .int .i64 x1, .int .i64 x2, .slice p n c, .int .i64 x4, .slice q i d] 27)).alloc (.cells #[.int .i64 y0, .int .i64 y1, .int .i64 y2, .slice p' m c', .int .i64 y4, .slice q' i' d'] 27)) p' m Y) := ho'.later T0.out.bl
  clear ho ho'
  by_cases hnm : n ≤ m
  · have hR' : Hid (R = true ↔ ∀ j, j < n → Z j = Y j) := ⟨fun h => (hR.1 h).2, fun h => hR.2 ⟨hnm, h⟩⟩
    have hnm' : (n : Int) ≤ (m : Int) := by omega
    clear hR
    go_enter Try.func10, Try.ntmps10
    go_wp2_with fail
    go_loopw [16] (fun z0 wr => ∃ k r : Nat, k ≤ n ∧ z0 = .int .i64 k ∧ wr = ((w.alloc (.cells #[.int .i64 x0, .int .i64 x1, .int .i64 x2, .slice p n c, .int .i64 x4, .slice q i d] 27)).alloc (.cells #[.int .i64 y0, .int .i64 y1, .int .i64 y2, .slice p' m c', .int .i64 y4, .slice q' i' d'] 27)).drewN r ∧ ∀ j, j < k → Z j = Y j) (fun z0 _ => n - (intOf z0).toNat)
    case atStart => exact ⟨0, 0, Nat.zero_le _, rfl, rfl, fun j hj => by omega⟩
    case round =>
      obtain ⟨k, r, hk, rfl, rfl, hall⟩ := hrel
      by_cases hlt : k < n
      · have hlt' : (k : Int) < (n : Int) := by omega
        have hlt2 : (k : Int) < (m : Int) := by omega
        rcases k1.out with h0 | ⟨x, off, hx, hc⟩
        · omega
        · rcases k2.out with h0' | ⟨y, off', hy, hc'⟩
          · omega
          · have c1 := hc k hlt
            have c2 := hc' k (by omega)
            subst hx hy
            clear hc hc'
            have ha' : Hid (∀ j, j < k → Z j = Y j) := hall
            clear hall
            by_cases he : Z k = Y k
            · have hz : Hid (Z k = Y k) := he
              rw [← he] at c2
              clear he
              generalize Z k = z at c1 c2
              go_wp2_with fail
              go_quiet (fail)
              go_wp2_with fail
              go_roundw
              case rel => exact ⟨k + 1, _, by omega, by go_num, rfl, fun j hj => if e : j = k then by rw [e]; exact hz.out else ha'.out j (by omega)⟩
              case measure => simp [intOf]; omega
            · have hz : Hid (R = false) := by
                cases R
                · rfl
                · exact absurd (hR'.out.1 rfl k hlt) he
              generalize Z k = z at c1 he
              generalize Y k = y' at c2 he
              go_wp2_with fail
              go_quiet (fail)
              go_wp2_with fail
              go_ret
              exact ⟨by rw [hz.out]; rfl, T0.out.bl.trans ((dn2 _ _ _).mono T0.out.bl.size)⟩
      · obtain rfl : k = n := by omega
        have hz : Hid (R = true) := hR'.out.2 hall
        clear hall
        go_wp2_with fail
        go_ret
        exact ⟨by rw [hz.out]; rfl, T0.out.bl.trans ((below_dn _ _).mono T0.out.bl.size)⟩
  · have hz : Hid (R = false) := by
      cases R
      · rfl
      · exact absurd (hR.1 rfl).1 hnm
    have hnm' : (m : Int) < (n : Int) := by omega
    clear hnm hR
    go_enter Try.func10, Try.ntmps10
    go_wp2_with fail
    go_ret
    exact ⟨by rw [hz.out]; rfl, T0.out.bl⟩
set_option maxRecDepth 20000 in
set_option maxHeartbeats 1000000 in
theorem impl_prefix (w : World) (x0 x1 x2 x4 y0 y1 y2 y4 : Int) (p q p' q' : Option Addr) (n c i d m c' i' d' : Nat) (Z Y : Nat → Int) (R : Bool) (hR : R = true ↔ (n ≤ m ∧ ∀ j, j < n → Z j = Y j)) (ho : RdN w p n Z) (ho' : RdN w p' m Y) (h1 : n ≤ 1048576) (hc : m ≤ c') :
    Calls Try.prog 13 #[.agg #[.int .i64 x0, .int .i64 x1, .int .i64 x2, .slice p n c, .int .i64 x4, .slice q i d], .agg #[.int .i64 y0, .int .i64 y1, .int .i64 y2, .slice p' m c', .int .i64 y4, .slice q' i' d']] w fun e w' => e = .returned (.bool R) ∧ Below w.heap.size w w' := by
  have T0 : Hid (TE w ((w.alloc (.cells #[.int .i64 x0, .int .i64 x1, .int .i64 x2, .slice p n c, .int .i64 x4, .slice q i d] 27)).alloc (.cells #[.int .i64 y0, .int .i64 y1, .int .i64 y2, .slice p' m c', .int .i64 y4, .slice q' i' d'] 27)) 27 27 (.int .i64 x0) (.int .i64 x1) (.int .i64 x2) (.slice p n c) (.int .i64 x4) (.slice q i d) (.int .i64 y0) (.int .i64 y1) (.int .i64 y2) (.slice p' m c') (.int .i64 y4) (.slice q' i' d')) := TE.made w _ _ _ _ _ _ _ _ _ _ _ _ _ _
  have k : Hid (Calls Try.prog 16 #[.slice p' m c', .slice p n c] ((w.alloc (.cells #[.int .i64 x0, .int .i64 x1, .int .i64 x2, .slice p n c, .int .i64 x4, .slice q i d] 27)).alloc (.cells #[.int .i64 y0, .int .i64 y1, .int .i64 y2, .slice p' m c', .int .i64 y4, .slice q' i' d'] 27)) fun e w' => e = .returned (.bool R) ∧ Below ((w.alloc (.cells #[.int .i64 x0, .int .i64 x1, .int .i64 x2, .slice p n c, .int .i64 x4, .slice q i d] 27)).alloc (.cells #[.int .i64 y0, .int .i64 y1, .int .i64 y2, .slice p' m c', .int .i64 y4, .slice q' i' d'] 27)).heap.size ((w.alloc (.cells #[.int .i64 x0, .int .i64 x1, .int .i64 x2, .slice p n c, .int .i64 x4, .slice q i d] 27)).alloc (.cells #[.int .i64 y0, .int .i64 y1, .int .i64 y2, .slice p' m c', .int .i64 y4, .slice q' i' d'] 27)) w') := begins ((w.alloc (.cells #[.int .i64 x0, .int .i64 x1, .int .i64 x2, .slice p n c, .int .i64 x4, .slice q i d] 27)).alloc (.cells #[.int .i64 y0, .int .i64 y1, .int .i64 y2, .slice p' m c', .int .i64 y4, .slice q' i' d'] 27)) p' p m n c' c Y Z R ⟨fun h => ⟨(hR.1 h).1, fun j hj => ((hR.1 h).2 j hj).symm⟩, fun h => hR.2 ⟨h.1, fun j hj => (h.2 j hj).symm⟩⟩ (ho'.later T0.out.bl) (ho.later T0.out.bl) h1 hc
  clear hR ho ho'
  go_enter Try.func13, Try.ntmps13
  go_wp2_with (go_at_call 16; refine k.out.mono ?_; rintro e w1 ⟨rfl, q1⟩; clear k)
  go_ret
  exact ⟨rfl, T0.out.bl.trans (q1.mono T0.out.bl.size)⟩
set_option maxRecDepth 20000 in
set_option maxHeartbeats 1000000 in
theorem spec_same (w : World) (x0 x1 x2 x4 y0 y1 y2 y4 : Int) (p q p' q' : Option Addr) (n c i d m c' i' d' : Nat) (Z Y : Nat → Int) (R : Bool) (hR : R = true ↔ (x0 = y0 ∧ x1 = y1 ∧ x2 = y2 ∧ n = m ∧ ∀ j, j < n → Z j = Y j)) (ho : RdN w p n Z) (ho' : RdN w p' m Y) (h1 : n ≤ 1048576) (h2 : m ≤ 1048576) :
    Calls Try.prog 11 #[.agg #[.int .i64 x0, .int .i64 x1, .int .i64 x2, .slice p n c, .int .i64 x4, .slice q i d], .agg #[.int .i64 y0, .int .i64 y1, .int .i64 y2, .slice p' m c', .int .i64 y4, .slice q' i' d']] w fun e w' => e = .returned (.bool R) ∧ Below w.heap.size w w' := by
  have T0 : Hid (TE w ((w.alloc (.cells #[.int .i64 x0, .int .i64 x1, .int .i64 x2, .slice p n c, .int .i64 x4, .slice q i d] 27)).alloc (.cells #[.int .i64 y0, .int .i64 y1, .int .i64 y2, .slice p' m c', .int .i64 y4, .slice q' i' d'] 27)) 27 27 (.int .i64 x0) (.int .i64 x1) (.int .i64 x2) (.slice p n c) (.int .i64 x4) (.slice q i d) (.int .i64 y0) (.int .i64 y1) (.int .i64 y2) (.slice p' m c') (.int .i64 y4) (.slice q' i' d')) := TE.made w _ _ _ _ _ _ _ _ _ _ _ _ _ _
  have k : Hid (x0 = y0 → x1 = y1 → x2 = y2 → n = m → Calls Try.prog 10 #[.agg #[.int .i64 x0, .int .i64 x1, .int .i64 x2, .slice p n c, .int .i64 x4, .slice q i d], .agg #[.int .i64 y0, .int .i64 y1, .int .i64 y2, .slice p' m c', .int .i64 y4, .slice q' i' d']] ((w.alloc (.cells #[.int .i64 x0, .int .i64 x1, .int .i64 x2, .slice p n c, .int .i64 x4, .slice q i d] 27)).alloc (.cells #[.int .i64 y0, .int .i64 y1, .int .i64 y2, .slice p' m c', .int .i64 y4, .slice q' i' d'] 27)) fun e w' => e = .returned (.bool R) ∧ Below ((w.alloc (.cells #[.int .i64 x0, .int .i64 x1, .int .i64 x2, .slice p n c, .int .i64 x4, .slice q i d] 27)).alloc (.cells #[.int .i64 y0, .int .i64 y1, .int .i64 y2, .slice p' m c', .int .i64 y4, .slice q' i' d'] 27)).heap.size ((w.alloc (.cells #[.int .i64 x0, .int .i64 x1, .int .i64 x2, .slice p n c, .int .i64 x4, .slice q i d] 27)).alloc (.cells #[.int .i64 y0, .int .i64 y1, .int .i64 y2, .slice p' m c', .int .i64 y4, .slice q' i' d'] 27)) w') := fun a b c0 e => spec_prefix ((w.alloc (.cells #[.int .i64 x0, .int .i64 x1, .int .i64 x2, .slice p n c, .int .i64 x4, .slice q i d] 27)).alloc (.cells #[.int .i64 y0, .int .i64 y1, .int .i64 y2, .slice p' m c', .int .i64 y4, .slice q' i' d'] 27)) x0 x1 x2 x4 y0 y1 y2 y4 p q p' q' n c i d m c' i' d' Z Y R ⟨fun h => ⟨by omega, (hR.1 h).2.2.2.2⟩, fun h => hR.2 ⟨a, b, c0, e, h.2⟩⟩ (ho.later T0.out.bl) (ho'.later T0.out.bl) h1 h2
  clear ho ho'
  by_cases e0 : x0 = y0
  · subst e0
    by_cases e1 : x1 = y1
    · subst e1
      by_cases e2 : x2 = y2
      · subst e2
        by_cases e3 : n = m
        · have k' := k.out rfl rfl rfl e3
          subst e3
          clear k hR
          go_enter Try.func11, Try.ntmps11
          go_wp2_with (go_at_call 10; refine k'.mono ?_; rintro e w1 ⟨rfl, q1⟩; clear k')
          go_ret
          exact ⟨rfl, T0.out.bl.trans (q1.mono T0.out.bl.size)⟩
        · have hz : Hid (R = false) := by
            cases R
            · rfl
            · exact absurd (hR.1 rfl).2.2.2.1 e3
          have e3' : (n : Int) ≠ (m : Int) := by omega
          clear e3
          clear k hR
          go_enter Try.func11, Try.ntmps11
          go_wp2_with fail
          go_ret
          exact ⟨by rw [hz.out]; rfl, T0.out.bl⟩
      · have hz : Hid (R = false) := by
          cases R
          · rfl
          · exact absurd (hR.1 rfl).2.2.1 e2
        clear k hR
        go_enter Try.func11, Try.ntmps11
        go_wp2_with fail
        go_ret
        exact ⟨by rw [hz.out]; rfl, T0.out.bl⟩
    · have hz : Hid (R = false) := by
        cases R
        · rfl
        · exact absurd (hR.1 rfl).2.1 e1
      clear k hR
      go_enter Try.func11, Try.ntmps11
      go_wp2_with fail
      go_ret
      exact ⟨by rw [hz.out]; rfl, T0.out.bl⟩
  · have hz : Hid (R = false) := by
      cases R
      · rfl
      · exact absurd (hR.1 rfl).1 e0
    clear k hR
    go_enter Try.func11, Try.ntmps11
    go_wp2_with fail
    go_ret
    exact ⟨by rw [hz.out]; rfl, T0.out.bl⟩
set_option maxRecDepth 20000 in
set_option maxHeartbeats 1000000 in
theorem impl_same (w : World) (x0 x1 x2 x4 y0 y1 y2 y4 : Int) (p q p' q' : Option Addr) (n c i d m c' i' d' : Nat) (Z Y : Nat → Int) (R : Bool) (hR : R = true ↔ (x0 = y0 ∧ x1 = y1 ∧ x2 = y2 ∧ n = m ∧ ∀ j, j < n → Z j = Y j)) (ho : RdN w p n Z) (ho' : RdN w p' m Y) (h1 : n ≤ 1048576) (h2 : m ≤ 1048576) :
    Calls Try.prog 14 #[.agg #[.int .i64 x0, .int .i64 x1, .int .i64 x2, .slice p n c, .int .i64 x4, .slice q i d], .agg #[.int .i64 y0, .int .i64 y1, .int .i64 y2, .slice p' m c', .int .i64 y4, .slice q' i' d']] w fun e w' => e = .returned (.bool R) ∧ Below w.heap.size w w' := by
  have T0 : Hid (TE w ((w.alloc (.cells #[.int .i64 x0, .int .i64 x1, .int .i64 x2, .slice p n c, .int .i64 x4, .slice q i d] 27)).alloc (.cells #[.int .i64 y0, .int .i64 y1, .int .i64 y2, .slice p' m c', .int .i64 y4, .slice q' i' d'] 27)) 27 27 (.int .i64 x0) (.int .i64 x1) (.int .i64 x2) (.slice p n c) (.int .i64 x4) (.slice q i d) (.int .i64 y0) (.int .i64 y1) (.int .i64 y2) (.slice p' m c') (.int .i64 y4) (.slice q' i' d')) := TE.made w _ _ _ _ _ _ _ _ _ _ _ _ _ _
  have k : Hid (x0 = y0 → x1 = y1 → x2 = y2 → n = m → Calls Try.prog 17 #[.slice p n c, .slice p' m c'] ((w.alloc (.cells #[.int .i64 x0, .int .i64 x1, .int .i64 x2, .slice p n c, .int .i64 x4, .slice q i d] 27)).alloc (.cells #[.int .i64 y0, .int .i64 y1, .int .i64 y2, .slice p' m c', .int .i64 y4, .slice q' i' d'] 27)) fun e w' => e = .returned (.bool R) ∧ Below ((w.alloc (.cells #[.int .i64 x0, .int .i64 x1, .int .i64 x2, .slice p n c, .int .i64 x4, .slice q i d] 27)).alloc (.cells #[.int .i64 y0, .int .i64 y1, .int .i64 y2, .slice p' m c', .int .i64 y4, .slice q' i' d'] 27)).heap.size ((w.alloc (.cells #[.int .i64 x0, .int .i64 x1, .int .i64 x2, .slice p n c, .int .i64 x4, .slice q i d] 27)).alloc (.cells #[.int .i64 y0, .int .i64 y1, .int .i64 y2, .slice p' m c', .int .i64 y4, .slice q' i' d'] 27)) w') := fun a b c0 e => equal ((w.alloc (.cells #[.int .i64 x0, .int .i64 x1, .int .i64 x2, .slice p n c, .int .i64 x4, .slice q i d] 27)).alloc (.cells #[.int .i64 y0, .int .i64 y1, .int .i64 y2, .slice p' m c', .int .i64 y4, .slice q' i' d'] 27)) p p' n m c c' Z Y R ⟨fun h => ⟨e, (hR.1 h).2.2.2.2⟩, fun h => hR.2 ⟨a, b, c0, h.1, h.2⟩⟩ (ho.later T0.out.bl) (ho'.later T0.out.bl) h1 h2
  have k2 : Hid (¬ n = m → Calls Try.prog 17 #[.slice p n c, .slice p' m c'] ((w.alloc (.cells #[.int .i64 x0, .int .i64 x1, .int .i64 x2, .slice p n c, .int .i64 x4, .slice q i d] 27)).alloc (.cells #[.int .i64 y0, .int .i64 y1, .int .i64 y2, .slice p' m c', .int .i64 y4, .slice q' i' d'] 27)) fun e w' => e = .returned (.bool false) ∧ Below ((w.alloc (.cells #[.int .i64 x0, .int .i64 x1, .int .i64 x2, .slice p n c, .int .i64 x4, .slice q i d] 27)).alloc (.cells #[.int .i64 y0, .int .i64 y1, .int .i64 y2, .slice p' m c', .int .i64 y4, .slice q' i' d'] 27)).heap.size ((w.alloc (.cells #[.int .i64 x0, .int .i64 x1, .int .i64 x2, .slice p n c, .int .i64 x4, .slice q i d] 27)).alloc (.cells #[.int .i64 y0, .int .i64 y1, .int .i64 y2, .slice p' m c', .int .i64 y4, .slice q' i' d'] 27)) w') := fun e => equal ((w.alloc (.cells #[.int .i64 x0, .int .i64 x1, .int .i64 x2, .slice p n c, .int .i64 x4, .slice q i d] 27)).alloc (.cells #[.int .i64 y0, .int .i64 y1, .int .i64 y2, .slice p' m c', .int .i64 y4, .slice q' i' d'] 27)) p p' n m c c' Z Y false ⟨(fun h => nomatch h), fun h => absurd h.1 e⟩ (ho.later T0.out.bl) (ho'.later T0.out.bl) h1 h2
  clear ho ho'
  by_cases e0 : x0 = y0
  · subst e0
    by_cases e1 : x1 = y1
    · subst e1
      by_cases e2 : x2 = y2
      · subst e2
        by_cases e3 : n = m
        · have k' := k.out rfl rfl rfl e3
          subst e3
          clear k k2 hR
          go_enter Try.func14, Try.ntmps14
          go_wp2_with (go_at_call 17; refine k'.mono ?_; rintro e w1 ⟨rfl, q1⟩; clear k')
          go_ret
          exact ⟨rfl, T0.out.bl.trans (q1.mono T0.out.bl.size)⟩
        · have hz : Hid (R = false) := by
            cases R
            · rfl
            · exact absurd (hR.1 rfl).2.2.2.1 e3
          have e3' : (n : Int) ≠ (m : Int) := by omega
          clear e3
          clear hR
          have k' := k2.out (by omega)
          clear k2 k
          rw [hz.out]
          go_enter Try.func14, Try.ntmps14
          go_wp2_with (go_at_call 17; refine k'.mono ?_; rintro e w1 ⟨rfl, q1⟩; clear k')
          go_ret
          exact ⟨rfl, T0.out.bl.trans (q1.mono T0.out.bl.size)⟩
      · have hz : Hid (R = false) := by
          cases R
          · rfl
          · exact absurd (hR.1 rfl).2.2.1 e2
        clear k k2 hR
        go_enter Try.func14, Try.ntmps14
        go_wp2_with fail
        go_ret
        exact ⟨by rw [hz.out]; rfl, T0.out.bl⟩
    · have hz : Hid (R = false) := by
        cases R
        · rfl
        · exact absurd (hR.1 rfl).2.1 e1
      clear k k2 hR
      go_enter Try.func14, Try.ntmps14
      go_wp2_with fail
      go_ret
      exact ⟨by rw [hz.out]; rfl, T0.out.bl⟩
  · have hz : Hid (R = false) := by
      cases R
      · rfl
      · exact absurd (hR.1 rfl).1 e0
    clear k k2 hR
    go_enter Try.func14, Try.ntmps14
    go_wp2_with fail
    go_ret
    exact ⟨by rw [hz.out]; rfl, T0.out.bl⟩
end Go.Proofs.Ytjelpchkeepmhaa.ResFun
