/-
  The law of shapes: in a right shape each begin has its end, and an else lies between.
-/
import Derived.Test.YtpofboimlconeaaDrawTop
import Derived.Test.YtpofboimlconeaaElseCalls
import Derived.Test.YtpofboimlconeaaShapeImpl
namespace Go.Proofs.Ytpofboimlconeaa.ShapeLaw
open Go.RowKit PlainNum NumCalls Draws PlainShape PlainElse InsMem EndCalls ElseCalls ShapeCalls ShapeImpl DrawTop

/-- How many are open behind f steps. -/
def depF (l : List I3) : Nat → Nat → Int → Int
  | 0, _, d => d
  | f + 1, k, d => depF l f (k + 1) (stp d (oAt l k))
theorem stp_lin (d c o : Int) : stp (d + c) o = stp d o + c := by
  unfold stp
  split
  · omega
  · split <;> omega
theorem dep_lin (l : List I3) : ∀ (f k : Nat) (d c : Int), depF l f k (d + c) = depF l f k d + c
  | 0, _, _, _ => rfl
  | f + 1, k, d, c => by
    show depF l f (k + 1) (stp (d + c) (oAt l k)) = depF l f (k + 1) (stp d (oAt l k)) + c
    rw [stp_lin, dep_lin l f]
theorem dep_none {l : List I3} : ∀ (f k : Nat) (d : Int), 0 ≤ d → (1 ≤ d ∨ (d = 0 ∧ bg (oAt l k) = true ∧ 0 < f)) → endF l f k d = -1 → 1 ≤ depF l f k d
  | 0, _, d, _, hd, _ => by
    show 1 ≤ d
    rcases hd with h | ⟨_, _, h⟩
    · exact h
    · omega
  | f + 1, k, d, h0, hd, h => by
    by_cases hz : stp d (oAt l k) = 0
    · rw [endF_yes rfl hz] at h; omega
    · have hg := stp_ge d (oAt l k)
      have h1 : 1 ≤ stp d (oAt l k) := by
        rcases hd with h' | ⟨h', hb, _⟩
        · omega
        · rw [stp_bg hb] at hz ⊢; omega
      rw [endF_no rfl hz] at h
      exact dep_none f (k + 1) _ (by omega) (.inl h1) h
theorem shp_step {l : List I3} {f k : Nat} {st : List Int} (h : shpF l (f + 1) k st = true) : ∃ st', shpF l f (k + 1) st' = true ∧ (st'.length : Int) = stp st.length (oAt l k) := by
  cases hb : bg (oAt l k) with
  | true =>
    rw [shp_bg rfl hb] at h
    exact ⟨_, h, by rw [stp_bg hb, List.length_append, List.length_singleton]; omega⟩
  | false =>
    by_cases h5 : oAt l k = 5
    · by_cases h0 : st.length = 0
      · rw [shp_else0 h5 (.inl h0)] at h; cases h
      · by_cases h4 : st.getD (st.length - 1) 0 = 4
        · rw [shp_else h5 h0 h4] at h
          exact ⟨_, h, by rw [stp_no hb (by rw [h5]; decide), List.length_set]⟩
        · rw [shp_else0 h5 (.inr h4)] at h; cases h
    · by_cases h11 : oAt l k = 11
      · by_cases h0 : st.length = 0
        · rw [shp_end0 h11 h0] at h; cases h
        · rw [shp_end h11 h0] at h
          exact ⟨_, h, by rw [h11, stp_end, List.length_take]; omega⟩
      · rw [shp_no rfl hb h5 h11] at h
        exact ⟨_, h, by rw [stp_no hb h11]⟩
theorem shp_dep {l : List I3} : ∀ (f k : Nat) (st : List Int), shpF l f k st = true → depF l f k st.length = 0
  | 0, _, st, h => by
    have : st.length = 0 := by simpa [shpF] using h
    show (st.length : Int) = 0
    omega
  | f + 1, k, st, h => by
    obtain ⟨st', h1, h2⟩ := shp_step h
    show depF l f (k + 1) (stp st.length (oAt l k)) = 0
    rw [← h2]
    exact shp_dep f (k + 1) st' h1
theorem end_def {l : List I3} {k : Nat} (hk : k < l.length) (hb : bg (oAt l k) = true) : endOf l (k : Int) = endF l (l.length - k) k 0 := by
  unfold endOf
  rw [if_neg (by omega), Int.toNat_natCast, if_neg (by rw [hb]; decide)]
/-- In a right shape a begin has its end, behind it. -/
theorem begin_end {l : List I3} {f k : Nat} {st : List Int} (hk : k + (f + 1) = l.length) (hb : bg (oAt l k) = true) (h : shpF l (f + 1) k st = true) : (k : Int) < endOf l (k : Int) := by
  rw [end_def (by omega) hb, show l.length - k = f + 1 by omega]
  have hs : stp 0 (oAt l k) = 1 := stp_bg hb
  rcases endF_le (l := l) (f + 1) k 0 with h1 | ⟨m, h1, _, _⟩
  · have e1 := dep_none (f + 1) k 0 (by omega) (.inr ⟨rfl, hb, by omega⟩) h1
    have e2 := shp_dep (f + 1) k st h
    have e3 := dep_lin l (f + 1) k 0 (st.length : Int)
    rw [Int.zero_add, e2] at e3
    omega
  · rw [endF_no hs (by decide)] at h1 ⊢
    rcases endF_le (l := l) f (k + 1) 1 with h2 | ⟨m', h2, h3, _⟩
    · rw [h2] at h1; omega
    · rw [h2]; omega
theorem no_end {l : List I3} {k : Nat} (hk : k < l.length) (hb : bg (oAt l k) = false) : endOf l (k : Int) = -1 := by
  unfold endOf
  rw [if_neg (by omega), Int.toNat_natCast, if_pos hb]
theorem elsF_le {l : List I3} : ∀ (f k : Nat) (d : Int), elsF l f k d = -1 ∨ ∃ j : Nat, elsF l f k d = (j : Int) ∧ k ≤ j ∧ j < k + f ∧ oAt l j = 5
  | 0, _, _ => .inl rfl
  | f + 1, k, d => by
    by_cases h : oAt l k = 5 ∧ stp d (oAt l k) = 1
    · exact .inr ⟨k, by rw [elsF, if_pos h], by omega, by omega, h.1⟩
    · rw [elsF_no rfl h]
      rcases elsF_le (l := l) f (k + 1) (stp d (oAt l k)) with h1 | ⟨j, h1, h2, h3, h4⟩
      · exact .inl h1
      · exact .inr ⟨j, h1, by omega, by omega, h4⟩
/-- An else lies between. -/
theorem else_between {l : List I3} {k : Nat} : elseOf l (k : Int) = -1 ∨ (oAt l k = 4 ∧ (k : Int) < elseOf l (k : Int) ∧ elseOf l (k : Int) < endOf l (k : Int)) := by
  unfold elseOf
  by_cases h0 : endOf l (k : Int) < 0
  · rw [if_pos h0]; exact .inl rfl
  · rw [if_neg h0, Int.toNat_natCast]
    by_cases h4 : oAt l k = 4
    · rw [if_pos h4]
      rcases elsF_le (l := l) ((endOf l (k : Int)).toNat - k) k 0 with h1 | ⟨j, h1, h2, h3, h5⟩
      · exact .inl h1
      · refine .inr ⟨h4, ?_, ?_⟩
        · rw [h1]
          have : k ≠ j := fun e => by rw [← e, h4] at h5; omega
          omega
        · rw [h1]; omega
    · rw [if_neg h4]; exact .inl rfl
set_option maxRecDepth 20000 in
set_option maxHeartbeats 16000000 in
theorem fnShape (a : Option Addr) (len cap : Nat) (w : World) (hs : Src w.heap.size w a len) :
    Calls Try.prog 3 #[.slice a len cap] w fun e w' => e = .returned (.bool true) ∧ Below w.heap.size w w' := by
  have hl63 := hs.1
  by_cases hbig : (1048576 : Int) < (len : Int)
  · go_enter Try.func3, Try.ntmps3
    go_wp2_with fail
    go_ret
    exact ⟨rfl, Below.refl _ _⟩
  · have hs' : Hid (Src w.heap.size w a len) := hs
    clear hs
    go_enter Try.func3, Try.ntmps3
    go_wp2_with (go_at_call 5; refine (drawShape hs'.out (Nat.le_refl _) (Below.refl _ _)).mono ?_; rintro e w1 ⟨a2, c2, l, rfl, r1, hl, b1⟩)
    have h1 : Hid (∀ u, RdI u a2 l → Calls Try.prog 6 #[.slice a2 l.length c2] u fun e w' => e = .returned (.bool (shapeOk l)) ∧ Below u.heap.size u w') := fun u hr => impl_shapeOk u a2 c2 l hr (by omega)
    have h2 : Hid (∀ u, RdI u a2 l → Calls Try.prog 7 #[.slice a2 l.length c2] u fun e w' => e = .returned (.bool (shapeOk l)) ∧ Below u.heap.size u w') := fun u hr => spec_shapeOk u a2 c2 l hr (by omega)
    cases hR : shapeOk l with
    | false =>
      rw [hR] at h1 h2
      clear hR
      go_wp2_with (first | (go_at_call 6; refine (h1.out _ r1).mono ?_; rintro e w2 ⟨rfl, q2⟩; have r2 := r1.later q2; have b2 := b1.trans (q2.mono b1.size)) | (go_at_call 7; refine (h2.out _ r2).mono ?_; rintro e w3 ⟨rfl, q3⟩; have b3 := b2.trans (q3.mono b2.size)))
      go_ret
      exact ⟨rfl, b3⟩
    | true =>
      have hF : Hid (shpF l l.length 0 [] = true) := hR
      rw [hR] at h1 h2
      clear hR
      go_wp2_with (first | (go_at_call 6; refine (h1.out _ r1).mono ?_; rintro e w2 ⟨rfl, q2⟩; have r2 := r1.later q2; have b2 := b1.trans (q2.mono b1.size)) | (go_at_call 7; refine (h2.out _ r2).mono ?_; rintro e w3 ⟨rfl, q3⟩; have r3 : Hid (RdI w3 a2 l) := r2.later q3; have b3 : Hid (Below w.heap.size w w3) := b2.trans (q3.mono b2.size)))
      clear h1 h2 r1 r2 b1 b2 q2 q3
      go_loopw [5, 26] (fun ve vk wr => ∃ (k f : Nat) (st : List Int), k + f = l.length ∧ vk = .int .i64 k ∧ ve = .int .i64 (st.length : Int) ∧ st.length ≤ k ∧ shpF l f k st = true ∧ Below w3.heap.size w3 wr) (fun _ vk _ => l.length - (intOf vk).toNat)
      case atStart => exact ⟨0, l.length, [], by omega, rfl, rfl, Nat.le_refl _, hF.out, Below.refl _ _⟩
      case round =>
        obtain ⟨k, f, st, hk, rfl, rfl, hst, hsh, hb⟩ := hrel
        clear hF
        by_cases hlt : k < l.length
        · have hlt' : (k : Int) < (l.length : Int) := by omega
          obtain ⟨f, rfl⟩ : ∃ j, f = j + 1 := ⟨f - 1, by omega⟩
          have hE : Hid (∀ u, RdI u a2 l → Calls Try.prog 8 #[.slice a2 l.length c2, .int .i64 (k : Int)] u fun e w' => e = .returned (.int .i64 (endOf l (k : Int))) ∧ u = w') := fun u hr => impl_endOf u a2 c2 l (k : Int) hr (by omega)
          have hX : Hid (∀ u, RdI u a2 l → Calls Try.prog 9 #[.slice a2 l.length c2, .int .i64 (k : Int)] u fun e w' => e = .returned (.int .i64 (elseOf l (k : Int))) ∧ u = w') := fun u hr => impl_elseOf u a2 c2 l (k : Int) hr (by omega)
          obtain ⟨st', hs1', hs2⟩ := shp_step hsh
          have hs1 : Hid (shpF l f (k + 1) st' = true) := hs1'
          have hbe : Hid (bg (oAt l k) = true → (k : Int) < endOf l (k : Int)) := fun hbg => begin_end hk hbg hsh
          have hne : Hid (bg (oAt l k) = false → endOf l (k : Int) = -1) := fun hbg => no_end hlt hbg
          have hel := else_between (l := l) (k := k)
          have hsz := hb.size
          have r4 := r3.out.later hb
          rcases r4 with h0 | ⟨b, off, ha, hc⟩
          · omega
          · obtain ⟨c0, c1, c2'⟩ := hc k hlt
            subst ha
            have rA : Hid (RdI (wr.alloc (.cells #[.int .i64 (oAt l k), .int .i64 (aAt l k), .int .i64 (bAt l k)] 27)) (some ⟨b, off, none⟩) l) := (r3.out.later hb).later ((Below.refl _ _).alloc (Nat.le_refl _) _)
            have bA : Hid (Below w3.heap.size w3 (wr.alloc (.cells #[.int .i64 (oAt l k), .int .i64 (aAt l k), .int .i64 (bAt l k)] 27))) := hb.alloc hsz _
            clear hc hb hsh hs1'
            generalize endOf l (k : Int) = E at *
            generalize elseOf l (k : Int) = X at *
            generalize oAt l k = o at *
            generalize aAt l k = x1 at *
            generalize bAt l k = x2 at *
            cases hbo : bg o with
            | true =>
              have hE1 := hbe.out hbo
              have hE0 : 0 ≤ E := by omega
              rw [stp_bg hbo] at hs2
              clear hbe hne
              rcases (bg_cases o).1 hbo with rfl | rfl | rfl
              · obtain rfl : X = -1 := by
                  rcases hel with h | ⟨h, _⟩
                  · exact h
                  · cases h
                clear hel hbo
                go_wp2_with (first | (go_at_call 8; refine (hE.out _ rA.out).mono ?_; rintro e w' ⟨rfl, rfl⟩) | (go_at_call 9; refine (hX.out _ rA.out).mono ?_; rintro e w' ⟨rfl, rfl⟩))
                go_roundw
                case rel => exact ⟨k + 1, f, st', by omega, by go_num, by rw [hs2], by omega, hs1.out, bA.out⟩
                case measure => first | (simp [intOf]; omega) | simp [intOf]
              · obtain rfl : X = -1 := by
                  rcases hel with h | ⟨h, _⟩
                  · exact h
                  · cases h
                clear hel hbo
                go_wp2_with (first | (go_at_call 8; refine (hE.out _ rA.out).mono ?_; rintro e w' ⟨rfl, rfl⟩) | (go_at_call 9; refine (hX.out _ rA.out).mono ?_; rintro e w' ⟨rfl, rfl⟩))
                go_roundw
                case rel => exact ⟨k + 1, f, st', by omega, by go_num, by rw [hs2], by omega, hs1.out, bA.out⟩
                case measure => first | (simp [intOf]; omega) | simp [intOf]
              · rcases hel with rfl | ⟨_, hX1, hX2⟩
                · clear hbo
                  go_wp2_with (first | (go_at_call 8; refine (hE.out _ rA.out).mono ?_; rintro e w' ⟨rfl, rfl⟩) | (go_at_call 9; refine (hX.out _ rA.out).mono ?_; rintro e w' ⟨rfl, rfl⟩))
                  go_roundw
                  case rel => exact ⟨k + 1, f, st', by omega, by go_num, by rw [hs2], by omega, hs1.out, bA.out⟩
                  case measure => first | (simp [intOf]; omega) | simp [intOf]
                · have hX0 : 0 ≤ X := by omega
                  have n1 : ¬ X ≤ (k : Int) := by omega
                  have n2 : ¬ E ≤ X := by omega
                  clear hbo
                  go_wp2_with (first | (go_at_call 8; refine (hE.out _ rA.out).mono ?_; rintro e w' ⟨rfl, rfl⟩) | (go_at_call 9; refine (hX.out _ rA.out).mono ?_; rintro e w' ⟨rfl, rfl⟩))
                  go_roundw
                  case rel => exact ⟨k + 1, f, st', by omega, by go_num, by rw [hs2], by omega, hs1.out, bA.out⟩
                  case measure => first | (simp [intOf]; omega) | simp [intOf]
            | false =>
              obtain rfl : E = -1 := hne.out hbo
              have nb2 : (o == 2) = false := by cases h : (o == 2) <;> simp_all [bg]
              have nb3 : (o == 3) = false := by cases h : (o == 3) <;> simp_all [bg]
              have nb4 : (o == 4) = false := by cases h : (o == 4) <;> simp_all [bg]
              obtain rfl : X = -1 := by
                rcases hel with h | ⟨h, _⟩
                · exact h
                · rw [h] at nb4; cases nb4
              have hk1 : ¬ (k : Int) < -1 := by omega
              clear hbe hne hel
              by_cases h11 : o = 11
              · rw [h11, stp_end] at hs2
                subst h11
                clear hbo
                go_wp2_with (first | (go_at_call 8; refine (hE.out _ rA.out).mono ?_; rintro e w' ⟨rfl, rfl⟩) | (go_at_call 9; refine (hX.out _ rA.out).mono ?_; rintro e w' ⟨rfl, rfl⟩))
                go_roundw
                case rel => exact ⟨k + 1, f, st', by omega, by go_num, by rw [hs2], by omega, hs1.out, bA.out⟩
                case measure => first | (simp [intOf]; omega) | simp [intOf]
              · rw [stp_no hbo h11] at hs2
                have n11 : (o == 11) = false := by simp [h11]
                clear hbo h11
                go_wp2_with (first | (go_at_call 8; refine (hE.out _ rA.out).mono ?_; rintro e w' ⟨rfl, rfl⟩) | (go_at_call 9; refine (hX.out _ rA.out).mono ?_; rintro e w' ⟨rfl, rfl⟩))
                go_roundw
                case rel => exact ⟨k + 1, f, st', by omega, by go_num, by rw [hs2], by omega, hs1.out, bA.out⟩
                case measure => first | (simp [intOf]; omega) | simp [intOf]
        · obtain rfl : k = l.length := by omega
          obtain rfl : f = 0 := by omega
          have h0 : st.length = 0 := by simpa [shpF] using hsh
          have b4 : Hid (Below w.heap.size w wr) := b3.out.trans (hb.mono b3.out.size)
          clear hsh hb
          go_wp2_with fail
          go_ret
          exact ⟨by simp [h0], b4.out⟩
end Go.Proofs.Ytpofboimlconeaa.ShapeLaw
