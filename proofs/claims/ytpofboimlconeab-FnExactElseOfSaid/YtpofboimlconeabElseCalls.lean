/-
  What ElseOf answers when it is called, the specification's and the program's, and the walk of its exact law.
-/
import Derived.Test.YtpofboimlconeabEndCalls
import Derived.Test.YtpofboimlconeabPlainElse
namespace Go.Proofs.Ytpofboimlconeab.ElseCalls
open Go.RowKit PlainShape PlainElse InsMem EndCalls

theorem endOf_in {l : List I3} {at' : Int} (h : ¬ endOf l at' < 0) : ∃ k0 e : Nat, at' = (k0 : Int) ∧ endOf l at' = (e : Int) ∧ k0 < l.length := by
  by_cases hout : at' < 0 ∨ (l.length : Int) ≤ at'
  · have : endOf l at' = -1 := if_pos hout
    omega
  · exact ⟨at'.toNat, (endOf l at').toNat, by omega, by omega, by omega⟩
set_option maxHeartbeats 8000000 in
theorem spec_elseOf (w : World) (a : Option Addr) (cap : Nat) (l : List I3) (at' : Int) (h : RdI w a l) (hn : l.length ≤ 1048576) :
    Calls Try.prog 6 #[.slice a l.length cap, .int .i64 at'] w fun e w' => e = .returned (.int .i64 (elseOf l at')) ∧ w = w' := by
  have hE : Hid _ := fun u hr => spec_endOf u a cap l at' hr hn
  by_cases hneg : endOf l at' < 0
  · have hf : Hid (elseOf l at' = -1) := if_pos hneg
    have h' : Hid (RdI w a l) := h
    clear h
    generalize endOf l at' = e at *
    go_enter Try.func6, Try.ntmps6
    go_wp2_with (go_at_call 12; refine (hE.out _ h'.out).mono ?_; rintro e w' ⟨rfl, rfl⟩)
    all_goals (go_ret; exact ⟨by rw [hf.out]; rfl, rfl⟩)
  · obtain ⟨k0, e, rfl, he, hk0⟩ := endOf_in hneg
    have hk0' : (k0 : Int) < (l.length : Int) := by omega
    have h' : Hid (RdI w a l) := h
    have hdef : elseOf l (k0 : Int) = if oAt l k0 = 4 then elsF l (e - k0) k0 0 else -1 := by
      unfold elseOf
      rw [if_neg hneg, he, Int.toNat_natCast, Int.toNat_natCast]
    rcases h with h0 | ⟨b, off, ha, hc⟩
    · omega
    · have c0 := (hc k0 hk0).1
      have hc' : Hid (∀ j, j < l.length → w.cell? ⟨b, off + j * 3, none⟩ = some (.int .i64 (oAt l j))) := fun j hj => (hc j hj).1
      subst ha
      clear hc hneg
      by_cases h4 : oAt l k0 = 4
      · have hf1 := first hk0 h4 he
        have hel : e < l.length := hf1.2.1
        have hke : k0 < e := hf1.1
        obtain ⟨R, hR⟩ : ∃ R, elseOf l (k0 : Int) = R := ⟨_, rfl⟩
        have hF : Hid (elsF l (e - k0) k0 0 = R) := ((hdef.trans (if_pos h4)).symm).trans hR
        rw [hR]
        rw [he] at hE
        rw [h4] at c0
        clear hdef hR h4 hf1 he
        go_enter Try.func6, Try.ntmps6
        go_wp2_with (go_at_call 12; refine (hE.out _ h'.out).mono ?_; rintro e w' ⟨rfl, rfl⟩)
        clear c0
        go_loopw [6, 7] (fun vd vk wr => ∃ (k f : Nat) (d : Int), w = wr ∧ k + f = e ∧ vk = .int .i64 k ∧ vd = .int .i64 d ∧ elsF l f k d = R ∧ -(k : Int) ≤ d ∧ d ≤ k) (fun _ vk _ => e - (intOf vk).toNat)
        case atStart => exact ⟨k0, e - k0, 0, rfl, by omega, rfl, rfl, hF.out, by omega, by omega⟩
        case round =>
          obtain ⟨k, f, d, rfl, hk, rfl, rfl, hr, hd0, hdk⟩ := hrel
          have hr' : Hid (elsF l f k d = R) := hr
          clear hr hF hE
          by_cases hlt : k < e
          · have hlt' : (k : Int) < (e : Int) := by omega
            obtain ⟨f, rfl⟩ : ∃ j, f = j + 1 := ⟨f - 1, by omega⟩
            have c1 := hc'.out k (by omega)
            have hbc : Hid _ := fun u => spec_begins (oAt l k) u
            have hy : Hid (oAt l k = 5 → d = 1 → elsF l (f + 1) k d = (k : Int)) := fun h1 h2 => elsF_yes h1 h2
            have hno : Hid (∀ d', stp d (oAt l k) = d' → ¬ (oAt l k = 5 ∧ d' = 1) → elsF l (f + 1) k d = elsF l f (k + 1) d') := fun d' h1 h2 => elsF_no h1 h2
            generalize oAt l k = o at c1 hbc hy hno
            cases hb : bg o with
            | true =>
              rw [hb] at hbc
              have n11 : o ≠ 11 := bg_ne hb
              have n5 : o ≠ 5 := by intro e'; subst e'; cases hb
              have e1 : Hid (elsF l (f + 1) k d = elsF l f (k + 1) (d + 1)) := hno.out _ (stp_bg hb) (fun h => n5 h.1)
              clear hy hno hb
              go_wp2_with (first | (go_at_call 13; refine (hbc.out _).mono ?_; rintro e w' ⟨rfl, rfl⟩))
              go_roundw
              case rel => exact ⟨k + 1, f, d + 1, trivial, by omega, by go_num, by go_num, by rw [← e1.out]; exact hr'.out, by omega, by omega⟩
              case measure => simp [intOf]; omega
            | false =>
              rw [hb] at hbc
              by_cases h11 : o = 11
              · subst h11
                have e1 : Hid (elsF l (f + 1) k d = elsF l f (k + 1) (d - 1)) := hno.out _ stp_end (fun h => by omega)
                clear hy hno hb
                go_wp2_with (first | (go_at_call 13; refine (hbc.out _).mono ?_; rintro e w' ⟨rfl, rfl⟩))
                go_roundw
                case rel => exact ⟨k + 1, f, d - 1, trivial, by omega, by go_num, by go_num, by rw [← e1.out]; exact hr'.out, by omega, by omega⟩
                case measure => simp [intOf]; omega
              · by_cases h5 : o = 5
                · subst h5
                  by_cases hz : d = 1
                  · subst hz
                    have e1 : Hid (elsF l (f + 1) k 1 = (k : Int)) := hy.out rfl rfl
                    clear hy hno hb
                    go_wp2_with (first | (go_at_call 13; refine (hbc.out _).mono ?_; rintro e w' ⟨rfl, rfl⟩))
                    go_ret
                    exact ⟨by rw [← hr'.out, e1.out]; rfl, rfl⟩
                  · have e1 : Hid (elsF l (f + 1) k d = elsF l f (k + 1) d) := hno.out _ (stp_no hb h11) (fun h => hz h.2)
                    clear hy hno hb
                    go_wp2_with (first | (go_at_call 13; refine (hbc.out _).mono ?_; rintro e w' ⟨rfl, rfl⟩))
                    go_roundw
                    case rel => exact ⟨k + 1, f, d, trivial, by omega, by go_num, by go_num, by rw [← e1.out]; exact hr'.out, by omega, by omega⟩
                    case measure => simp [intOf]; omega
                · have e1 : Hid (elsF l (f + 1) k d = elsF l f (k + 1) d) := hno.out _ (stp_no hb h11) (fun h => h5 h.1)
                  clear hy hno hb
                  go_wp2_with (first | (go_at_call 13; refine (hbc.out _).mono ?_; rintro e w' ⟨rfl, rfl⟩))
                  go_roundw
                  case rel => exact ⟨k + 1, f, d, trivial, by omega, by go_num, by go_num, by rw [← e1.out]; exact hr'.out, by omega, by omega⟩
                  case measure => simp [intOf]; omega
          · obtain rfl : k = e := by omega
            obtain rfl : f = 0 := by omega
            go_wp2_with fail
            go_ret
            exact ⟨by rw [← hr'.out]; rfl, rfl⟩
      · have hf : Hid (elseOf l (k0 : Int) = -1) := hdef.trans (if_neg h4)
        rw [he] at hE
        have hge : ¬ (e : Int) < 0 := by omega
        clear hdef he hc'
        generalize oAt l k0 = o at *
        have h4' : (o != 4) = true := by simp [h4]
        clear h4
        go_enter Try.func6, Try.ntmps6
        go_wp2_with (go_at_call 12; refine (hE.out _ h'.out).mono ?_; rintro e w' ⟨rfl, rfl⟩)
        all_goals (go_ret; exact ⟨by rw [hf.out]; rfl, rfl⟩)
set_option maxHeartbeats 8000000 in
theorem impl_elseOf (w : World) (a : Option Addr) (cap : Nat) (l : List I3) (at' : Int) (h : RdI w a l) (hn : l.length ≤ 1048576) :
    Calls Try.prog 8 #[.slice a l.length cap, .int .i64 at'] w fun e w' => e = .returned (.int .i64 (elseOf l at')) ∧ w = w' := by
  have hE : Hid _ := fun u hr => impl_endOf u a cap l at' hr hn
  by_cases hneg : endOf l at' < 0
  · have hf : Hid (elseOf l at' = -1) := if_pos hneg
    have h' : Hid (RdI w a l) := h
    clear h
    generalize endOf l at' = e at *
    go_enter Try.func8, Try.ntmps8
    go_wp2_with (go_at_call 15; refine (hE.out _ h'.out).mono ?_; rintro e w' ⟨rfl, rfl⟩)
    all_goals (go_ret; exact ⟨by rw [hf.out]; rfl, rfl⟩)
  · obtain ⟨k0, e, rfl, he, hk0⟩ := endOf_in hneg
    have hk0' : (k0 : Int) < (l.length : Int) := by omega
    have h' : Hid (RdI w a l) := h
    have hdef : elseOf l (k0 : Int) = if oAt l k0 = 4 then elsF l (e - k0) k0 0 else -1 := by
      unfold elseOf
      rw [if_neg hneg, he, Int.toNat_natCast, Int.toNat_natCast]
    rcases h with h0 | ⟨b, off, ha, hc⟩
    · omega
    · have c0 := (hc k0 hk0).1
      have hc' : Hid (∀ j, j < l.length → w.cell? ⟨b, off + j * 3, none⟩ = some (.int .i64 (oAt l j))) := fun j hj => (hc j hj).1
      subst ha
      clear hc hneg
      by_cases h4 : oAt l k0 = 4
      · obtain ⟨hke, hel, hg1, hg2⟩ := first hk0 h4 he
        obtain ⟨R, hR⟩ : ∃ R, elseOf l (k0 : Int) = R := ⟨_, rfl⟩
        have hF : Hid (elsF l (e - (k0 + 1)) (k0 + 1) 1 = R) := hg2.symm.trans (((hdef.trans (if_pos h4)).symm).trans hR)
        have hG : Hid (endF l (l.length - (k0 + 1)) (k0 + 1) 1 = (e : Int)) := hg1
        rw [hR]
        rw [he] at hE
        rw [h4] at c0
        clear hdef hR h4 he hg1 hg2
        go_enter Try.func8, Try.ntmps8
        go_wp2_with (go_at_call 15; refine (hE.out _ h'.out).mono ?_; rintro e w' ⟨rfl, rfl⟩)
        clear c0
        go_loopw [6] (fun vk wr => ∃ (k : Nat), w = wr ∧ k ≤ e ∧ vk = .int .i64 k ∧ elsF l (e - k) k 1 = R ∧ endF l (l.length - k) k 1 = (e : Int)) (fun vk _ => e - (intOf vk).toNat)
        case atStart => exact ⟨k0 + 1, rfl, by omega, by go_num, hF.out, hG.out⟩
        case round =>
          obtain ⟨k, rfl, hk, rfl, hr, hg⟩ := hrel
          have hr' : Hid (elsF l (e - k) k 1 = R) := hr
          have hg' : Hid (endF l (l.length - k) k 1 = (e : Int)) := hg
          clear hr hF hE hG hg
          by_cases hlt : k < e
          · have hlt' : (k : Int) < (e : Int) := by omega
            have hkl' : (k : Int) < (l.length : Int) := by omega
            have c1 := hc'.out k (by omega)
            have hbc : Hid _ := fun u => impl_begins (oAt l k) u
            by_cases h5 : oAt l k = 5
            · have e1 : Hid (elsF l (e - k) k 1 = (k : Int)) := by
                show elsF l (e - k) k 1 = (k : Int)
                rw [show e - k = (e - k - 1) + 1 by omega]
                exact elsF_yes h5 rfl
              rw [h5] at c1
              clear h5 hbc
              go_wp2_with fail
              go_ret
              exact ⟨by rw [← hr'.out, e1.out]; rfl, rfl⟩
            · cases hb : bg (oAt l k) with
              | true =>
                obtain ⟨m, hm, hkm, hme, q1, q2⟩ := pass hlt hel hb hg'.out
                have q1' : Hid _ := q1
                have q2' : Hid _ := q2
                have hE2 : Hid _ := fun u hr => impl_endOf u (some ⟨b, off, none⟩) cap l (k : Int) hr hn
                rw [hm] at hE2
                rw [hb] at hbc
                clear hm q1 q2 hb
                generalize oAt l k = o at c1 hbc h5
                go_wp2_with (first | (go_at_call 16; refine (hbc.out _).mono ?_; rintro e w' ⟨rfl, rfl⟩) | (go_at_call 15; refine (hE2.out _ h'.out).mono ?_; rintro e w' ⟨rfl, rfl⟩))
                go_roundw
                case rel => exact ⟨m + 1, trivial, by omega, by go_num, by rw [← q2'.out]; exact hr'.out, q1'.out⟩
                case measure => simp [intOf]; omega
              | false =>
                obtain ⟨q1, q2⟩ := pass1 hlt hel hb h5 hg'.out
                have q1' : Hid _ := q1
                have q2' : Hid _ := q2
                rw [hb] at hbc
                clear q1 q2 hb
                generalize oAt l k = o at c1 hbc h5
                go_wp2_with (first | (go_at_call 16; refine (hbc.out _).mono ?_; rintro e w' ⟨rfl, rfl⟩))
                go_roundw
                case rel => exact ⟨k + 1, trivial, by omega, by go_num, by rw [← q2'.out]; exact hr'.out, q1'.out⟩
                case measure => simp [intOf]; omega
          · obtain rfl : k = e := by omega
            have hz : Hid (elsF l (k - k) k 1 = -1) := by
              show elsF l (k - k) k 1 = -1
              rw [Nat.sub_self]; rfl
            go_wp2_with fail
            go_ret
            exact ⟨by rw [← hr'.out, hz.out]; rfl, rfl⟩
      · have hf : Hid (elseOf l (k0 : Int) = -1) := hdef.trans (if_neg h4)
        rw [he] at hE
        have hge : ¬ (e : Int) < 0 := by omega
        clear hdef he hc'
        generalize oAt l k0 = o at *
        have h4' : (o != 4) = true := by simp [h4]
        clear h4
        go_enter Try.func8, Try.ntmps8
        go_wp2_with (go_at_call 15; refine (hE.out _ h'.out).mono ?_; rintro e w' ⟨rfl, rfl⟩)
        all_goals (go_ret; exact ⟨by rw [hf.out]; rfl, rfl⟩)
set_option maxHeartbeats 4000000 in
theorem fnExactElseOf (a : Option Addr) (cap : Nat) (l : List I3) (at' : Int) (w : World) (h : RdI w a l) (hl : l.length ≤ 9223372036854775807) :
    Calls Try.prog 3 #[.slice a l.length cap, .int .i64 at'] w fun e w' => e = .returned (.bool true) ∧ Below w.heap.size w w' := by
  have hs : Hid _ := fun u => szInsS a l.length cap u hl
  by_cases hbig : l.length ≤ 1048576
  · have hlt : ¬ (1048576 - (l.length : Int)) < 0 := by omega
    rw [if_pos hbig] at hs
    have hc : Hid _ := fun u hb => copyI w u a cap l h hbig hb
    have h1 : Hid _ := fun u g => spec_elseOf u (some ⟨g, 0, none⟩) l.length l at'
    have h2 : Hid _ := fun u g => impl_elseOf u (some ⟨g, 0, none⟩) l.length l at'
    have h3 : Hid _ := fun u g g' => eqInsS u (some ⟨g, 0, none⟩) (some ⟨g', 0, none⟩) l.length l.length l
    generalize elseOf l at' = R at h1 h2
    go_enter Try.func3, Try.ntmps3
    go_wp2_with (go_at_call 5; refine (hs.out _).mono ?_; rintro e w0 ⟨rfl, rfl⟩)
    go_wp2_with (go_at_call 7; refine (hc.out _ (Below.refl _ _)).mono ?_; rintro e w1 ⟨g1, rfl, r1, _, b1⟩)
    go_wp2_with (go_at_call 6; refine (h1.out _ _ r1 hbig).mono ?_; rintro e w2 ⟨rfl, rfl⟩)
    go_wp2_with (go_at_call 7; refine (hc.out _ b1).mono ?_; rintro e w2 ⟨g2, rfl, r2, _, b2⟩)
    go_wp2_with (go_at_call 8; refine (h2.out _ _ r2 hbig).mono ?_; rintro e w3 ⟨rfl, rfl⟩)
    go_wp2_with (go_at_call 7; refine (hc.out _ b2).mono ?_; rintro e w3 ⟨g3, rfl, r3, c3, b3⟩)
    go_wp2_with (go_at_call 9; refine (h3.out _ _ _ (r2.later c3) r3 (by omega)).mono ?_; rintro e w4 ⟨rfl, b4⟩)
    go_ret
    exact ⟨rfl, b3.trans (b4.mono b3.size)⟩
  · rw [if_neg hbig] at hs
    go_enter Try.func3, Try.ntmps3
    go_wp2_with (go_at_call 5; refine (hs.out _).mono ?_; rintro e w0 ⟨rfl, rfl⟩)
    go_ret
    exact ⟨rfl, Below.refl _ _⟩
end Go.Proofs.Ytpofboimlconeab.ElseCalls
