/-
  What EndOf answers when it is called, the specification's and the program's.
-/
import Derived.Test.YtpofboimlconeaaInsMem
namespace Go.Proofs.Ytpofboimlconeaa.EndCalls
open Go.RowKit PlainShape InsMem
set_option maxHeartbeats 4000000 in
theorem impl_endOf (w : World) (a : Option Addr) (cap : Nat) (l : List I3) (at' : Int) (h : RdI w a l) (hn : l.length ≤ 1048576) :
    Calls Try.prog 8 #[.slice a l.length cap, .int .i64 at'] w fun e w' => e = .returned (.int .i64 (endOf l at')) ∧ w = w' := by
  by_cases hout : at' < 0 ∨ (l.length : Int) ≤ at'
  · have hf : Hid (endOf l at' = -1) := if_pos hout
    rcases hout with hout | hout
    · go_enter Try.func8, Try.ntmps8
      go_wp2_with fail
      all_goals (go_ret; exact ⟨by rw [hf.out]; rfl, rfl⟩)
    · have hge : ¬ at' < 0 := by omega
      go_enter Try.func8, Try.ntmps8
      go_wp2_with fail
      all_goals (go_ret; exact ⟨by rw [hf.out]; rfl, rfl⟩)
  · have hdef' : endOf l at' = if bg (oAt l at'.toNat) = false then -1 else endF l (l.length - at'.toNat) at'.toNat 0 := if_neg hout
    obtain ⟨k0, rfl⟩ : ∃ k : Nat, at' = (k : Int) := ⟨at'.toNat, by omega⟩
    rw [Int.toNat_natCast] at hdef'
    have hk0 : k0 < l.length := by omega
    have hk0' : (k0 : Int) < (l.length : Int) := by omega
    clear hout
    rcases h with h0 | ⟨b, off, ha, hc⟩
    · omega
    · have c0 := (hc k0 hk0).1
      have hc' : Hid (∀ j, j < l.length → w.cell? ⟨b, off + j * 3, none⟩ = some (.int .i64 (oAt l j))) := fun j hj => (hc j hj).1
      clear hc
      subst ha
      cases hb0 : bg (oAt l k0) with
      | false =>
        have hf : Hid (endOf l (k0 : Int) = -1) := hdef'.trans (if_pos hb0)
        have hbc : Hid _ := fun u => impl_begins (oAt l k0) u
        rw [hb0] at hbc
        clear hdef' hb0
        generalize oAt l k0 = o at *
        go_enter Try.func8, Try.ntmps8
        go_wp2_with (first | (go_at_call 17; refine (hbc.out _).mono ?_; rintro e w' ⟨rfl, rfl⟩))
        go_ret
        exact ⟨by rw [hf.out]; rfl, rfl⟩
      | true =>
        have hf : Hid (endOf l (k0 : Int) = endF l (l.length - k0) k0 0) := hdef'.trans (if_neg (by rw [hb0]; decide))
        obtain ⟨R, hR⟩ : ∃ R, endOf l (k0 : Int) = R := ⟨_, rfl⟩
        have hF : Hid (endF l (l.length - k0) k0 0 = R) := hf.out.symm.trans hR
        rw [hR]
        have hbc : Hid _ := fun u => impl_begins (oAt l k0) u
        rw [hb0] at hbc
        have hbh : Hid (bg (oAt l k0) = true) := hb0
        clear hdef' hb0 hf hR
        obtain ⟨o0, ho0⟩ : ∃ o, oAt l k0 = o := ⟨_, rfl⟩
        rw [ho0] at c0 hbc
        clear ho0
        go_enter Try.func8, Try.ntmps8
        go_wp2_with (first | (go_at_call 17; refine (hbc.out _).mono ?_; rintro e w' ⟨rfl, rfl⟩))
        clear c0 hbc
        simp only [show decide ((k0 : Int) < 0) = false from decide_eq_false (by omega), show decide (l.length ≤ k0) = false from decide_eq_false (by omega), Bool.or_self]
        go_loopw [5, 6] (fun vd vk wr => ∃ (k f : Nat) (d : Int), w = wr ∧ k + f = l.length ∧ vk = .int .i64 k ∧ vd = .int .i64 d ∧ endF l f k d = R ∧ 0 ≤ d ∧ d ≤ k ∧ (1 ≤ d ∨ k = k0)) (fun _ vk _ => l.length - (intOf vk).toNat)
        case atStart => exact ⟨k0, l.length - k0, 0, rfl, by omega, rfl, rfl, hF.out, by omega, by omega, .inr rfl⟩
        case round =>
          obtain ⟨k, f, d, rfl, hk, rfl, rfl, hr, hd0, hdk, hd1⟩ := hrel
          have hr' : Hid (endF l f k d = R) := hr
          clear hr hF
          by_cases hlt : k < l.length
          · have hlt' : (k : Int) < (l.length : Int) := by omega
            obtain ⟨f, rfl⟩ : ∃ j, f = j + 1 := ⟨f - 1, by omega⟩
            have c1 := hc'.out k hlt
            have hst : Hid (k = k0 → bg (oAt l k) = true) := fun e => by rw [e]; exact hbh.out
            have hbc : Hid _ := fun u => impl_begins (oAt l k) u
            have hy : Hid (∀ d', stp d (oAt l k) = d' → d' = 0 → endF l (f + 1) k d = (k : Int)) := fun d' h1 h2 => endF_yes h1 h2
            have hno : Hid (∀ d', stp d (oAt l k) = d' → d' ≠ 0 → endF l (f + 1) k d = endF l f (k + 1) d') := fun d' h1 h2 => endF_no h1 h2
            generalize oAt l k = o at c1 hst hbc hy hno
            cases hb : bg o with
            | true =>
              rw [hb] at hbc
              have e1 : Hid (endF l (f + 1) k d = endF l f (k + 1) (d + 1)) := hno.out _ (stp_bg hb) (by omega)
              have n11 : o ≠ 11 := bg_ne hb
              have nz : ¬ d + 1 = 0 := by omega
              clear hy hno hst hb
              go_wp2_with (first | (go_at_call 17; refine (hbc.out _).mono ?_; rintro e w' ⟨rfl, rfl⟩))
              go_roundw
              case rel => exact ⟨k + 1, f, d + 1, trivial, by omega, by go_num, by go_num, by rw [← e1.out]; exact hr'.out, by omega, by omega, .inl (by omega)⟩
              case measure => simp [intOf]; omega
            | false =>
              have hd1' : 1 ≤ d := by
                rcases hd1 with h | h
                · exact h
                · have := hst.out h; rw [hb] at this; cases this
              rw [hb] at hbc
              by_cases h11 : o = 11
              · subst h11
                by_cases hz : d = 1
                · subst hz
                  have e1 : Hid (endF l (f + 1) k 1 = (k : Int)) := hy.out _ stp_end (by decide)
                  clear hy hno hst hb
                  go_wp2_with (first | (go_at_call 17; refine (hbc.out _).mono ?_; rintro e w' ⟨rfl, rfl⟩))
                  go_ret
                  exact ⟨by rw [← hr'.out, e1.out]; rfl, rfl⟩
                · have e1 : Hid (endF l (f + 1) k d = endF l f (k + 1) (d - 1)) := hno.out _ stp_end (by omega)
                  have nz : ¬ d - 1 = 0 := by omega
                  clear hy hno hst hb
                  go_wp2_with (first | (go_at_call 17; refine (hbc.out _).mono ?_; rintro e w' ⟨rfl, rfl⟩))
                  go_roundw
                  case rel => exact ⟨k + 1, f, d - 1, trivial, by omega, by go_num, by go_num, by rw [← e1.out]; exact hr'.out, by omega, by omega, .inl (by omega)⟩
                  case measure => simp [intOf]; omega
              · have e1 : Hid (endF l (f + 1) k d = endF l f (k + 1) d) := hno.out _ (stp_no hb h11) (by omega)
                have nz : ¬ d = 0 := by omega
                clear hy hno hst hb
                go_wp2_with (first | (go_at_call 17; refine (hbc.out _).mono ?_; rintro e w' ⟨rfl, rfl⟩))
                go_roundw
                case rel => exact ⟨k + 1, f, d, trivial, by omega, by go_num, by go_num, by rw [← e1.out]; exact hr'.out, by omega, by omega, .inl (by omega)⟩
                case measure => simp [intOf]; omega
          · obtain rfl : k = l.length := by omega
            obtain rfl : f = 0 := by omega
            go_wp2_with fail
            go_ret
            exact ⟨by rw [← hr'.out]; rfl, rfl⟩
set_option maxHeartbeats 4000000 in
theorem spec_endOf (w : World) (a : Option Addr) (cap : Nat) (l : List I3) (at' : Int) (h : RdI w a l) (hn : l.length ≤ 1048576) :
    Calls Try.prog 11 #[.slice a l.length cap, .int .i64 at'] w fun e w' => e = .returned (.int .i64 (endOf l at')) ∧ w = w' := by
  by_cases hout : at' < 0 ∨ (l.length : Int) ≤ at'
  · have hf : Hid (endOf l at' = -1) := if_pos hout
    rcases hout with hout | hout
    · go_enter Try.func11, Try.ntmps11
      go_wp2_with fail
      all_goals (go_ret; exact ⟨by rw [hf.out]; rfl, rfl⟩)
    · have hge : ¬ at' < 0 := by omega
      go_enter Try.func11, Try.ntmps11
      go_wp2_with fail
      all_goals (go_ret; exact ⟨by rw [hf.out]; rfl, rfl⟩)
  · have hdef' : endOf l at' = if bg (oAt l at'.toNat) = false then -1 else endF l (l.length - at'.toNat) at'.toNat 0 := if_neg hout
    obtain ⟨k0, rfl⟩ : ∃ k : Nat, at' = (k : Int) := ⟨at'.toNat, by omega⟩
    rw [Int.toNat_natCast] at hdef'
    have hk0 : k0 < l.length := by omega
    have hk0' : (k0 : Int) < (l.length : Int) := by omega
    clear hout
    rcases h with h0 | ⟨b, off, ha, hc⟩
    · omega
    · have c0 := (hc k0 hk0).1
      have hc' : Hid (∀ j, j < l.length → w.cell? ⟨b, off + j * 3, none⟩ = some (.int .i64 (oAt l j))) := fun j hj => (hc j hj).1
      clear hc
      subst ha
      cases hb0 : bg (oAt l k0) with
      | false =>
        have hf : Hid (endOf l (k0 : Int) = -1) := hdef'.trans (if_pos hb0)
        have hbc : Hid _ := fun u => spec_begins (oAt l k0) u
        rw [hb0] at hbc
        clear hdef' hb0
        generalize oAt l k0 = o at *
        go_enter Try.func11, Try.ntmps11
        go_wp2_with (first | (go_at_call 16; refine (hbc.out _).mono ?_; rintro e w' ⟨rfl, rfl⟩))
        go_ret
        exact ⟨by rw [hf.out]; rfl, rfl⟩
      | true =>
        have hf : Hid (endOf l (k0 : Int) = endF l (l.length - k0) k0 0) := hdef'.trans (if_neg (by rw [hb0]; decide))
        obtain ⟨R, hR⟩ : ∃ R, endOf l (k0 : Int) = R := ⟨_, rfl⟩
        have hF : Hid (endF l (l.length - k0) k0 0 = R) := hf.out.symm.trans hR
        rw [hR]
        have hbc : Hid _ := fun u => spec_begins (oAt l k0) u
        rw [hb0] at hbc
        have hbh : Hid (bg (oAt l k0) = true) := hb0
        clear hdef' hb0 hf hR
        obtain ⟨o0, ho0⟩ : ∃ o, oAt l k0 = o := ⟨_, rfl⟩
        rw [ho0] at c0 hbc
        clear ho0
        go_enter Try.func11, Try.ntmps11
        go_wp2_with (first | (go_at_call 16; refine (hbc.out _).mono ?_; rintro e w' ⟨rfl, rfl⟩))
        clear c0 hbc
        simp only [show decide ((k0 : Int) < 0) = false from decide_eq_false (by omega), show decide (l.length ≤ k0) = false from decide_eq_false (by omega), Bool.or_self]
        go_loopw [5, 6] (fun vd vk wr => ∃ (k f : Nat) (d : Int), w = wr ∧ k + f = l.length ∧ vk = .int .i64 k ∧ vd = .int .i64 d ∧ endF l f k d = R ∧ 0 ≤ d ∧ d ≤ k ∧ (1 ≤ d ∨ k = k0)) (fun _ vk _ => l.length - (intOf vk).toNat)
        case atStart => exact ⟨k0, l.length - k0, 0, rfl, by omega, rfl, rfl, hF.out, by omega, by omega, .inr rfl⟩
        case round =>
          obtain ⟨k, f, d, rfl, hk, rfl, rfl, hr, hd0, hdk, hd1⟩ := hrel
          have hr' : Hid (endF l f k d = R) := hr
          clear hr hF
          by_cases hlt : k < l.length
          · have hlt' : (k : Int) < (l.length : Int) := by omega
            obtain ⟨f, rfl⟩ : ∃ j, f = j + 1 := ⟨f - 1, by omega⟩
            have c1 := hc'.out k hlt
            have hst : Hid (k = k0 → bg (oAt l k) = true) := fun e => by rw [e]; exact hbh.out
            have hbc : Hid _ := fun u => spec_begins (oAt l k) u
            have hy : Hid (∀ d', stp d (oAt l k) = d' → d' = 0 → endF l (f + 1) k d = (k : Int)) := fun d' h1 h2 => endF_yes h1 h2
            have hno : Hid (∀ d', stp d (oAt l k) = d' → d' ≠ 0 → endF l (f + 1) k d = endF l f (k + 1) d') := fun d' h1 h2 => endF_no h1 h2
            generalize oAt l k = o at c1 hst hbc hy hno
            cases hb : bg o with
            | true =>
              rw [hb] at hbc
              have e1 : Hid (endF l (f + 1) k d = endF l f (k + 1) (d + 1)) := hno.out _ (stp_bg hb) (by omega)
              have n11 : o ≠ 11 := bg_ne hb
              have nz : ¬ d + 1 = 0 := by omega
              clear hy hno hst hb
              go_wp2_with (first | (go_at_call 16; refine (hbc.out _).mono ?_; rintro e w' ⟨rfl, rfl⟩))
              go_roundw
              case rel => exact ⟨k + 1, f, d + 1, trivial, by omega, by go_num, by go_num, by rw [← e1.out]; exact hr'.out, by omega, by omega, .inl (by omega)⟩
              case measure => simp [intOf]; omega
            | false =>
              have hd1' : 1 ≤ d := by
                rcases hd1 with h | h
                · exact h
                · have := hst.out h; rw [hb] at this; cases this
              rw [hb] at hbc
              by_cases h11 : o = 11
              · subst h11
                by_cases hz : d = 1
                · subst hz
                  have e1 : Hid (endF l (f + 1) k 1 = (k : Int)) := hy.out _ stp_end (by decide)
                  clear hy hno hst hb
                  go_wp2_with (first | (go_at_call 16; refine (hbc.out _).mono ?_; rintro e w' ⟨rfl, rfl⟩))
                  go_ret
                  exact ⟨by rw [← hr'.out, e1.out]; rfl, rfl⟩
                · have e1 : Hid (endF l (f + 1) k d = endF l f (k + 1) (d - 1)) := hno.out _ stp_end (by omega)
                  have nz : ¬ d - 1 = 0 := by omega
                  clear hy hno hst hb
                  go_wp2_with (first | (go_at_call 16; refine (hbc.out _).mono ?_; rintro e w' ⟨rfl, rfl⟩))
                  go_roundw
                  case rel => exact ⟨k + 1, f, d - 1, trivial, by omega, by go_num, by go_num, by rw [← e1.out]; exact hr'.out, by omega, by omega, .inl (by omega)⟩
                  case measure => simp [intOf]; omega
              · have e1 : Hid (endF l (f + 1) k d = endF l f (k + 1) d) := hno.out _ (stp_no hb h11) (by omega)
                have nz : ¬ d = 0 := by omega
                clear hy hno hst hb
                go_wp2_with (first | (go_at_call 16; refine (hbc.out _).mono ?_; rintro e w' ⟨rfl, rfl⟩))
                go_roundw
                case rel => exact ⟨k + 1, f, d, trivial, by omega, by go_num, by go_num, by rw [← e1.out]; exact hr'.out, by omega, by omega, .inl (by omega)⟩
                case measure => simp [intOf]; omega
          · obtain rfl : k = l.length := by omega
            obtain rfl : f = 0 := by omega
            go_wp2_with fail
            go_ret
            exact ⟨by rw [← hr'.out]; rfl, rfl⟩
end Go.Proofs.Ytpofboimlconeaa.EndCalls
