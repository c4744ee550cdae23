/-
  What ElseOf answers when it is called, the specification's and the program's, and the walk of its exact law.
-/
import Derived.Test.YtpofboimlconeaaEndCalls
import Derived.Test.YtpofboimlconeaaPlainElse
namespace Go.Proofs.Ytpofboimlconeaa.ElseCalls
open Go.RowKit PlainShape PlainElse InsMem EndCalls

theorem endOf_in {l : List I3} {at' : Int} (h : ¬ endOf l at' < 0) : ∃ k0 e : Nat, at' = (k0 : Int) ∧ endOf l at' = (e : Int) ∧ k0 < l.length := by
  by_cases hout : at' < 0 ∨ (l.length : Int) ≤ at'
  · have : endOf l at' = -1 := if_pos hout
    omega
  · exact ⟨at'.toNat, (endOf l at').toNat, by omega, by omega, by omega⟩
set_option maxHeartbeats 8000000 in
theorem impl_elseOf (w : World) (a : Option Addr) (cap : Nat) (l : List I3) (at' : Int) (h : RdI w a l) (hn : l.length ≤ 1048576) :
    Calls Try.prog 9 #[.slice a l.length cap, .int .i64 at'] w fun e w' => e = .returned (.int .i64 (elseOf l at')) ∧ w = w' := by
  have hE : Hid _ := fun u hr => impl_endOf u a cap l at' hr hn
  by_cases hneg : endOf l at' < 0
  · have hf : Hid (elseOf l at' = -1) := if_pos hneg
    have h' : Hid (RdI w a l) := h
    clear h
    generalize endOf l at' = e at *
    go_enter Try.func9, Try.ntmps9
    go_wp2_with (go_at_call 8; refine (hE.out _ h'.out).mono ?_; rintro e w' ⟨rfl, rfl⟩)
    all_goals (go_ret; exact ⟨by rw [hf.out]; rfl, rfl⟩)
  · obtain ⟨k0, e, rfl, he, hk0⟩ := endOf_in hneg
    have hk0' : (k0 : Int) < (l.length : Int) := by omega
    have h' : Hid (RdI w a l) := h
    have hdef : elseOf l (k0 : Int) = if oAt l k0 = 4 then elsF l (e - k0) k0 0 else -1 := by
      unfold elseOf
      rw [if_neg hneg, he, Int.toNat_natCast, Int.toNat_natCast]
    rcases h with h0 | ⟨b, off, ha, hc⟩
    · omega
    · have c0 := (hc k0 hk0).1
      have hc' : Hid (∀ j, j < l.length → w.cell? ⟨b, off + j * 3, none⟩ = some (.int .i64 (oAt l j))) := fun j hj => (hc j hj).1
      subst ha
      clear hc hneg
      by_cases h4 : oAt l k0 = 4
      · obtain ⟨hke, hel, hg1, hg2⟩ := first hk0 h4 he
        obtain ⟨R, hR⟩ : ∃ R, elseOf l (k0 : Int) = R := ⟨_, rfl⟩
        have hF : Hid (elsF l (e - (k0 + 1)) (k0 + 1) 1 = R) := hg2.symm.trans (((hdef.trans (if_pos h4)).symm).trans hR)
        have hG : Hid (endF l (l.length - (k0 + 1)) (k0 + 1) 1 = (e : Int)) := hg1
        rw [hR]
        rw [he] at hE
        rw [h4] at c0
        clear hdef hR h4 he hg1 hg2
        go_enter Try.func9, Try.ntmps9
        go_wp2_with (go_at_call 8; refine (hE.out _ h'.out).mono ?_; rintro e w' ⟨rfl, rfl⟩)
        clear c0
        go_loopw [6] (fun vk wr => ∃ (k : Nat), w = wr ∧ k ≤ e ∧ vk = .int .i64 k ∧ elsF l (e - k) k 1 = R ∧ endF l (l.length - k) k 1 = (e : Int)) (fun vk _ => e - (intOf vk).toNat)
        case atStart => exact ⟨k0 + 1, rfl, by omega, by go_num, hF.out, hG.out⟩
        case round =>
          obtain ⟨k, rfl, hk, rfl, hr, hg⟩ := hrel
          have hr' : Hid (elsF l (e - k) k 1 = R) := hr
          have hg' : Hid (endF l (l.length - k) k 1 = (e : Int)) := hg
          clear hr hF hE hG hg
          by_cases hlt : k < e
          · have hlt' : (k : Int) < (e : Int) := by omega
            have hkl' : (k : Int) < (l.length : Int) := by omega
            have c1 := hc'.out k (by omega)
            have hbc : Hid _ := fun u => impl_begins (oAt l k) u
            by_cases h5 : oAt l k = 5
            · have e1 : Hid (elsF l (e - k) k 1 = (k : Int)) := by
                show elsF l (e - k) k 1 = (k : Int)
                rw [show e - k = (e - k - 1) + 1 by omega]
                exact elsF_yes h5 rfl
              rw [h5] at c1
              clear h5 hbc
              go_wp2_with fail
              go_ret
              exact ⟨by rw [← hr'.out, e1.out]; rfl, rfl⟩
            · cases hb : bg (oAt l k) with
              | true =>
                obtain ⟨m, hm, hkm, hme, q1, q2⟩ := pass hlt hel hb hg'.out
                have q1' : Hid _ := q1
                have q2' : Hid _ := q2
                have hE2 : Hid _ := fun u hr => impl_endOf u (some ⟨b, off, none⟩) cap l (k : Int) hr hn
                rw [hm] at hE2
                rw [hb] at hbc
                clear hm q1 q2 hb
                generalize oAt l k = o at c1 hbc h5
                go_wp2_with (first | (go_at_call 17; refine (hbc.out _).mono ?_; rintro e w' ⟨rfl, rfl⟩) | (go_at_call 8; refine (hE2.out _ h'.out).mono ?_; rintro e w' ⟨rfl, rfl⟩))
                go_roundw
                case rel => exact ⟨m + 1, trivial, by omega, by go_num, by rw [← q2'.out]; exact hr'.out, q1'.out⟩
                case measure => simp [intOf]; omega
              | false =>
                obtain ⟨q1, q2⟩ := pass1 hlt hel hb h5 hg'.out
                have q1' : Hid _ := q1
                have q2' : Hid _ := q2
                rw [hb] at hbc
                clear q1 q2 hb
                generalize oAt l k = o at c1 hbc h5
                go_wp2_with (first | (go_at_call 17; refine (hbc.out _).mono ?_; rintro e w' ⟨rfl, rfl⟩))
                go_roundw
                case rel => exact ⟨k + 1, trivial, by omega, by go_num, by rw [← q2'.out]; exact hr'.out, q1'.out⟩
                case measure => simp [intOf]; omega
          · obtain rfl : k = e := by omega
            have hz : Hid (elsF l (k - k) k 1 = -1) := by
              show elsF l (k - k) k 1 = -1
              rw [Nat.sub_self]; rfl
            go_wp2_with fail
            go_ret
            exact ⟨by rw [← hr'.out, hz.out]; rfl, rfl⟩
      · have hf : Hid (elseOf l (k0 : Int) = -1) := hdef.trans (if_neg h4)
        rw [he] at hE
        have hge : ¬ (e : Int) < 0 := by omega
        clear hdef he hc'
        generalize oAt l k0 = o at *
        have h4' : (o != 4) = true := by simp [h4]
        clear h4
        go_enter Try.func9, Try.ntmps9
        go_wp2_with (go_at_call 8; refine (hE.out _ h'.out).mono ?_; rintro e w' ⟨rfl, rfl⟩)
        all_goals (go_ret; exact ⟨by rw [hf.out]; rfl, rfl⟩)
end Go.Proofs.Ytpofboimlconeaa.ElseCalls
