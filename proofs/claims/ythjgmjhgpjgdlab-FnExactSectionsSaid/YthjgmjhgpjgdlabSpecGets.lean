/-
  What the specification's GetU and GetS answer when they are called.
-/
import Derived.Test.YthjgmjhgpjgdlabSpecGet
import Derived.OwnWalk
namespace Go.Proofs.Ythjgmjhgpjgdlab.SpecGets
open Go.RowKit PlainNum PlainLeb PlainGet NumCalls ByteMem PutU SpecGet
theorem tup3 {a b a' b' : Int} {c : Bool} (h1 : a = a') (h2 : b = b') : Ending.returned (.tuple #[.int .i64 a, .int .i64 b, .bool c]) = Ending.returned (.tuple #[.int .i64 a', .int .i64 b', .bool c]) := by
  subst h1 h2; rfl
set_option maxRecDepth 100000 in
set_option maxHeartbeats 4000000 in
theorem spec_getU (w : World) (b off cap : Nat) (bs : List UInt8) (at' : Int) (h : ∀ j, j < bs.length → w.cell? ⟨b, off + j, none⟩ = some (.int .u8 ((bs[j]?.getD 0).toNat : Int))) (hl : bs.length ≤ 4611686018427387904) :
    Calls Try.prog 17 #[.slice (some ⟨b, off, none⟩) bs.length cap, .int .i64 at'] w fun e w' => e = .returned (ansU bs at') ∧ w = w' := by
  have hlt := tk_length bs at'
  have hll := lst_lt (tk bs at')
  have hvl := val_lt (tk bs at')
  obtain ⟨ans, hans⟩ : ∃ ans, ansU bs at' = ans := ⟨_, rfl⟩
  rw [hans]
  by_cases ho : at' < 0 ∨ (bs.length : Int) ≤ at'
  · have hres : Hid (ans = nought) := hans.symm.trans (ansU_no (by omega))
    clear hans
    rcases (show at' < 0 ∨ (¬ at' < 0 ∧ (bs.length : Int) ≤ at') by omega) with h1 | ⟨h1, h2⟩
    all_goals
      go_enter Try.func17, Try.ntmps17
      go_wp2_with fail
      go_ret3
      exact ⟨by rw [hres.out]; rfl, rfl⟩
  · have h1 : ¬ at' < 0 := by omega
    have h2 : ¬ (bs.length : Int) ≤ at' := by omega
    have hp := spec_pieces w b off cap bs at'.toNat h (by omega) hl
    have hta : ((at'.toNat : Nat) : Int) = at' := by omega
    rw [hta] at hp
    have hin : 0 ≤ at' ∧ at' < bs.length := by omega
    rw [show took 5 (bs.drop at'.toNat) = tk bs at' from rfl] at hp
    generalize hT : tk bs at' = t at *
    by_cases hf : fin t
    · rw [pcs_fin _ hf, hta] at hp
      obtain ⟨f0, f1⟩ := hf
      have f0' : ¬ (t.length : Int) = 0 := by omega
      by_cases hk : okU t
      · have hres : Hid (ans = _) := hans.symm.trans (ansU_yes ⟨hin.1, hin.2, by rw [hT]; exact hk⟩)
        rw [hT] at hres
        have hk2 := hk.2
        clear hans hk
        generalize t.length = L at *
        generalize val t = V at *
        generalize lst t = M at *
        by_cases h5 : (L : Int) = 5
        · have h6 : ¬ (15 : Int) < (M : Int) := by omega
          go_enter Try.func17, Try.ntmps17
          go_wp2_with (go_at_call 25; refine hp.mono ?_; rintro e w' ⟨rfl, rfl⟩)
          go_ret3
          exact ⟨by rw [hres.out]; exact tup3 (by omega) (by omega), rfl⟩
        · go_enter Try.func17, Try.ntmps17
          go_wp2_with (go_at_call 25; refine hp.mono ?_; rintro e w' ⟨rfl, rfl⟩)
          go_ret3
          exact ⟨by rw [hres.out]; rfl, rfl⟩
      · have hres : Hid (ans = nought) := hans.symm.trans (ansU_no (by rw [hT]; exact fun hh => hk hh.2.2))
        have h5 : (t.length : Int) = 5 := by
          have : ¬ (t.length < 5 ∨ lst t ≤ 15) := fun hh => hk ⟨⟨f0, f1⟩, hh⟩
          omega
        have h6 : (15 : Int) < (lst t : Int) := by
          have : ¬ (t.length < 5 ∨ lst t ≤ 15) := fun hh => hk ⟨⟨f0, f1⟩, hh⟩
          omega
        clear hans hk
        generalize t.length = L at *
        generalize val t = V at *
        generalize lst t = M at *
        go_enter Try.func17, Try.ntmps17
        go_wp2_with (go_at_call 25; refine hp.mono ?_; rintro e w' ⟨rfl, rfl⟩)
        go_ret3
        exact ⟨by rw [hres.out]; rfl, rfl⟩
    · rw [pcs_not _ hf] at hp
      have hres : Hid (ans = nought) := hans.symm.trans (ansU_no (by rw [hT]; exact fun hh => hf hh.2.2.1))
      clear hans
      go_enter Try.func17, Try.ntmps17
      go_wp2_with (go_at_call 25; refine hp.mono ?_; rintro e w' ⟨rfl, rfl⟩)
      go_ret3
      exact ⟨by rw [hres.out]; rfl, rfl⟩
end Go.Proofs.Ythjgmjhgpjgdlab.SpecGets
