/-
  Which bytes are what: what the small functions on bytes answer when they are called, the program's and the specification's. (Written by my lexgen.py.)
-/
import Derived.Test.YtjndgjheehjohaaDoorChecked
import Derived.Test.YtjndgjheehjohaaDoorPlainLex
import Derived.WalkKit
import Derived.Deep.QuietTactic
import Derived.BigQuiet
import Derived.Deep.OwnRows
import Derived.Below
import Derived.WalkSpells
import Derived.WalkSmall
namespace Go.Proofs.YtjndgjheehjohaaDoor.CharCalls
open Go.RowKit PlainOps PlainLex
theorem impl_isSmall (c : UInt8) (w : World) :
    Calls Tryd.prog 65 #[.int .u8 (c.toNat : Int)] w fun e w' => e = .returned (.bool (small c)) ∧ w = w' := by
  have hb := c.toNat_lt
  by_cases h1 : 97 ≤ (c.toNat : Int)
  · by_cases h2 : (c.toNat : Int) ≤ 122
    · have hp : Hid (small c = true) := btw_true.2 ⟨h1, h2⟩
      generalize (c.toNat : Int) = n at *
      go_enter Tryd.func65, Tryd.ntmps65
      go_wp2_with fail
      go_ret
      exact ⟨by rw [hp.out]; rfl, rfl⟩
    · have hp : Hid (small c = false) := btw_false.2 (fun h => h2 h.2)
      generalize (c.toNat : Int) = n at *
      go_enter Tryd.func65, Tryd.ntmps65
      go_wp2_with fail
      go_ret
      exact ⟨by rw [hp.out]; rfl, rfl⟩
  · have hp : Hid (small c = false) := btw_false.2 (fun h => h1 h.1)
    generalize (c.toNat : Int) = n at *
    go_enter Tryd.func65, Tryd.ntmps65
    go_wp2_with fail
    go_ret
    exact ⟨by rw [hp.out]; rfl, rfl⟩
theorem spec_small (c : UInt8) (w : World) :
    Calls Tryd.prog 44 #[.int .u8 (c.toNat : Int)] w fun e w' => e = .returned (.bool (small c)) ∧ w = w' := by
  have hb := c.toNat_lt
  by_cases h1 : 97 ≤ (c.toNat : Int)
  · by_cases h2 : (c.toNat : Int) ≤ 122
    · have hp : Hid (small c = true) := btw_true.2 ⟨h1, h2⟩
      generalize (c.toNat : Int) = n at *
      go_enter Tryd.func44, Tryd.ntmps44
      go_wp2_with fail
      go_ret
      exact ⟨by rw [hp.out]; rfl, rfl⟩
    · have hp : Hid (small c = false) := btw_false.2 (fun h => h2 h.2)
      generalize (c.toNat : Int) = n at *
      go_enter Tryd.func44, Tryd.ntmps44
      go_wp2_with fail
      go_ret
      exact ⟨by rw [hp.out]; rfl, rfl⟩
  · have hp : Hid (small c = false) := btw_false.2 (fun h => h1 h.1)
    generalize (c.toNat : Int) = n at *
    go_enter Tryd.func44, Tryd.ntmps44
    go_wp2_with fail
    go_ret
    exact ⟨by rw [hp.out]; rfl, rfl⟩
theorem impl_isDigit (c : UInt8) (w : World) :
    Calls Tryd.prog 63 #[.int .u8 (c.toNat : Int)] w fun e w' => e = .returned (.bool (digit c)) ∧ w = w' := by
  have hb := c.toNat_lt
  by_cases h1 : 48 ≤ (c.toNat : Int)
  · by_cases h2 : (c.toNat : Int) ≤ 57
    · have hp : Hid (digit c = true) := btw_true.2 ⟨h1, h2⟩
      generalize (c.toNat : Int) = n at *
      go_enter Tryd.func63, Tryd.ntmps63
      go_wp2_with fail
      go_ret
      exact ⟨by rw [hp.out]; rfl, rfl⟩
    · have hp : Hid (digit c = false) := btw_false.2 (fun h => h2 h.2)
      generalize (c.toNat : Int) = n at *
      go_enter Tryd.func63, Tryd.ntmps63
      go_wp2_with fail
      go_ret
      exact ⟨by rw [hp.out]; rfl, rfl⟩
  · have hp : Hid (digit c = false) := btw_false.2 (fun h => h1 h.1)
    generalize (c.toNat : Int) = n at *
    go_enter Tryd.func63, Tryd.ntmps63
    go_wp2_with fail
    go_ret
    exact ⟨by rw [hp.out]; rfl, rfl⟩
theorem spec_digit (c : UInt8) (w : World) :
    Calls Tryd.prog 57 #[.int .u8 (c.toNat : Int)] w fun e w' => e = .returned (.bool (digit c)) ∧ w = w' := by
  have hb := c.toNat_lt
  by_cases h1 : 48 ≤ (c.toNat : Int)
  · by_cases h2 : (c.toNat : Int) ≤ 57
    · have hp : Hid (digit c = true) := btw_true.2 ⟨h1, h2⟩
      generalize (c.toNat : Int) = n at *
      go_enter Tryd.func57, Tryd.ntmps57
      go_wp2_with fail
      go_ret
      exact ⟨by rw [hp.out]; rfl, rfl⟩
    · have hp : Hid (digit c = false) := btw_false.2 (fun h => h2 h.2)
      generalize (c.toNat : Int) = n at *
      go_enter Tryd.func57, Tryd.ntmps57
      go_wp2_with fail
      go_ret
      exact ⟨by rw [hp.out]; rfl, rfl⟩
  · have hp : Hid (digit c = false) := btw_false.2 (fun h => h1 h.1)
    generalize (c.toNat : Int) = n at *
    go_enter Tryd.func57, Tryd.ntmps57
    go_wp2_with fail
    go_ret
    exact ⟨by rw [hp.out]; rfl, rfl⟩
theorem impl_isInName (c : UInt8) (w : World) :
    Calls Tryd.prog 69 #[.int .u8 (c.toNat : Int)] w fun e w' => e = .returned (.bool (inName c)) ∧ w = w' := by
  have ks : Hid (∀ u, Calls Tryd.prog 65 #[.int .u8 (c.toNat : Int)] u fun e w' => e = .returned (.bool (small c)) ∧ u = w') := fun u => impl_isSmall c u
  have kd : Hid (∀ u, Calls Tryd.prog 63 #[.int .u8 (c.toNat : Int)] u fun e w' => e = .returned (.bool (digit c)) ∧ u = w') := fun u => impl_isDigit c u
  have hp : Hid (inName c = (small c || great c || digit c || decide ((c.toNat : Int) = 95))) := rfl
  have hg : Hid (great c = (decide (65 ≤ (c.toNat : Int)) && decide ((c.toNat : Int) ≤ 90))) := rfl
  generalize inName c = R at *
  generalize small c = b1 at *
  generalize digit c = b2 at *
  generalize great c = b3 at *
  generalize (c.toNat : Int) = n at *
  cases b1 with
  | true =>
    have e1 : Hid (R = true) := by show _ = _; rw [hp.out]; rfl
    clear hp hg kd
    go_enter Tryd.func69, Tryd.ntmps69
    go_wp2_with (go_at_call 65; refine (ks.out _).mono ?_; rintro e u0 ⟨rfl, rfl⟩)
    go_ret
    exact ⟨by rw [e1.out]; rfl, rfl⟩
  | false =>
    by_cases h1 : 65 ≤ n
    · by_cases h2 : n ≤ 90
      · have e3 : Hid (b3 = true) := by show _ = _; rw [hg.out]; simp [h1, h2]
        have e1 : Hid (R = true) := by show _ = _; rw [hp.out, e3.out]; rfl
        clear hp hg kd
        go_enter Tryd.func69, Tryd.ntmps69
        go_wp2_with (go_at_call 65; refine (ks.out _).mono ?_; rintro e u0 ⟨rfl, rfl⟩)
        go_ret
        exact ⟨by rw [e1.out]; rfl, rfl⟩
      · have e3 : b3 = false := by rw [hg.out]; simp [h2]
        subst e3
        clear hg
        have h2' : decide (n ≤ 90) = false := by simpa using h2
        cases b2 with
        | true =>
          have e1 : Hid (R = true) := by show _ = _; rw [hp.out]; simp [*]
          clear hp
          go_enter Tryd.func69, Tryd.ntmps69
          go_wp2_with (first | (go_at_call 65; refine (ks.out _).mono ?_; rintro e u0 ⟨rfl, rfl⟩) | (go_at_call 63; refine (kd.out _).mono ?_; rintro e u0 ⟨rfl, rfl⟩))
          go_ret
          exact ⟨by rw [e1.out]; rfl, rfl⟩
        | false =>
          by_cases h3 : n = 95
          · subst h3
            have e1 : Hid (R = true) := by show _ = _; rw [hp.out]; simp [*]
            clear hp
            go_enter Tryd.func69, Tryd.ntmps69
            go_wp2_with (first | (go_at_call 65; refine (ks.out _).mono ?_; rintro e u0 ⟨rfl, rfl⟩) | (go_at_call 63; refine (kd.out _).mono ?_; rintro e u0 ⟨rfl, rfl⟩))
            go_ret
            exact ⟨by rw [e1.out]; rfl, rfl⟩
          · have h3' : (n == 95) = false := by simpa using h3
            have e1 : Hid (R = false) := by show _ = _; rw [hp.out]; simp [*]
            clear hp
            go_enter Tryd.func69, Tryd.ntmps69
            go_wp2_with (first | (go_at_call 65; refine (ks.out _).mono ?_; rintro e u0 ⟨rfl, rfl⟩) | (go_at_call 63; refine (kd.out _).mono ?_; rintro e u0 ⟨rfl, rfl⟩))
            go_ret
            exact ⟨by rw [e1.out]; rfl, rfl⟩
    · have e3 : b3 = false := by rw [hg.out]; simp [h1]
      subst e3
      clear hg
      cases b2 with
      | true =>
        have e1 : Hid (R = true) := by show _ = _; rw [hp.out]; simp [*]
        clear hp
        go_enter Tryd.func69, Tryd.ntmps69
        go_wp2_with (first | (go_at_call 65; refine (ks.out _).mono ?_; rintro e u0 ⟨rfl, rfl⟩) | (go_at_call 63; refine (kd.out _).mono ?_; rintro e u0 ⟨rfl, rfl⟩))
        go_ret
        exact ⟨by rw [e1.out]; rfl, rfl⟩
      | false =>
        by_cases h3 : n = 95
        · subst h3
          have e1 : Hid (R = true) := by show _ = _; rw [hp.out]; simp [*]
          clear hp
          go_enter Tryd.func69, Tryd.ntmps69
          go_wp2_with (first | (go_at_call 65; refine (ks.out _).mono ?_; rintro e u0 ⟨rfl, rfl⟩) | (go_at_call 63; refine (kd.out _).mono ?_; rintro e u0 ⟨rfl, rfl⟩))
          go_ret
          exact ⟨by rw [e1.out]; rfl, rfl⟩
        · have h3' : (n == 95) = false := by simpa using h3
          have e1 : Hid (R = false) := by show _ = _; rw [hp.out]; simp [*]
          clear hp
          go_enter Tryd.func69, Tryd.ntmps69
          go_wp2_with (first | (go_at_call 65; refine (ks.out _).mono ?_; rintro e u0 ⟨rfl, rfl⟩) | (go_at_call 63; refine (kd.out _).mono ?_; rintro e u0 ⟨rfl, rfl⟩))
          go_ret
          exact ⟨by rw [e1.out]; rfl, rfl⟩
theorem spec_part (c : UInt8) (w : World) :
    Calls Tryd.prog 43 #[.int .u8 (c.toNat : Int)] w fun e w' => e = .returned (.bool (inName c)) ∧ w = w' := by
  have ks : Hid (∀ u, Calls Tryd.prog 44 #[.int .u8 (c.toNat : Int)] u fun e w' => e = .returned (.bool (small c)) ∧ u = w') := fun u => spec_small c u
  have kd : Hid (∀ u, Calls Tryd.prog 57 #[.int .u8 (c.toNat : Int)] u fun e w' => e = .returned (.bool (digit c)) ∧ u = w') := fun u => spec_digit c u
  have hp : Hid (inName c = (small c || great c || digit c || decide ((c.toNat : Int) = 95))) := rfl
  have hg : Hid (great c = (decide (65 ≤ (c.toNat : Int)) && decide ((c.toNat : Int) ≤ 90))) := rfl
  generalize inName c = R at *
  generalize small c = b1 at *
  generalize digit c = b2 at *
  generalize great c = b3 at *
  generalize (c.toNat : Int) = n at *
  cases b1 with
  | true =>
    have e1 : Hid (R = true) := by show _ = _; rw [hp.out]; rfl
    clear hp hg kd
    go_enter Tryd.func43, Tryd.ntmps43
    go_wp2_with (go_at_call 44; refine (ks.out _).mono ?_; rintro e u0 ⟨rfl, rfl⟩)
    go_ret
    exact ⟨by rw [e1.out]; rfl, rfl⟩
  | false =>
    by_cases h1 : 65 ≤ n
    · by_cases h2 : n ≤ 90
      · have e3 : Hid (b3 = true) := by show _ = _; rw [hg.out]; simp [h1, h2]
        have e1 : Hid (R = true) := by show _ = _; rw [hp.out, e3.out]; rfl
        clear hp hg kd
        go_enter Tryd.func43, Tryd.ntmps43
        go_wp2_with (go_at_call 44; refine (ks.out _).mono ?_; rintro e u0 ⟨rfl, rfl⟩)
        go_ret
        exact ⟨by rw [e1.out]; rfl, rfl⟩
      · have e3 : b3 = false := by rw [hg.out]; simp [h2]
        subst e3
        clear hg
        have h2' : decide (n ≤ 90) = false := by simpa using h2
        cases b2 with
        | true =>
          have e1 : Hid (R = true) := by show _ = _; rw [hp.out]; simp [*]
          clear hp
          go_enter Tryd.func43, Tryd.ntmps43
          go_wp2_with (first | (go_at_call 44; refine (ks.out _).mono ?_; rintro e u0 ⟨rfl, rfl⟩) | (go_at_call 57; refine (kd.out _).mono ?_; rintro e u0 ⟨rfl, rfl⟩))
          go_ret
          exact ⟨by rw [e1.out]; rfl, rfl⟩
        | false =>
          by_cases h3 : n = 95
          · subst h3
            have e1 : Hid (R = true) := by show _ = _; rw [hp.out]; simp [*]
            clear hp
            go_enter Tryd.func43, Tryd.ntmps43
            go_wp2_with (first | (go_at_call 44; refine (ks.out _).mono ?_; rintro e u0 ⟨rfl, rfl⟩) | (go_at_call 57; refine (kd.out _).mono ?_; rintro e u0 ⟨rfl, rfl⟩))
            go_ret
            exact ⟨by rw [e1.out]; rfl, rfl⟩
          · have h3' : (n == 95) = false := by simpa using h3
            have e1 : Hid (R = false) := by show _ = _; rw [hp.out]; simp [*]
            clear hp
            go_enter Tryd.func43, Tryd.ntmps43
            go_wp2_with (first | (go_at_call 44; refine (ks.out _).mono ?_; rintro e u0 ⟨rfl, rfl⟩) | (go_at_call 57; refine (kd.out _).mono ?_; rintro e u0 ⟨rfl, rfl⟩))
            go_ret
            exact ⟨by rw [e1.out]; rfl, rfl⟩
    · have e3 : b3 = false := by rw [hg.out]; simp [h1]
      subst e3
      clear hg
      cases b2 with
      | true =>
        have e1 : Hid (R = true) := by show _ = _; rw [hp.out]; simp [*]
        clear hp
        go_enter Tryd.func43, Tryd.ntmps43
        go_wp2_with (first | (go_at_call 44; refine (ks.out _).mono ?_; rintro e u0 ⟨rfl, rfl⟩) | (go_at_call 57; refine (kd.out _).mono ?_; rintro e u0 ⟨rfl, rfl⟩))
        go_ret
        exact ⟨by rw [e1.out]; rfl, rfl⟩
      | false =>
        by_cases h3 : n = 95
        · subst h3
          have e1 : Hid (R = true) := by show _ = _; rw [hp.out]; simp [*]
          clear hp
          go_enter Tryd.func43, Tryd.ntmps43
          go_wp2_with (first | (go_at_call 44; refine (ks.out _).mono ?_; rintro e u0 ⟨rfl, rfl⟩) | (go_at_call 57; refine (kd.out _).mono ?_; rintro e u0 ⟨rfl, rfl⟩))
          go_ret
          exact ⟨by rw [e1.out]; rfl, rfl⟩
        · have h3' : (n == 95) = false := by simpa using h3
          have e1 : Hid (R = false) := by show _ = _; rw [hp.out]; simp [*]
          clear hp
          go_enter Tryd.func43, Tryd.ntmps43
          go_wp2_with (first | (go_at_call 44; refine (ks.out _).mono ?_; rintro e u0 ⟨rfl, rfl⟩) | (go_at_call 57; refine (kd.out _).mono ?_; rintro e u0 ⟨rfl, rfl⟩))
          go_ret
          exact ⟨by rw [e1.out]; rfl, rfl⟩
theorem impl_isBlank (c : UInt8) (w : World) :
    Calls Tryd.prog 61 #[.int .u8 (c.toNat : Int)] w fun e w' => e = .returned (.bool (isGap c)) ∧ w = w' := by
  have hp : Hid (isGap c = (decide ((c.toNat : Int) = 32) || decide ((c.toNat : Int) = 9) || decide ((c.toNat : Int) = 10) || decide ((c.toNat : Int) = 13))) := rfl
  generalize isGap c = R at *
  generalize (c.toNat : Int) = n at *
  by_cases h1 : n = 32
  · subst h1
    have e1 : Hid (R = true) := by show _ = _; rw [hp.out]; rfl
    clear hp
    go_enter Tryd.func61, Tryd.ntmps61
    go_wp2_with fail
    go_ret
    exact ⟨by rw [e1.out]; rfl, rfl⟩
  · by_cases h2 : n = 9
    · subst h2
      have e1 : Hid (R = true) := by show _ = _; rw [hp.out]; rfl
      clear hp
      go_enter Tryd.func61, Tryd.ntmps61
      go_wp2_with fail
      go_ret
      exact ⟨by rw [e1.out]; rfl, rfl⟩
    · by_cases h3 : n = 10
      · subst h3
        have e1 : Hid (R = true) := by show _ = _; rw [hp.out]; rfl
        clear hp
        go_enter Tryd.func61, Tryd.ntmps61
        go_wp2_with fail
        go_ret
        exact ⟨by rw [e1.out]; rfl, rfl⟩
      · by_cases h4 : n = 13
        · subst h4
          have e1 : Hid (R = true) := by show _ = _; rw [hp.out]; rfl
          clear hp
          go_enter Tryd.func61, Tryd.ntmps61
          go_wp2_with fail
          go_ret
          exact ⟨by rw [e1.out]; rfl, rfl⟩
        · have e1 : Hid (R = false) := by show _ = _; rw [hp.out]; simp [h1, h2, h3, h4]
          have h1' : (n == 32) = false := by simpa using h1
          have h2' : (n == 9) = false := by simpa using h2
          have h3' : (n == 10) = false := by simpa using h3
          have h4' : (n == 13) = false := by simpa using h4
          clear hp
          go_enter Tryd.func61, Tryd.ntmps61
          go_wp2_with fail
          go_ret
          exact ⟨by rw [e1.out]; rfl, rfl⟩
end Go.Proofs.YtjndgjheehjohaaDoor.CharCalls
