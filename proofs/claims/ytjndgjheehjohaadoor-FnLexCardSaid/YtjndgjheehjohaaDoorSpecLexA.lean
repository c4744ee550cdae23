/-
  What the specification's parts of Lex answer when they are called: whether a text goes on with another one, what is skipped.
-/
import Derived.Test.YtjndgjheehjohaaDoorLexImpl
namespace Go.Proofs.YtjndgjheehjohaaDoor.SpecLexA
open Go.RowKit InsMem PlainOps PlainLex PlainScan NameCalls CharCalls WordCalls LexImpl

theorem prefix_take {t l : List UInt8} : t.isPrefixOf l = true ↔ l.take t.length = t := by
  rw [List.isPrefixOf_iff_prefix, List.prefix_iff_eq_take]
  exact eq_comm
theorem prefix_long {t l : List UInt8} (h : l.length < t.length) : t.isPrefixOf l = false := by
  rw [Bool.eq_false_iff]
  intro hp
  have := (List.isPrefixOf_iff_prefix.1 hp).length_le
  omega
theorem spec_begins (s : ByteArray) (l : List UInt8) (hl : s.data.toList = l) (k : Nat) (t : ByteArray) (tl : List UInt8) (ht : t.data.toList = tl) (w : World) (hm : s.size ≤ 1048576) (hk : k ≤ 2097152) (htz : t.size ≤ 2) (htz1 : 1 ≤ t.size) :
    Calls Tryd.prog 56 #[.string s, .int .i64 k, .string t] w fun e w' => e = .returned (.bool (tl.isPrefixOf (l.drop k))) ∧ w = w' := by
  have hsz := size_list hl
  have htl := size_list ht
  by_cases hin : k + t.size ≤ s.size
  · have h1 : (k : Int) + (t.size : Int) ≤ (s.size : Int) := by omega
    have hx : (s.extract k (k + t.size)).data.toList = (l.drop k).take t.size := by
      rw [ext_tx, hl, show k + t.size - k = t.size by omega]
    cases hp : tl.isPrefixOf (l.drop k) with
    | true =>
      have he : s.extract k (k + t.size) = t := by
        apply ByteArray.ext
        apply Array.ext'
        rw [hx, ht, htl]
        exact prefix_take.1 hp
      clear hl ht hx hp hsz htl
      go_enter Tryd.func56, Tryd.ntmps56
      go_wp2_with fail
      go_ret
      exact ⟨rfl, rfl⟩
    | false =>
      have he : ¬ s.extract k (k + t.size) = t := fun e => by
        have : tl.isPrefixOf (l.drop k) = true := prefix_take.2 (by rw [← htl, ← hx, e, ht])
        rw [hp] at this
        cases this
      have n3 := str_ne he
      clear hl ht hx hp hsz htl he
      go_enter Tryd.func56, Tryd.ntmps56
      go_wp2_with fail
      go_ret
      exact ⟨rfl, rfl⟩
  · have hp : Hid (tl.isPrefixOf (l.drop k) = false) := prefix_long (by rw [List.length_drop]; omega)
    have h1 : ¬ (k : Int) + (t.size : Int) ≤ (s.size : Int) := by omega
    have h2 : decide ((k : Int) + (t.size : Int) ≤ (s.size : Int)) = false := decide_eq_false h1
    clear hl ht hsz htl
    go_enter Tryd.func56, Tryd.ntmps56
    go_wp2_with fail
    go_ret
    exact ⟨by rw [hp.out]; rfl, rfl⟩
theorem closeAt_yes : ∀ {l : List UInt8} {j : Nat}, (∀ i, i < j → ([42, 47] : List UInt8).isPrefixOf (l.drop i) = false) → ([42, 47] : List UInt8).isPrefixOf (l.drop j) = true → closeAt l = some j
  | [], j, _, h => by
    have := (List.isPrefixOf_iff_prefix.1 h).length_le
    simp at this
  | c :: l, 0, _, h => by
    unfold closeAt
    rw [if_pos (by simpa using h)]
  | c :: l, j + 1, hno, h => by
    unfold closeAt
    have h0 := hno 0 (by omega)
    rw [List.drop_zero] at h0
    rw [if_neg (by rw [h0]; decide), closeAt_yes (l := l) (j := j) (fun i hi => by simpa using hno (i + 1) (by omega)) (by simpa using h)]
    rfl
theorem closeAt_no : ∀ {l : List UInt8}, (∀ i, i < l.length → ([42, 47] : List UInt8).isPrefixOf (l.drop i) = false) → closeAt l = none
  | [], _ => rfl
  | c :: l, hno => by
    unfold closeAt
    have h0 := hno 0 (by simp)
    rw [List.drop_zero] at h0
    rw [if_neg (by rw [h0]; decide), closeAt_no (l := l) (fun i hi => by simpa using hno (i + 1) (by simp; omega))]
    rfl
/-- A blank is passed over. -/
theorem lexAt_blank {l : List UInt8} {k : Nat} {x : UInt8} (hx : l[k]? = some x) (hb : isGap x = true) : lexAt l k = lexAt l (k + 1) := by
  have hk : k < l.length := (List.getElem?_eq_some_iff.1 hx).1
  have hxx : l[k] = x := (List.getElem?_eq_some_iff.1 hx).2
  have hd : l.drop k = x :: l.drop (k + 1) := by rw [List.drop_eq_getElem_cons hk, hxx]
  have hr : ∀ r, remark (x :: r) = false := fun r => by
    unfold remark
    rw [Bool.eq_false_iff]
    intro hp
    have h1 := List.isPrefixOf_iff_prefix.1 hp
    obtain ⟨t, ht⟩ := h1
    have : x = 47 := by
      simp only [List.cons_append] at ht
      exact (List.cons.inj ht).1.symm
    subst this
    revert hb
    decide
  have hg : gap (l.drop k) = some (stretch isGap (l.drop (k + 1)) + 1) := by
    rw [hd]
    unfold gap
    rw [hr, stretch_cons_yes hb]
    rfl
  rw [lexAt_step l k hk, hg]
  simp only [ne_eq, Nat.succ_ne_zero, not_false_eq_true, if_true]
  by_cases h0 : stretch isGap (l.drop (k + 1)) = 0
  · rw [h0]
  · by_cases hk1 : k + 1 < l.length
    · rw [lexAt_step l (k + 1) hk1]
      have hr2 : remark (l.drop (k + 1)) = false := by
        cases hq : l.drop (k + 1) with
        | nil => rfl
        | cons y r =>
          have hy : isGap y = true := by
            cases hy : isGap y with
            | true => rfl
            | false => rw [hq, stretch_cons_no hy] at h0; exact absurd rfl h0
          unfold remark
          rw [Bool.eq_false_iff]
          intro hp
          obtain ⟨t, ht⟩ := List.isPrefixOf_iff_prefix.1 hp
          have : y = 47 := by
            simp only [List.cons_append] at ht
            exact (List.cons.inj ht).1.symm
          subst this
          revert hy
          decide
      have hg2 : gap (l.drop (k + 1)) = some (stretch isGap (l.drop (k + 1))) := by unfold gap; rw [hr2]; rfl
      rw [hg2]
      simp only [if_pos h0]
      rw [show k + 1 + stretch isGap (l.drop (k + 1)) = k + (stretch isGap (l.drop (k + 1)) + 1) by omega]
    · have : l.drop (k + 1) = [] := List.drop_eq_nil_of_le (by omega)
      rw [this] at h0
      exact absurd rfl h0
theorem gap_token {l : List UInt8} {k : Nat} {x : UInt8} (hx : l[k]? = some x) (hb : isGap x = false) (hr : remark (l.drop k) = false) : gap (l.drop k) = some 0 := by
  have hk : k < l.length := (List.getElem?_eq_some_iff.1 hx).1
  have hxx : l[k] = x := (List.getElem?_eq_some_iff.1 hx).2
  have hd : l.drop k = x :: l.drop (k + 1) := by rw [List.drop_eq_getElem_cons hk, hxx]
  unfold gap
  rw [hr, hd, stretch_cons_no hb]
  rfl
theorem lexAt_remark {l : List UInt8} {k j : Nat} (hk : k < l.length) (hr : remark (l.drop k) = true) (hc : closeAt (l.drop (k + 2)) = some j) : lexAt l k = lexAt l (k + 2 + j + 2) := by
  have hg : gap (l.drop k) = some (j + 4) := by
    unfold gap
    rw [hr, List.drop_drop, hc]
    rfl
  rw [lexAt_step l k hk, hg]
  simp only [ne_eq, Nat.succ_ne_zero, not_false_eq_true, if_true]
  rw [show k + (j + 4) = k + 2 + j + 2 by omega]
theorem lexAt_open {l : List UInt8} {k : Nat} (hk : k < l.length) (hr : remark (l.drop k) = true) (hc : closeAt (l.drop (k + 2)) = none) : lexAt l k = .bad 4 k := by
  have hg : gap (l.drop k) = none := by
    unfold gap
    rw [hr, List.drop_drop, hc]
    rfl
  rw [lexAt_step l k hk, hg]
/-- What skipping answers: a place behind which no gap lies; or one at which a remark isn't ended. -/
def SkipPost (l : List UInt8) (k : Nat) (e : Ending) : Prop :=
  (∃ p, e = .returned (.tuple #[.int .i64 (p : Nat), .int .i64 (-1)]) ∧ k ≤ p ∧ p ≤ l.length ∧ lexAt l k = lexAt l p ∧ (p < l.length → gap (l.drop p) = some 0)) ∨
  (∃ p, e = .returned (.tuple #[.int .i64 (p : Nat), .int .i64 (p : Nat)]) ∧ k ≤ p ∧ p < l.length ∧ lexAt l k = .bad 4 p)
set_option maxRecDepth 20000 in
set_option maxHeartbeats 4000000 in
theorem spec_skip (s : ByteArray) (l : List UInt8) (hl : s.data.toList = l) (k0 : Nat) (w : World) (hm : s.size ≤ 1048576) (hk0 : k0 ≤ s.size) :
    Calls Tryd.prog 35 #[.string s, .int .i64 k0] w fun e w' => SkipPost l k0 e ∧ w = w' := by
  have hsz : Hid (s.size = l.length) := size_list hl
  have hl' : Hid (s.data.toList = l) := hl
  clear hl
  go_enter Tryd.func35, Tryd.ntmps35
  go_wp2_with fail
  go_loop [1] (fun va => ∃ k : Nat, k0 ≤ k ∧ k ≤ s.size ∧ va = .int .i64 k ∧ lexAt l k0 = lexAt l k) (fun va => s.size - (intOf va).toNat)
  case atStart => exact ⟨k0, Nat.le_refl _, hk0, rfl, rfl⟩
  case round =>
    obtain ⟨k, hkk, hk, rfl, hans⟩ := hrel
    have hans' : Hid (lexAt l k0 = lexAt l k) := hans
    clear hans
    by_cases hlt : k < s.size
    · have hlt' : (k : Int) < (s.size : Int) := by omega
      obtain ⟨x, hx, hxi⟩ := WordCalls.byte_at hl'.out k hlt
      have hx' : Hid (l[k]? = some x) := hx
      clear hx
      have kb : Hid (∀ u, Calls Tryd.prog 56 #[.string s, .int .i64 k, .string ⟨#[47, 42]⟩] u fun e w' => e = .returned (.bool (remark (l.drop k))) ∧ u = w') := fun u => spec_begins s l hl'.out k ⟨#[47, 42]⟩ [47, 42] rfl u hm (by omega) (by decide) (by decide)
      have hbl : Hid (isGap x = (decide ((x.toNat : Int) = 32) || decide ((x.toNat : Int) = 9) || decide ((x.toNat : Int) = 10) || decide ((x.toNat : Int) = 13))) := rfl
      cases hb : isGap x with
      | true =>
        have hst : Hid (lexAt l k0 = lexAt l (k + 1)) := hans'.out.trans (lexAt_blank hx'.out hb)
        have h4 : (x.toNat : Int) = 32 ∨ (x.toNat : Int) = 9 ∨ (x.toNat : Int) = 10 ∨ (x.toNat : Int) = 13 := by
          have := hbl.out
          rw [hb] at this
          simp at this
          omega
        clear hb hbl kb hx'
        rcases h4 with h4 | h4 | h4 | h4
        all_goals
          go_wp2_with fail
          go_round
          case rel => exact ⟨k + 1, by omega, by omega, by go_num, hst.out⟩
          case measure => simp [intOf]; omega
      | false =>
        have h4 : ((x.toNat : Int) == 32) = false ∧ ((x.toNat : Int) == 9) = false ∧ ((x.toNat : Int) == 10) = false ∧ ((x.toNat : Int) == 13) = false := by
          have := hbl.out
          rw [hb] at this
          simp at this
          refine ⟨beq_false_of_ne ?_, beq_false_of_ne ?_, beq_false_of_ne ?_, beq_false_of_ne ?_⟩ <;> omega
        obtain ⟨e1, e2, e3, e4⟩ := h4
        cases hr : remark (l.drop k) with
        | false =>
          rw [hr] at kb
          have hgt : Hid (gap (l.drop k) = some 0) := gap_token hx'.out hb hr
          clear hb hbl hr
          go_wp2_with (go_at_call 56; refine (kb.out _).mono ?_; rintro e u0 ⟨rfl, rfl⟩)
          go_ret2
          exact ⟨.inl ⟨k, rfl, hkk, by rw [← hsz.out]; exact hk, hans'.out, fun _ => hgt.out⟩, rfl⟩
        | true =>
          rw [hr] at kb
          have hr' : Hid (remark (l.drop k) = true) := hr
          have h2 : k + 2 ≤ s.size := by have := remark_len hr; rw [List.length_drop, ← hsz.out] at this; omega
          clear hb hbl hr
          go_wp2_with (go_at_call 56; refine (kb.out _).mono ?_; rintro e u0 ⟨rfl, rfl⟩)
          clear kb
          go_loop [6] (fun ve => ∃ j : Nat, k + 2 + j ≤ s.size ∧ ve = .int .i64 (k + 2 + j : Nat) ∧ (∀ i, i < j → ([42, 47] : List UInt8).isPrefixOf ((l.drop (k + 2)).drop i) = false)) (fun ve => s.size - (intOf ve).toNat)
          case atStart => exact ⟨0, by omega, by go_num, fun i hi => by omega⟩
          case round =>
            obtain ⟨j, hj, rfl, hno⟩ := hrel
            have hno' : Hid (∀ i, i < j → ([42, 47] : List UInt8).isPrefixOf ((l.drop (k + 2)).drop i) = false) := hno
            clear hno
            obtain ⟨q, hq⟩ : ∃ q, k + 2 + j = q := ⟨_, rfl⟩
            have hq' : Hid (k + 2 + j = q) := hq
            rw [hq] at hj ⊢
            by_cases hjl : q < s.size
            · have hjl' : (q : Int) < (s.size : Int) := by omega
              have kc : Hid (∀ u, Calls Tryd.prog 56 #[.string s, .int .i64 q, .string ⟨#[42, 47]⟩] u fun e w' => e = .returned (.bool (([42, 47] : List UInt8).isPrefixOf (l.drop q))) ∧ u = w') := fun u => spec_begins s l hl'.out q ⟨#[42, 47]⟩ [42, 47] rfl u hm (by omega) (by decide) (by decide)
              have hdd : Hid ((l.drop (k + 2)).drop j = l.drop q) := by show _ = _; rw [List.drop_drop, hq]
              clear hq
              cases hp : ([42, 47] : List UInt8).isPrefixOf (l.drop q) with
              | false =>
                rw [hp] at kc
                have hp' : Hid (([42, 47] : List UInt8).isPrefixOf ((l.drop (k + 2)).drop j) = false) := by show _ = _; rw [hdd.out]; exact hp
                clear hp
                go_wp2_with (go_at_call 56; refine (kc.out _).mono ?_; rintro e u0 ⟨rfl, rfl⟩)
                go_round
                case rel => exact ⟨j + 1, by have := hq'.out; omega, by have := hq'.out; rw [show k + 2 + (j + 1) = q + 1 by omega]; go_num, fun i hi => by
                  by_cases e : i = j
                  · rw [e]; exact hp'.out
                  · exact hno'.out i (by omega)⟩
                case measure => simp [intOf]; omega
              | true =>
                rw [hp] at kc
                have hq2 : q + 2 ≤ s.size := by have := (List.isPrefixOf_iff_prefix.1 hp).length_le; rw [List.length_drop, ← hsz.out] at this; simp at this; omega
                have hst : Hid (lexAt l k0 = lexAt l (q + 2)) := by
                  show _ = _
                  rw [hans'.out, lexAt_remark (by rw [← hsz.out]; exact hlt) hr'.out (closeAt_yes hno'.out (by rw [hdd.out]; exact hp)), hq'.out]
                clear hp
                go_wp2_with (go_at_call 56; refine (kc.out _).mono ?_; rintro e u0 ⟨rfl, rfl⟩)
                go_round
                case rel => exact ⟨q + 2, by have := hq'.out; omega, hq2, by go_num, hst.out⟩
                case measure => have := hq'.out; simp [intOf]; omega
            · have hjl' : ¬ (q : Int) < (s.size : Int) := by omega
              have hjl2 : decide ((q : Int) < (s.size : Int)) = false := decide_eq_false hjl'
              have hjl3 : (s.size : Int) ≤ (q : Int) := by omega
              have hst : Hid (lexAt l k0 = .bad 4 k) := by
                show _ = _
                rw [hans'.out]
                refine lexAt_open (by rw [← hsz.out]; exact hlt) hr'.out (closeAt_no fun i hi => ?_)
                rw [List.length_drop, ← hsz.out] at hi
                exact hno'.out i (by have := hq'.out; omega)
              clear hq
              go_wp2_with fail
              go_ret2
              exact ⟨.inr ⟨k, rfl, hkk, by rw [← hsz.out]; exact hlt, hst.out⟩, rfl⟩
    · obtain rfl : k = s.size := by omega
      go_wp2_with fail
      go_ret2
      exact ⟨.inl ⟨s.size, rfl, hkk, by rw [← hsz.out]; exact Nat.le_refl _, hans'.out, fun h => by rw [← hsz.out] at h; omega⟩, rfl⟩
end Go.Proofs.YtjndgjheehjohaaDoor.SpecLexA
