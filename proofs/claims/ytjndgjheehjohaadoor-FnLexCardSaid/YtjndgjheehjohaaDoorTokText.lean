/-
  What TokText answers when it is called, the program's and the specification's; the walk of its exact law.
-/
import Derived.Test.YtjndgjheehjohaaDoorSignCalls
import Derived.Test.YtjndgjheehjohaaDoorTokCalls
import Derived.Test.YtjndgjheehjohaaDoorNumTextLaw
import Derived.Deep.RegionHeld
namespace Go.Proofs.YtjndgjheehjohaaDoor.TokText
open Go.RowKit PlainNum PlainOps PlainLex NameCalls CharCalls WordCalls SignCalls TokCalls NumCalls

abbrev Pow (w : World) : Prop := Lib.TabIs Tryd.prog w "internal/strconv.uint64pow10" .u64 Lib.pow10Tab
theorem pow_later {w w' : World} (h : Pow w) (hb : Below w.heap.size w w') : Pow w' := Lib.tabBelow_of_tabIs h w' hb
def numT (n : Int) : List UInt8 := Lib.itoa (wrap32 n)
theorem numT_len (a : Int) : (numT a).length ≤ 21 := by
  have h := wrap32_lo a
  unfold numT
  by_cases hneg : wrap32 a < 0
  · obtain ⟨u, hu⟩ : ∃ u : Nat, wrap32 a = -(u : Int) := ⟨(-wrap32 a).toNat, by omega⟩
    rw [hu, Lib.itoa_neg u (by omega), List.length_cons, Lib.decDigits_length]
    have := Lib.nDigits_le20 u (by omega)
    omega
  · obtain ⟨u, hu⟩ : ∃ u : Nat, wrap32 a = (u : Int) := ⟨(wrap32 a).toNat, by omega⟩
    rw [hu, Lib.itoa_nonneg u, Lib.decDigits_length]
    have := Lib.nDigits_le20 u (by omega)
    omega
/-- The text of a token. -/
def tokT (k n : Int) (l : List UInt8) : List UInt8 :=
  if k = 1 then numT n else if k = 2 then (if isName l then l else []) else if k = 3 then (if isSign l then l else []) else []
theorem tokT_len (k n : Int) (l : List UInt8) : (tokT k n l).length ≤ 21 + l.length := by
  have := numT_len n
  unfold tokT
  split
  · omega
  · split
    · split <;> simp
    · split
      · split <;> simp
      · simp
/-- The cells of a token's box. -/
abbrev C4 (u : World) (b : Nat) (k n : Int) (s : ByteArray) (a : Int) : Prop := u.cell? ⟨b, 0, none⟩ = some (.int .i64 k) ∧ u.cell? ⟨b, 1, none⟩ = some (.int .i64 n) ∧ u.cell? ⟨b, 2, none⟩ = some (.string s) ∧ u.cell? ⟨b, 3, none⟩ = some (.int .i64 a)
theorem box4 (w : World) (k n : Int) (s : ByteArray) (a : Int) (t : TypeId) (u : World) (hb : Below (w.alloc (.cells #[.int .i64 k, .int .i64 n, .string s, .int .i64 a] t)).heap.size (w.alloc (.cells #[.int .i64 k, .int .i64 n, .string s, .int .i64 a] t)) u) : C4 u w.heap.size k n s a := by
  refine ⟨?_, ?_, ?_, ?_⟩ <;> rw [hb.cell (by simp)] <;> simp
theorem tx_nil : tx [] = ⟨#[]⟩ := rfl
set_option maxHeartbeats 4000000 in
theorem spec_tokText (k n : Int) (s : ByteArray) (l : List UInt8) (a : Int) (w : World) (hl : s.data.toList = l) (hm : s.size ≤ 1048576) :
    Calls Tryd.prog 11 #[tokV k n s a] w fun e w' => e = .returned (.string (tx (tokT k n l))) ∧ Below w.heap.size w w' := by
  have hR : Hid (tx (tokT k n l) = if k = 1 then tx (numT n) else if k = 2 then (if isName l then s else ⟨#[]⟩) else if k = 3 then (if isSign l then s else ⟨#[]⟩) else ⟨#[]⟩) := by
    show _ = _
    unfold tokT
    rw [of_list hl]
    by_cases h1 : k = 1
    · rw [if_pos h1, if_pos h1]
    · rw [if_neg h1, if_neg h1]
      by_cases h2 : k = 2
      · rw [if_pos h2, if_pos h2]; split <;> rfl
      · rw [if_neg h2, if_neg h2]
        by_cases h3 : k = 3
        · rw [if_pos h3, if_pos h3]; split <;> rfl
        · rw [if_neg h3, if_neg h3]; rfl
  have kN : Hid (∀ u, Calls Tryd.prog 28 #[.int .i64 n] u fun e w' => e = .returned (.string (tx (numT n))) ∧ Below u.heap.size u w') := fun u => Digits.spec_numText n u
  have kf : Hid (∀ u, Calls Tryd.prog 24 #[.string s] u fun e w' => e = .returned (.bool (wordForm l)) ∧ u = w') := fun u => spec_word s l hl u hm
  have kh : Hid (∀ u b, Holds u b (words.map fun z => .string (tx z)) → Calls Tryd.prog 25 #[.slice (some ⟨b, 0, none⟩) 7 7, .string s] u fun e w' => e = .returned (.bool (decide (l ∈ words))) ∧ u = w') := fun u b hb => spec_has b 7 words rfl (by omega) s l hl u hb
  have kg : Hid (∀ u b, Holds u b (signs.map fun z => .string (tx z)) → Calls Tryd.prog 25 #[.slice (some ⟨b, 0, none⟩) 29 29, .string s] u fun e w' => e = .returned (.bool (decide (l ∈ signs))) ∧ u = w') := fun u b hb => spec_has b 29 signs rfl (by omega) s l hl u hb
  have hN : Hid (isName l = (wordForm l && !decide (l ∈ words))) := rfl
  have hS : Hid (isSign l = (decide (l ∈ words) || decide (l ∈ signs))) := rfl
  have T0 : Hid (Below w.heap.size w (w.alloc (.cells #[.int .i64 k, .int .i64 n, .string s, .int .i64 a] 27))) := (Below.refl _ _).alloc (Nat.le_refl _) _
  have c0 : Hid (∀ u, Below (w.alloc (.cells #[.int .i64 k, .int .i64 n, .string s, .int .i64 a] 27)).heap.size (w.alloc (.cells #[.int .i64 k, .int .i64 n, .string s, .int .i64 a] 27)) u → C4 u w.heap.size k n s a) := fun u hb => box4 w k n s a _ u hb
  have D0 : Hid (Below (w.alloc (.cells #[.int .i64 k, .int .i64 n, .string s, .int .i64 a] 27)).heap.size (w.alloc (.cells #[.int .i64 k, .int .i64 n, .string s, .int .i64 a] 27)) (w.alloc (.cells #[.int .i64 k, .int .i64 n, .string s, .int .i64 a] 27)).drew) := (Below.refl _ _).drew
  clear hl hm
  generalize tx (tokT k n l) = R at *
  generalize tx (numT n) = TN at *
  generalize isName l = bN at *
  generalize isSign l = bS at *
  generalize wordForm l = F at *
  generalize decide (l ∈ words) = B at *
  generalize decide (l ∈ signs) = G at *
  by_cases h1 : k = 1
  · subst h1
    have e1 : Hid (R = TN) := hR.out
    clear hR
    go_enter Tryd.func11, Tryd.ntmps11
    go_wp2_with (go_at_call 28; refine (kN.out _).mono ?_; rintro e w1 ⟨rfl, b1⟩)
    go_ret
    exact ⟨by rw [e1.out]; rfl, T0.out.trans (b1.mono (by simp))⟩
  · by_cases h2 : k = 2
    · subst h2
      have e1 : Hid (R = if bN then s else ⟨#[]⟩) := hR.out
      clear hR
      cases F with
      | false =>
        have e2 : Hid (R = ⟨#[]⟩) := by show _ = _; rw [e1.out, hN.out]; rfl
        clear e1 hN hS kh kg
        go_enter Tryd.func11, Tryd.ntmps11
        go_wp2_with fail
        obtain ⟨_, _, _, _⟩ := c0.out _ (Below.refl _ _)
        obtain ⟨_, _, _, _⟩ := c0.out _ D0.out
        first
          | go_region_with (go_at_call 24; refine (kf.out _).mono ?_; rintro e u0 ⟨rfl, rfl⟩)
          | fail
        all_goals
          go_wp2_with fail
          go_ret
          exact ⟨by rw [e2.out]; rfl, T0.out.trans (D0.out.mono (by simp))⟩
      | true =>
        have e2 : Hid (R = if !B then s else ⟨#[]⟩) := by show _ = _; rw [e1.out, hN.out]; rfl
        clear e1 hN hS kg
        go_enter Tryd.func11, Tryd.ntmps11
        go_wp2_with fail
        obtain ⟨_, _, _, _⟩ := c0.out _ (Below.refl _ _)
        obtain ⟨_, _, _, _⟩ := c0.out _ D0.out
        go_region_held (fun w' => w'.cell? ⟨w.heap.size, 0, none⟩ = some (.int .i64 2) ∧ w'.cell? ⟨w.heap.size, 1, none⟩ = some (.int .i64 n) ∧ w'.cell? ⟨w.heap.size, 2, none⟩ = some (.string s) ∧ w'.cell? ⟨w.heap.size, 3, none⟩ = some (.int .i64 a)) (go_keep)
          (first
            | (go_at_call 24; refine (kf.out _).mono ?_; rintro e u0 ⟨rfl, rfl⟩)
            | (go_at_call 26; refine (spec_words _).mono ?_; rintro e w1 ⟨b, rfl, h1, b1⟩; have H1 : Hid (Holds w1 b (words.map fun z => .string (tx z))) := h1; clear h1; have B1 : Hid (Below (w.alloc (.cells #[.int .i64 2, .int .i64 n, .string s, .int .i64 a] 27)).heap.size (w.alloc (.cells #[.int .i64 2, .int .i64 n, .string s, .int .i64 a] 27)) w1) := D0.out.trans b1; clear b1; obtain ⟨_, _, _, _⟩ := c0.out _ B1.out)
            | (go_at_call 25; refine (kh.out _ _ H1.out).mono ?_; rintro e u0 ⟨rfl, rfl⟩))
        cases B with
        | true =>
          go_wp2_with fail
          go_ret
          exact ⟨by rw [e2.out]; rfl, T0.out.trans (B1.out.mono (by simp))⟩
        | false =>
          go_wp2_with fail
          go_ret
          exact ⟨by rw [e2.out]; rfl, T0.out.trans (B1.out.mono (by simp))⟩
    · by_cases h3 : k = 3
      · subst h3
        have e1 : Hid (R = if bS then s else ⟨#[]⟩) := hR.out
        clear hR kf
        cases B with
        | true =>
          have e2 : Hid (R = s) := by show _ = _; rw [e1.out, hS.out]; rfl
          clear e1 hN hS kg
          go_enter Tryd.func11, Tryd.ntmps11
          go_wp2_with fail
          obtain ⟨_, _, _, _⟩ := c0.out _ (Below.refl _ _)
          obtain ⟨_, _, _, _⟩ := c0.out _ D0.out
          first
            | go_region_with (first
              | (go_at_call 26; refine (spec_words _).mono ?_; rintro e w1 ⟨b, rfl, h1, b1⟩; have H1 : Hid (Holds w1 b (words.map fun z => .string (tx z))) := h1; clear h1; have B1 : Hid (Below (w.alloc (.cells #[.int .i64 3, .int .i64 n, .string s, .int .i64 a] 27)).heap.size (w.alloc (.cells #[.int .i64 3, .int .i64 n, .string s, .int .i64 a] 27)) w1) := D0.out.trans b1; clear b1; obtain ⟨_, _, _, _⟩ := c0.out _ B1.out)
              | (go_at_call 25; refine (kh.out _ _ H1.out).mono ?_; rintro e u0 ⟨rfl, rfl⟩))
            | fail
          all_goals
            go_wp2_with fail
            go_ret
            exact ⟨by rw [e2.out]; rfl, T0.out.trans (B1.out.mono (by simp))⟩
        | false =>
          have e2 : Hid (R = if G then s else ⟨#[]⟩) := by show _ = _; rw [e1.out, hS.out]; rfl
          clear e1 hN hS
          go_enter Tryd.func11, Tryd.ntmps11
          go_wp2_with fail
          obtain ⟨_, _, _, _⟩ := c0.out _ (Below.refl _ _)
          obtain ⟨_, _, _, _⟩ := c0.out _ D0.out
          go_region_held (fun w' => w'.cell? ⟨w.heap.size, 0, none⟩ = some (.int .i64 3) ∧ w'.cell? ⟨w.heap.size, 1, none⟩ = some (.int .i64 n) ∧ w'.cell? ⟨w.heap.size, 2, none⟩ = some (.string s) ∧ w'.cell? ⟨w.heap.size, 3, none⟩ = some (.int .i64 a)) (go_keep)
            (first
              | (go_at_call 26; refine (spec_words _).mono ?_; rintro e w1 ⟨b, rfl, h1, b1⟩; have H1 : Hid (Holds w1 b (words.map fun z => .string (tx z))) := h1; clear h1; have B1 : Hid (Below (w.alloc (.cells #[.int .i64 3, .int .i64 n, .string s, .int .i64 a] 27)).heap.size (w.alloc (.cells #[.int .i64 3, .int .i64 n, .string s, .int .i64 a] 27)) w1) := D0.out.trans b1; clear b1; obtain ⟨_, _, _, _⟩ := c0.out _ B1.out)
              | (go_at_call 29; refine (spec_signs _).mono ?_; rintro e w2 ⟨b2, rfl, h2, q2⟩; have H2 : Hid (Holds w2 b2 (signs.map fun z => .string (tx z))) := h2; clear h2; have B2 : Hid (Below (w.alloc (.cells #[.int .i64 3, .int .i64 n, .string s, .int .i64 a] 27)).heap.size (w.alloc (.cells #[.int .i64 3, .int .i64 n, .string s, .int .i64 a] 27)) w2) := B1.out.trans (q2.mono B1.out.size); clear q2; obtain ⟨_, _, _, _⟩ := c0.out _ B2.out)
              | (go_at_call 25; refine (kh.out _ _ H1.out).mono ?_; rintro e u0 ⟨rfl, rfl⟩; clear kh)
              | (go_at_call 25; refine (kg.out _ _ H2.out).mono ?_; rintro e u0 ⟨rfl, rfl⟩))
          cases G with
          | true =>
            go_wp2_with fail
            go_ret
            exact ⟨by rw [e2.out]; rfl, T0.out.trans (B2.out.mono (by simp))⟩
          | false =>
            go_wp2_with fail
            go_ret
            exact ⟨by rw [e2.out]; rfl, T0.out.trans (B2.out.mono (by simp))⟩
      · have e1 : Hid (R = ⟨#[]⟩) := by show _ = _; rw [hR.out, if_neg h1, if_neg h2, if_neg h3]
        clear hR
        go_enter Tryd.func11, Tryd.ntmps11
        go_wp2_with fail
        go_ret
        exact ⟨by rw [e1.out]; rfl, T0.out⟩
set_option maxHeartbeats 4000000 in
theorem impl_tokText (k n : Int) (s : ByteArray) (l : List UInt8) (a : Int) (w : World) (hl : s.data.toList = l) (hm : s.size ≤ 1048576) (hw : WTab w) (hs : STab w) (hp : Pow w) :
    Calls Tryd.prog 13 #[tokV k n s a] w fun e w' => e = .returned (.string (tx (tokT k n l))) ∧ Below w.heap.size w w' := by
  have hR : Hid (tx (tokT k n l) = if k = 1 then tx (numT n) else if k = 2 then (if isName l then s else ⟨#[]⟩) else if k = 3 then (if isSign l then s else ⟨#[]⟩) else ⟨#[]⟩) := by
    show _ = _
    unfold tokT
    rw [of_list hl]
    by_cases h1 : k = 1
    · rw [if_pos h1, if_pos h1]
    · rw [if_neg h1, if_neg h1]
      by_cases h2 : k = 2
      · rw [if_pos h2, if_pos h2]; split <;> rfl
      · rw [if_neg h2, if_neg h2]
        by_cases h3 : k = 3
        · rw [if_pos h3, if_pos h3]; split <;> rfl
        · rw [if_neg h3, if_neg h3]; rfl
  have T0 : Hid (Below w.heap.size w (w.alloc (.cells #[.int .i64 k, .int .i64 n, .string s, .int .i64 a] 27))) := (Below.refl _ _).alloc (Nat.le_refl _) _
  have kN : Hid (∀ u, Below w.heap.size w u → Calls Tryd.prog 30 #[.int .i64 n] u fun e w' => e = .returned (.string (tx (numT n))) ∧ Below u.heap.size u w') := fun u hu => NumTextLaw.impl_numText n u (pow_later hp hu)
  have kM : Hid (∀ u, Below w.heap.size w u → Calls Tryd.prog 27 #[.string s] u fun e w' => e = .returned (.bool (isName l)) ∧ u = w') := fun u hu => impl_isName s l hl u (hw.later hu) hm
  have kS : Hid (∀ u, Below w.heap.size w u → Calls Tryd.prog 31 #[.string s] u fun e w' => e = .returned (.bool (isSign l)) ∧ u = w') := fun u hu => impl_isSign s l hl u (hw.later hu) (hs.later hu) hm
  have kC : Hid (∀ u, Calls Tryd.prog 32 #[.string s] u fun e w' => e = .returned (.string s) ∧ Below u.heap.size u w') := fun u => clone s u (Nat.le_trans hm (by omega))
  clear hl hm hw hs hp
  generalize tx (tokT k n l) = R at *
  generalize tx (numT n) = TN at *
  generalize isName l = bN at *
  generalize isSign l = bS at *
  by_cases h1 : k = 1
  · subst h1
    have e1 : Hid (R = TN) := hR.out
    clear hR kM kS kC
    go_enter Tryd.func13, Tryd.ntmps13
    go_wp2_with (go_at_call 30; refine (kN.out _ T0.out).mono ?_; rintro e w1 ⟨rfl, b1⟩)
    go_ret
    exact ⟨by rw [e1.out]; rfl, T0.out.trans (b1.mono (by simp))⟩
  · have h1' : (k == 1) = false := by simpa using h1
    by_cases h2 : k = 2
    · subst h2
      have e1 : Hid (R = if bN then s else ⟨#[]⟩) := hR.out
      clear hR kN kS
      cases bN with
      | true =>
        have e2 : Hid (R = s) := e1.out
        clear e1
        go_enter Tryd.func13, Tryd.ntmps13
        go_wp2_with (first
          | (go_at_call 27; refine (kM.out _ T0.out).mono ?_; rintro e u0 ⟨rfl, rfl⟩)
          | (go_at_call 32; refine (kC.out _).mono ?_; rintro e w1 ⟨rfl, b1⟩))
        go_ret
        exact ⟨by rw [e2.out]; rfl, T0.out.trans (b1.mono (by simp))⟩
      | false =>
        have e2 : Hid (R = ⟨#[]⟩) := e1.out
        clear e1
        go_enter Tryd.func13, Tryd.ntmps13
        go_wp2_with (go_at_call 27; refine (kM.out _ T0.out).mono ?_; rintro e u0 ⟨rfl, rfl⟩)
        go_ret
        exact ⟨by rw [e2.out]; rfl, T0.out⟩
    · have h2' : (k == 2) = false := by simpa using h2
      by_cases h3 : k = 3
      · subst h3
        have e1 : Hid (R = if bS then s else ⟨#[]⟩) := hR.out
        clear hR kN kM
        cases bS with
        | true =>
          have e2 : Hid (R = s) := e1.out
          clear e1
          go_enter Tryd.func13, Tryd.ntmps13
          go_wp2_with (first
            | (go_at_call 31; refine (kS.out _ T0.out).mono ?_; rintro e u0 ⟨rfl, rfl⟩)
            | (go_at_call 32; refine (kC.out _).mono ?_; rintro e w1 ⟨rfl, b1⟩))
          go_ret
          exact ⟨by rw [e2.out]; rfl, T0.out.trans (b1.mono (by simp))⟩
        | false =>
          have e2 : Hid (R = ⟨#[]⟩) := e1.out
          clear e1
          go_enter Tryd.func13, Tryd.ntmps13
          go_wp2_with (go_at_call 31; refine (kS.out _ T0.out).mono ?_; rintro e u0 ⟨rfl, rfl⟩)
          go_ret
          exact ⟨by rw [e2.out]; rfl, T0.out⟩
      · have e1 : Hid (R = ⟨#[]⟩) := by show _ = _; rw [hR.out, if_neg h1, if_neg h2, if_neg h3]
        have h3' : (k == 3) = false := by simpa using h3
        clear hR
        go_enter Tryd.func13, Tryd.ntmps13
        go_wp2_with fail
        go_ret
        exact ⟨by rw [e1.out]; rfl, T0.out⟩
set_option maxHeartbeats 4000000 in
theorem fnExactTokText (k n : Int) (s : ByteArray) (a : Int) (w : World) (hl : s.size ≤ 9223372036854775807) (hw : WTab w) (hs : STab w) (hp : Pow w) :
    Calls Tryd.prog 4 #[tokV k n s a] w fun e w' => e = .returned (.bool true) ∧ Below w.heap.size w w' := by
  have kz : Hid (∀ u, Calls Tryd.prog 10 #[tokV k n s a, .int .i64 1048576] u fun e w' => ∃ r : Int, e = .returned (.int .i64 r) ∧ -1 ≤ r ∧ r ≤ 1048576 ∧ (0 ≤ r → s.size ≤ 1048576) ∧ (0 ≤ r → r = 1048576 - s.size) ∧ Below u.heap.size u w') := fun u => szTok k n s a 1048576 u hl (by omega) (by omega)
  have kI : Hid (∀ u, s.size ≤ 1048576 → Below w.heap.size w u → Calls Tryd.prog 13 #[tokV k n s a] u fun e w' => e = .returned (.string (tx (tokT k n s.data.toList))) ∧ Below u.heap.size u w') := fun u h hu => impl_tokText k n s _ a u rfl h (hw.later hu) (hs.later hu) (pow_later hp hu)
  have kS : Hid (∀ u, s.size ≤ 1048576 → Calls Tryd.prog 11 #[tokV k n s a] u fun e w' => e = .returned (.string (tx (tokT k n s.data.toList))) ∧ Below u.heap.size u w') := fun u h => spec_tokText k n s _ a u rfl h
  clear hl hp hw hs
  generalize tx (tokT k n s.data.toList) = R at *
  have T0 : Hid (Below w.heap.size w (w.alloc (.cells #[.int .i64 k, .int .i64 n, .string s, .int .i64 a] 24))) := (Below.refl _ _).alloc (Nat.le_refl _) _
  have c0 : Hid (∀ u, Below (w.alloc (.cells #[.int .i64 k, .int .i64 n, .string s, .int .i64 a] 24)).heap.size (w.alloc (.cells #[.int .i64 k, .int .i64 n, .string s, .int .i64 a] 24)) u → C4 u w.heap.size k n s a) := fun u hb => box4 w k n s a _ u hb
  go_enter Tryd.func4, Tryd.ntmps4
  go_wp2_with (go_at_call 10; refine (kz.out _).mono ?_; rintro e w1 ⟨r, rfl, r0, r1, r2, _, q1⟩; have q1' : Hid _ := q1; have r2' : Hid (0 ≤ r → s.size ≤ 1048576) := r2; clear q1 r2; obtain ⟨_, _, _, _⟩ := c0.out _ q1'.out)
  · go_ret
    exact ⟨rfl, T0.out.trans (q1'.out.mono (by simp))⟩
  · have hs : Hid (s.size ≤ 1048576) := r2'.out (by omega)
    clear r2'
    go_wp2_with (first
      | (go_at_call 12; refine (MemTok.to1 _ _ _ _ _).mono ?_; rintro e w2 ⟨rfl, q2⟩; have Q2 : Hid _ := q1'.out.trans (q2.mono q1'.out.size); clear q2)
      | (go_at_call 11; refine (kS.out _ hs.out).mono ?_; rintro e w3 ⟨rfl, q3⟩; have Q3 : Hid _ := Q2.out.trans (q3.mono Q2.out.size); clear q3 kS; obtain ⟨_, _, _, _⟩ := c0.out _ Q3.out))
    go_wp2_with (first
      | (go_at_call 12; refine (MemTok.to1 _ _ _ _ _).mono ?_; rintro e w4 ⟨rfl, q4⟩; have Q4 : Hid _ := Q3.out.trans (q4.mono Q3.out.size); clear q4)
      | (go_at_call 13; refine (kI.out _ hs.out (T0.out.trans (Q4.out.mono (by simp)))).mono ?_; rintro e w5 ⟨rfl, q5⟩; have Q5 : Hid _ := Q4.out.trans (q5.mono Q4.out.size); clear q5))
    go_ret
    exact ⟨rfl, T0.out.trans (Q5.out.mono (by simp))⟩
end Go.Proofs.YtjndgjheehjohaaDoor.TokText
