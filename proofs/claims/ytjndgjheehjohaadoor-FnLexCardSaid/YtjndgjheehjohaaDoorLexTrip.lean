/-
  Tokens that were read are read again from the text that is made of them; no walk.
-/
import Derived.Test.YtjndgjheehjohaaDoorLexLaw
import Derived.Test.YtjndgjheehjohaaDoorTokList
namespace Go.Proofs.YtjndgjheehjohaaDoor.LexTrip
open Go.RowKit PlainNum PlainOps PlainLex PlainScan WordCalls TokText LexFace OwnTok LexLaw

/-- What reading gives: a number that fits, a name, or a sign. -/
def Good (k n : Int) (w : List UInt8) : Prop :=
  (k = 1 ∧ w = [] ∧ ∃ v : Nat, n = v ∧ v ≤ 2147483647) ∨ (k = 2 ∧ n = 0 ∧ wordForm w = true ∧ isWord w = false) ∨ (k = 3 ∧ n = 0 ∧ wordForm w = true ∧ isWord w = true) ∨ (k = 3 ∧ n = 0 ∧ w ∈ signs)
theorem takeWhile_word {c : UInt8} {l : List UInt8} (h : small c = true) : wordForm ((c :: l).takeWhile inName) = true := by
  rw [List.takeWhile_cons, if_pos (small_part h)]
  show (small c && (c :: l.takeWhile inName).all inName) = true
  rw [h, Bool.true_and, List.all_cons, small_part h, Bool.true_and, List.all_eq_true]
  exact LexImpl.takeWhile_all inName l
theorem one_good {l : List UInt8} (h : (one l).code = 0) (k : Nat) : ∃ kd n w, (one l).tok k = (kd, n, w, (k : Int)) ∧ Good kd n w ∧ w.length ≤ (one l).size := by
  cases l with
  | nil => simp [one, One.code] at h
  | cons c l =>
    rw [one_cons] at h ⊢
    by_cases hd : digit c = true
    · rw [if_pos hd] at h ⊢
      by_cases hv : dval ((c :: l).takeWhile digit) ≤ 2147483647
      · rw [if_pos hv]
        exact ⟨_, _, _, rfl, .inl ⟨rfl, rfl, _, rfl, hv⟩, Nat.zero_le _⟩
      · rw [if_neg hv] at h; simp [One.code] at h
    · rw [if_neg hd] at h ⊢
      by_cases hs : small c = true
      · rw [if_pos hs]
        refine ⟨_, _, _, rfl, ?_, Nat.le_refl _⟩
        cases hw : isWord ((c :: l).takeWhile inName) with
        | true => exact .inr (.inr (.inl ⟨rfl, rfl, takeWhile_word hs, hw⟩))
        | false => exact .inr (.inl ⟨rfl, rfl, takeWhile_word hs, hw⟩)
      · rw [if_neg hs] at h ⊢
        by_cases hg : sgn (c :: l) = []
        · rw [if_pos hg] at h; simp [One.code] at h
        · rw [if_neg hg]
          refine ⟨_, _, _, rfl, .inr (.inr (.inr ⟨rfl, rfl, ?_⟩)), Nat.le_refl _⟩
          rcases sgn_cases (c :: l) with ⟨h1, _⟩ | ⟨h1, _⟩
          · exact absurd h1 hg
          · exact h1
/-- All that is read is good, lies within the text, and has no more letters than the text. -/
theorem lexL_good : ∀ (f : Nat) (l : List UInt8) (a : Nat), (∀ t ∈ outL (lexL f l a), Good t.1 t.2.1 t.2.2.1 ∧ t.2.2.2 < a + l.length) ∧ ((outL (lexL f l a)).map fun t => t.2.2.1.length).sum ≤ l.length
  | 0, l, a => by simp [lexL, outL]
  | f + 1, l, a => by
    unfold lexL
    by_cases h0 : l = []
    · rw [if_pos h0]; simp [outL]
    · rw [if_neg h0]
      cases hg : gap l with
      | none => simp [outL]
      | some g =>
        have hgl := gap_le hg
        simp only
        by_cases hg0 : g ≠ 0
        · rw [if_pos hg0]
          obtain ⟨h1, h2⟩ := lexL_good f (l.drop g) (a + g)
          rw [List.length_drop] at h1 h2
          exact ⟨fun t ht => ⟨(h1 t ht).1, by have := (h1 t ht).2; omega⟩, by omega⟩
        · rw [if_neg hg0]
          by_cases hc : (one l).code ≠ 0
          · rw [if_pos hc]; simp [outL]
          · rw [if_neg hc]
            have hc' : (one l).code = 0 := by omega
            obtain ⟨h1, h2⟩ := lexL_good f (l.drop (one l).size) (a + (one l).size)
            have h3 := one_pos hc'
            obtain ⟨kd, n, w, h4, h5, h6⟩ := one_good hc' a
            rw [List.length_drop] at h1 h2
            rw [h4]
            cases hr : lexL f (l.drop (one l).size) (a + (one l).size) with
            | ok x =>
              rw [hr] at h1 h2
              simp only [Ans.cons, outL] at h1 h2 ⊢
              refine ⟨fun t ht => ?_, ?_⟩
              · rcases List.mem_cons.1 ht with rfl | ht
                · exact ⟨h5, by show (a : Int) < _; omega⟩
                · exact ⟨(h1 t ht).1, by have := (h1 t ht).2; omega⟩
              · rw [List.map_cons, List.sum_cons]
                show w.length + _ ≤ _
                omega
            | bad c b => simp [Ans.cons, outL]
theorem lexT_good (l : List UInt8) : (∀ t ∈ outL (lexT l), Good t.1 t.2.1 t.2.2.1 ∧ t.2.2.2 < l.length) ∧ ((outL (lexT l)).map fun t => t.2.2.1.length).sum ≤ l.length := by
  unfold lexT
  split
  · have := lexL_good (l.drop 0).length (l.drop 0) 0
    unfold lexAt
    rw [List.drop_zero] at this ⊢
    simpa using this
  · simp [outL]
theorem dig_of (n : Nat) (h : n < 10) : (UInt8.ofNat (48 + n)).toNat = 48 + n := by rw [UInt8.toNat_ofNat']; omega
theorem digit_of (n : Nat) (h : n < 10) : digit (UInt8.ofNat (48 + n)) = true := btw_true.2 (by rw [dig_of n h]; omega)
theorem dec_good (u : Nat) : (∀ c ∈ Lib.decDigits u, digit c = true) ∧ dval (Lib.decDigits u) = u ∧ Lib.decDigits u ≠ [] := by
  induction u using Nat.strongRecOn with
  | _ u ih =>
    by_cases hu : u < 10
    · rw [Lib.decDigits_one hu]
      refine ⟨fun c hc => ?_, ?_, by simp⟩
      · rw [List.mem_singleton.1 hc]; exact digit_of u hu
      · show 0 * 10 + ((UInt8.ofNat (48 + u)).toNat - 48) = u
        rw [dig_of u hu]; omega
    · obtain ⟨h1, h2, h3⟩ := ih (u / 10) (by omega)
      rw [Lib.decDigits, dif_neg hu]
      refine ⟨fun c hc => ?_, ?_, by simp⟩
      · rcases List.mem_append.1 hc with hc | hc
        · exact h1 c hc
        · rw [List.mem_singleton.1 hc]; exact digit_of _ (by omega)
      · rw [dval_snoc, h2, dig_of _ (by omega)]; omega
theorem numT_dec {v : Nat} (h : v ≤ 2147483647) : numT (v : Int) = Lib.decDigits v := by
  unfold numT
  rw [show wrap32 (v : Int) = (v : Int) by unfold wrap32; omega]
  exact Lib.itoa_nonneg v
/-- What may stand behind a token's text. -/
def Rest (r : List UInt8) : Prop := r = [] ∨ ∃ q, r = 32 :: q
theorem takeWhile_text {p : UInt8 → Bool} {t r : List UInt8} (ht : ∀ c ∈ t, p c = true) (hr : Rest r) (h32 : p 32 = false) : (t ++ r).takeWhile p = t := by
  induction t with
  | nil =>
    rcases hr with h | ⟨q, h⟩
    · rw [h]; rfl
    · rw [h, List.nil_append, List.takeWhile_cons, h32]; rfl
  | cons c t ih =>
    rw [List.cons_append, List.takeWhile_cons, if_pos (ht c (by simp)), ih (fun c hc => ht c (by simp [hc]))]
theorem prefix_two {x l : List UInt8} (h : x.length ≤ 2) : x.isPrefixOf l = x.isPrefixOf (l.take 2) := by
  match x, h with
  | [], _ => rfl
  | [a], _ =>
    cases l with
    | nil => rfl
    | cons b l => simp [List.isPrefixOf]
  | [a, b], _ =>
    match l with
    | [] => rfl
    | [c] => rfl
    | c :: d :: l => simp [List.isPrefixOf]
theorem find_congr {α : Type} {p q : α → Bool} : ∀ {l : List α}, (∀ x ∈ l, p x = q x) → l.find? p = l.find? q
  | [], _ => rfl
  | a :: l, h => by
    rw [List.find?_cons, List.find?_cons, h a (by simp), find_congr (fun x hx => h x (by simp [hx]))]
theorem sgn_two (l : List UInt8) : sgn l = sgn (l.take 2) := by
  unfold sgn
  rw [find_congr (fun x hx => prefix_two (signs_len x hx).2)]
theorem sgn_space : ∀ t ∈ signs, sgn ((t ++ [32]).take 2) = t := by decide
theorem sgn_text {t r : List UInt8} (ht : t ∈ signs) (hr : Rest r) : sgn (t ++ r) = t := by
  rcases hr with h | ⟨q, h⟩
  · rw [h, List.append_nil]; exact sgn_self t ht
  · rw [h, sgn_two]
    have h1 := (signs_len t ht).1
    have h2 := (signs_len t ht).2
    rw [show (t ++ 32 :: q).take 2 = (t ++ [32]).take 2 from by
      match t, h1, h2 with
      | [a], _, _ => rfl
      | [a, b], _, _ => rfl]
    exact sgn_space t ht
theorem signs_first : ∀ t ∈ signs, ∃ c r, t = c :: r ∧ digit c = false ∧ small c = false ∧ isGap c = false := by
  have h : ∀ t ∈ signs, (match t with | [] => false | c :: _ => !digit c && !small c && !isGap c) = true := by decide
  intro t ht
  have := h t ht
  cases t with
  | nil => cases this
  | cons c r =>
    simp at this
    exact ⟨c, r, rfl, this.1.1, this.1.2, this.2⟩
theorem digit_gap {c : UInt8} (h : digit c = true) : isGap c = false := by
  obtain ⟨h1, h2⟩ := btw_true.1 h
  unfold isGap
  simp
  omega
theorem small_gap {c : UInt8} (h : small c = true) : isGap c = false ∧ digit c = false := by
  obtain ⟨h1, h2⟩ := btw_true.1 h
  refine ⟨?_, btw_false.2 (by omega)⟩
  unfold isGap
  simp
  omega
theorem not_remark_first {c : UInt8} {r : List UInt8} (h : (c.toNat : Int) ≠ 47) : remark (c :: r) = false := by
  unfold remark
  rw [Bool.eq_false_iff]
  intro hp
  obtain ⟨t, ht⟩ := List.isPrefixOf_iff_prefix.1 hp
  simp only [List.cons_append] at ht
  have := (List.cons.inj ht).1
  rw [← this] at h
  exact h rfl
theorem sign_remark {t r : List UInt8} (ht : t ∈ signs) (hr : Rest r) : remark (t ++ r) = false := by
  have h : ∀ t ∈ signs, remark ((t ++ [32]).take 2) = false ∧ remark t = false := by decide
  rcases hr with hq | ⟨q, hq⟩
  · rw [hq, List.append_nil]; exact (h t ht).2
  · have h1 := (signs_len t ht).1
    have h2 := (signs_len t ht).2
    unfold remark
    rw [prefix_two (by decide), hq, show (t ++ 32 :: q).take 2 = (t ++ [32]).take 2 from by
      match t, h1, h2 with
      | [a], _, _ => rfl
      | [a, b], _, _ => rfl]
    exact (h t ht).1
theorem word_back (k : Int) (w r : List UInt8) (hw : wordForm w = true) (hr : Rest r) (hk : (if isWord w then (3 : Int) else 2) = k) : w ≠ [] ∧ gap (w ++ r) = some 0 ∧ (one (w ++ r)).code = 0 ∧ (one (w ++ r)).size = w.length ∧ (∀ a, (one (w ++ r)).tok a = (k, 0, w, (a : Int))) ∧ ∃ c q, w = c :: q ∧ isGap c = false := by
  cases w with
  | nil => cases hw
  | cons c q =>
    have hw' : (small c && (c :: q).all inName) = true := hw
    rw [Bool.and_eq_true] at hw'
    obtain ⟨hs, ha⟩ := hw'
    rw [List.all_eq_true] at ha
    obtain ⟨g1, g2⟩ := small_gap hs
    obtain ⟨b1, b2⟩ := btw_true.1 hs
    have htw : ((c :: q) ++ r).takeWhile inName = c :: q := takeWhile_text ha hr (by decide)
    have ho : one ((c :: q) ++ r) = .txt (isWord (c :: q)) (c :: q) := by
      rw [List.cons_append, one_cons, if_neg (by rw [g2]; decide), if_pos hs, ← List.cons_append, htw]
    refine ⟨by simp, ?_, by rw [ho]; rfl, by rw [ho]; rfl, fun a => ?_, c, q, rfl, g1⟩
    · have hnr : remark ((c :: q) ++ r) = false := not_remark_first (by omega)
      unfold gap
      rw [hnr, List.cons_append, stretch_cons_no g1]
      rfl
    · rw [ho, ← hk]
      rfl
/-- A good token's text, with a blank or nothing behind it, is read as that token. -/
theorem read_back {k n : Int} {w r : List UInt8} (h : Good k n w) (hr : Rest r) : tokT k n w ≠ [] ∧ gap (tokT k n w ++ r) = some 0 ∧ (one (tokT k n w ++ r)).code = 0 ∧ (one (tokT k n w ++ r)).size = (tokT k n w).length ∧ (∀ a, (one (tokT k n w ++ r)).tok a = (k, n, w, (a : Int))) ∧ ∃ c q, tokT k n w = c :: q ∧ isGap c = false := by
  rcases h with ⟨rfl, rfl, v, rfl, hv⟩ | ⟨rfl, rfl, hw, hn⟩ | ⟨rfl, rfl, hw, hn⟩ | ⟨rfl, rfl, hs⟩
  · have ht : tokT 1 (v : Int) [] = Lib.decDigits v := by unfold tokT; rw [if_pos rfl, numT_dec hv]
    obtain ⟨d1, d2, d3⟩ := dec_good v
    rw [ht]
    obtain ⟨c, q, hc⟩ : ∃ c q, Lib.decDigits v = c :: q := by
      cases hq : Lib.decDigits v with
      | nil => exact absurd hq d3
      | cons c q => exact ⟨c, q, rfl⟩
    have hcd := d1 c (by rw [hc]; simp)
    obtain ⟨b1, b2⟩ := btw_true.1 hcd
    have htw : (Lib.decDigits v ++ r).takeWhile digit = Lib.decDigits v := takeWhile_text d1 hr (by decide)
    have ho : one (Lib.decDigits v ++ r) = .num v (Lib.decDigits v).length := by
      have e : Lib.decDigits v ++ r = c :: (q ++ r) := by rw [hc]; rfl
      rw [e, one_cons, if_pos hcd, ← e, htw, d2, if_pos hv]
      unfold stretch
      rw [htw]
    refine ⟨d3, ?_, by rw [ho]; rfl, by rw [ho]; rfl, fun a => by rw [ho]; rfl, c, q, hc, digit_gap hcd⟩
    have hnr : remark (Lib.decDigits v ++ r) = false := by rw [hc]; exact not_remark_first (by omega)
    unfold gap
    rw [hnr, hc, List.cons_append, stretch_cons_no (digit_gap hcd)]
    rfl
  · have ht : tokT 2 0 w = w := by unfold tokT; rw [if_neg (by omega), if_pos rfl, if_pos (by unfold isName; rw [hw, hn]; rfl)]
    rw [ht]
    exact word_back 2 w r hw hr (by rw [hn]; rfl)
  · have ht : tokT 3 0 w = w := by unfold tokT; rw [if_neg (by omega), if_neg (by omega), if_pos rfl, if_pos (by unfold isSign; rw [hn]; rfl)]
    rw [ht]
    exact word_back 3 w r hw hr (by rw [hn]; rfl)
  · have ht : tokT 3 0 w = w := by unfold tokT; rw [if_neg (by omega), if_neg (by omega), if_pos rfl, if_pos (by unfold isSign; rw [decide_eq_true hs, Bool.or_true])]
    rw [ht]
    obtain ⟨c, q, hc, h1, h2, h3⟩ := signs_first w hs
    have hsg := sgn_text hs hr
    have hne : w ≠ [] := by rw [hc]; simp
    have ho : one (w ++ r) = .txt true w := by
      have e : w ++ r = c :: (q ++ r) := by rw [hc]; rfl
      rw [e, one_cons, if_neg (by rw [h1]; decide), if_neg (by rw [h2]; decide), ← e, hsg, if_neg hne]
    refine ⟨hne, ?_, by rw [ho]; rfl, by rw [ho]; rfl, fun a => by rw [ho]; rfl, c, q, hc, h3⟩
    unfold gap
    rw [sign_remark hs hr, hc, List.cons_append, stretch_cons_no h3]
    rfl
def txt (t : T4) : List UInt8 := tokT t.1 t.2.1 t.2.2.1
def core (t : T4) : Int × Int × List UInt8 := (t.1, t.2.1, t.2.2.1)
theorem tail_rest (ts : List (List UInt8)) : Rest (Lib.joinTail [32] ts) := by
  cases ts with
  | nil => exact .inl rfl
  | cons t ts => exact .inr ⟨t ++ Lib.joinTail [32] ts, by simp [Lib.joinTail]⟩
theorem joinTail_cons (t : List UInt8) (ts : List (List UInt8)) : Lib.joinTail [32] (t :: ts) = 32 :: (t ++ Lib.joinTail [32] ts) := by simp [Lib.joinTail]
mutual
theorem back_tail : ∀ (toks : List T4), (∀ t ∈ toks, Good t.1 t.2.1 t.2.2.1) → ∀ (f a : Nat), (Lib.joinTail [32] (toks.map txt)).length ≤ f → ∃ m, lexL f (Lib.joinTail [32] (toks.map txt)) a = .ok m ∧ m.map core = toks.map core
  | [], _, f, a, _ => by
    refine ⟨[], ?_, rfl⟩
    cases f with
    | zero => rfl
    | succ f => rfl
  | t :: ts, hg, f, a, hf => by
    rw [List.map_cons, joinTail_cons] at hf ⊢
    obtain ⟨f, rfl⟩ : ∃ g, f = g + 1 := ⟨f - 1, by simp at hf; omega⟩
    have hr := tail_rest (ts.map txt)
    obtain ⟨_, _, _, _, _, c, q, hc, hb⟩ := read_back (hg t (by simp)) hr
    have hgap : gap (32 :: (txt t ++ Lib.joinTail [32] (ts.map txt))) = some 1 := by
      have hnr : remark (32 :: (txt t ++ Lib.joinTail [32] (ts.map txt))) = false := not_remark_first (by decide)
      unfold gap
      rw [hnr, stretch_cons_yes (by decide)]
      have : txt t ++ Lib.joinTail [32] (ts.map txt) = c :: (q ++ Lib.joinTail [32] (ts.map txt)) := by
        show tokT _ _ _ ++ _ = _
        rw [hc]; rfl
      rw [this, stretch_cons_no hb]
      rfl
    obtain ⟨m, hm, he⟩ := back_head t ts hg f (a + 1) (by simp at hf ⊢; omega)
    refine ⟨m, ?_, he⟩
    rw [lexL, if_neg (by simp), hgap]
    exact hm
theorem back_head : ∀ (t : T4) (ts : List T4), (∀ x ∈ t :: ts, Good x.1 x.2.1 x.2.2.1) → ∀ (f a : Nat), (txt t ++ Lib.joinTail [32] (ts.map txt)).length ≤ f → ∃ m, lexL f (txt t ++ Lib.joinTail [32] (ts.map txt)) a = .ok m ∧ m.map core = (t :: ts).map core
  | t, ts, hg, f, a, hf => by
    have hr := tail_rest (ts.map txt)
    obtain ⟨h1, h2, h3, h4, h5, _⟩ := read_back (hg t (by simp)) hr
    have hne : txt t ++ Lib.joinTail [32] (ts.map txt) ≠ [] := by
      intro e
      have := List.append_eq_nil_iff.1 e
      exact h1 this.1
    have hpos : 0 < (txt t).length := List.length_pos_iff.2 h1
    obtain ⟨f, rfl⟩ : ∃ g, f = g + 1 := ⟨f - 1, by rw [List.length_append] at hf; omega⟩
    obtain ⟨m, hm, he⟩ := back_tail ts (fun x hx => hg x (by simp [hx])) f (a + (txt t).length) (by rw [List.length_append] at hf; omega)
    refine ⟨(t.1, t.2.1, t.2.2.1, (a : Int)) :: m, ?_, ?_⟩
    · rw [lexL, if_neg hne]
      change gap (txt t ++ Lib.joinTail [32] (ts.map txt)) = some 0 at h2
      change (one (txt t ++ Lib.joinTail [32] (ts.map txt))).code = 0 at h3
      change (one (txt t ++ Lib.joinTail [32] (ts.map txt))).size = (txt t).length at h4
      have h5' : (one (txt t ++ Lib.joinTail [32] (ts.map txt))).tok a = (t.1, t.2.1, t.2.2.1, (a : Int)) := h5 a
      rw [h2]
      simp only [ne_eq, not_true_eq_false, if_false, h3, h4, h5']
      rw [List.drop_left, hm]
      rfl
    · rw [List.map_cons, List.map_cons, he]
      rfl
end
theorem un_join (toks : List T4) : TokList.unT (toks.map toE) toks.length = Lib.join (toks.map txt) [32] := by
  rw [← TokList.join_un]
  congr 1
  apply List.ext_getElem
  · simp
  · intro i h1 h2
    have hi : i < toks.length := by simpa using h1
    rw [List.getElem_map, List.getElem_range, List.getElem_map]
    unfold TokList.txtAt
    obtain ⟨e0, e1, e2, _⟩ := toE_at toks i hi
    rw [e0, e1, e2, tx_list]
    unfold txt
    rw [show toks.getD i (0, 0, [], 0) = toks[i] by rw [List.getD, List.getElem?_eq_getElem hi]; rfl]
/-- Tokens that were read are read again from the text that is made of them. -/
theorem lex_back (toks : List T4) (hg : ∀ t ∈ toks, Good t.1 t.2.1 t.2.2.1) (h6 : (TokList.unT (toks.map toE) toks.length).length ≤ 6000) : ∃ m, lexT (TokList.unT (toks.map toE) toks.length) = .ok m ∧ m.map core = toks.map core := by
  unfold lexT
  rw [if_pos h6]
  unfold lexAt
  rw [List.drop_zero, un_join]
  cases toks with
  | nil => exact ⟨[], rfl, rfl⟩
  | cons t ts =>
    rw [List.map_cons, Lib.join_cons]
    exact back_head t ts hg _ 0 (Nat.le_refl _)
theorem core_at {m toks : List T4} (h : m.map core = toks.map core) : m.length = toks.length ∧ ∀ j, j < toks.length → MemTok.f0At (m.map toE) j = MemTok.f0At (toks.map toE) j ∧ MemTok.f1At (m.map toE) j = MemTok.f1At (toks.map toE) j ∧ MemTok.f2At (m.map toE) j = MemTok.f2At (toks.map toE) j := by
  have hl : m.length = toks.length := by simpa using congrArg List.length h
  refine ⟨hl, fun j hj => ?_⟩
  obtain ⟨a0, a1, a2, _⟩ := toE_at m j (by omega)
  obtain ⟨b0, b1, b2, _⟩ := toE_at toks j hj
  have e : core (m.getD j (0, 0, [], 0)) = core (toks.getD j (0, 0, [], 0)) := by
    have := congrArg (fun l => l[j]?) h
    simp only [List.getElem?_map] at this
    rw [List.getElem?_eq_getElem (by omega), List.getElem?_eq_getElem hj] at this
    simp only [Option.map_some, Option.some.injEq] at this
    rw [List.getD, List.getD, List.getElem?_eq_getElem (by omega), List.getElem?_eq_getElem hj]
    exact this
  unfold core at e
  simp only [Prod.mk.injEq] at e
  obtain ⟨e0, e1, e2⟩ := e
  rw [a0, a1, a2, b0, b1, b2, e0, e1, e2]
  exact ⟨rfl, rfl, rfl⟩
theorem letters_sum (toks : List T4) : ∀ k, k ≤ toks.length → TokList.letters (toks.map toE) k = ((toks.take k).map fun t => t.2.2.1.length).sum
  | 0, _ => by simp [TokList.letters]
  | k + 1, h => by
    have hk : k < toks.length := by omega
    rw [TokList.letters, letters_sum toks k (by omega), List.take_add_one, List.getElem?_eq_getElem hk]
    obtain ⟨_, _, e2, _⟩ := toE_at toks k hk
    rw [e2, show toks.getD k (0, 0, [], 0) = toks[k] by rw [List.getD, List.getElem?_eq_getElem hk]; rfl, TokList.tx_size, List.map_append, List.sum_append]
    congr 1
theorem small_of {toks : List T4} (h1 : toks.length ≤ 6000) (h2 : (toks.map fun t => t.2.2.1.length).sum ≤ 1000000) : TokList.Small (toks.map toE) := by
  unfold TokList.Small
  rw [List.length_map, letters_sum toks _ (Nat.le_refl _), List.take_length]
  omega
end Go.Proofs.YtjndgjheehjohaaDoor.LexTrip
