/-
  A text cut at each of a byte, and which texts are the texts of bodies. No program in sight.
-/
import Derived.Test.YtjbhelcdakhjbaaDoorPlainBody
import Derived.Test.YtjbhelcdakhjbaaDoorPlainRead
namespace Go.Proofs.YtjbhelcdakhjbaaDoor.PlainCut
open Go.RowKit PlainOps PlainNum InsCalls PlainShape PlainAll PlainBody PlainRead

/-- Cut at each c. -/
def cutL (c : UInt8) : List UInt8 → List (List UInt8)
  | [] => [[]]
  | x :: r => if x = c then [] :: cutL c r else match cutL c r with
    | [] => [[x]]
    | h :: t => (x :: h) :: t
theorem cutL_ne (c : UInt8) : ∀ l, cutL c l ≠ []
  | [] => by simp [cutL]
  | x :: r => by
    unfold cutL
    split
    · simp
    · split <;> simp
theorem cutL_sep (c : UInt8) (r : List UInt8) : cutL c (c :: r) = [] :: cutL c r := by simp [cutL]
theorem cutL_other {c x : UInt8} (h : x ≠ c) (r : List UInt8) : ∃ a t, cutL c r = a :: t ∧ cutL c (x :: r) = (x :: a) :: t := by
  cases hc : cutL c r with
  | nil => exact absurd hc (cutL_ne c r)
  | cons a t => exact ⟨a, t, rfl, by rw [cutL, if_neg h, hc]⟩
/-- No c within: one part. -/
theorem cutL_one {c : UInt8} : ∀ {l : List UInt8}, c ∉ l → cutL c l = [l]
  | [], _ => rfl
  | x :: r, h => by
    have h1 : x ≠ c := fun e => h (by rw [e]; exact List.mem_cons_self)
    have h2 : c ∉ r := fun e => h (List.mem_cons_of_mem _ e)
    obtain ⟨a, t, e1, e2⟩ := cutL_other h1 r
    rw [cutL_one h2] at e1
    injection e1 with e3 e4
    rw [e2, ← e3, ← e4]
theorem cutL_first {c : UInt8} : ∀ {l : List UInt8} (r : List UInt8), c ∉ l → cutL c (l ++ c :: r) = l :: cutL c r
  | [], r, _ => cutL_sep c r
  | x :: q, r, h => by
    have h1 : x ≠ c := fun e => h (by rw [e]; exact List.mem_cons_self)
    have h2 : c ∉ q := fun e => h (List.mem_cons_of_mem _ e)
    obtain ⟨a, t, e1, e2⟩ := cutL_other h1 (q ++ c :: r)
    rw [cutL_first r h2] at e1
    injection e1 with e3 e4
    rw [List.cons_append, e2, ← e3, ← e4]
theorem cutL_parts (c : UInt8) : ∀ (l : List UInt8), ∀ t ∈ cutL c l, c ∉ t
  | [], t, h => by
    simp [cutL] at h
    subst h
    simp
  | x :: r, t, h => by
    by_cases hx : x = c
    · subst hx
      rw [cutL_sep] at h
      rcases List.mem_cons.1 h with rfl | h
      · simp
      · exact cutL_parts x r t h
    · obtain ⟨a, q, e1, e2⟩ := cutL_other hx r
      have ih := cutL_parts c r
      rw [e1] at ih
      rw [e2] at h
      rcases List.mem_cons.1 h with rfl | h
      · intro hm
        rcases List.mem_cons.1 hm with e | hm
        · exact hx e.symm
        · exact ih a List.mem_cons_self hm
      · exact ih t (List.mem_cons_of_mem _ h)
theorem tail_cons (c : UInt8) (y : List UInt8) (ys : List (List UInt8)) : Lib.joinTail [c] (y :: ys) = c :: (y ++ Lib.joinTail [c] ys) := by simp [Lib.joinTail]
/-- What was cut, put together again. -/
theorem join_cut (c : UInt8) : ∀ l, Lib.join (cutL c l) [c] = l
  | [] => by simp [cutL, Lib.join_one]
  | x :: r => by
    have ih := join_cut c r
    by_cases hx : x = c
    · subst hx
      rw [cutL_sep, Lib.join_cons]
      cases hc : cutL x r with
      | nil => exact absurd hc (cutL_ne x r)
      | cons a t =>
        rw [hc, Lib.join_cons] at ih
        rw [tail_cons, ih, List.nil_append]
    · obtain ⟨a, t, e1, e2⟩ := cutL_other hx r
      rw [e1, Lib.join_cons] at ih
      rw [e2, Lib.join_cons, List.cons_append, ih]
/-- Parts without c, put together and cut again. -/
theorem cut_join (c : UInt8) : ∀ (x : List UInt8) (xs : List (List UInt8)), (∀ t ∈ x :: xs, c ∉ t) → cutL c (Lib.join (x :: xs) [c]) = x :: xs
  | x, [], h => by rw [Lib.join_one]; exact cutL_one (h x List.mem_cons_self)
  | x, y :: ys, h => by
    have ih := cut_join c y ys (fun t ht => h t (List.mem_cons_of_mem _ ht))
    have e : Lib.join (x :: y :: ys) [c] = x ++ c :: Lib.join (y :: ys) [c] := by
      rw [Lib.join_cons, Lib.join_cons, tail_cons]
    rw [e, cutL_first _ (h x List.mem_cons_self), ih]
theorem tab_plain : ∀ l ∈ opTab, (32 : UInt8) ∉ l ∧ (59 : UInt8) ∉ l := by decide +kernel
theorem nmL_plain (o : Int) : (32 : UInt8) ∉ nmL o ∧ (59 : UInt8) ∉ nmL o := by
  unfold nmL
  split
  · rename_i h
    have hl : o.toNat < opTab.length := by rw [tab_len]; omega
    have : opTab.getD o.toNat [] ∈ opTab := by
      simp only [List.getD, List.getElem?_eq_getElem hl, Option.getD_some]
      exact List.getElem_mem hl
    exact tab_plain _ this
  · simp
theorem itoa_plain (v : Int) : (32 : UInt8) ∉ Lib.itoa v ∧ (59 : UInt8) ∉ Lib.itoa v := by
  have hd : ∀ u, (32 : UInt8) ∉ Lib.decDigits u ∧ (59 : UInt8) ∉ Lib.decDigits u := fun u => by
    have h := (PlainText.dec_spec u).1
    constructor <;> intro hm <;> have := h _ hm <;> simp [PlainText.isDig] at this
  by_cases hneg : v < 0
  · obtain ⟨u, rfl⟩ : ∃ u : Nat, v = -(u : Int) := ⟨v.natAbs, by omega⟩
    rw [Lib.itoa_neg u (by omega)]
    have := hd u
    simp only [List.mem_cons, not_or]
    exact ⟨⟨by decide, this.1⟩, ⟨by decide, this.2⟩⟩
  · obtain ⟨u, rfl⟩ : ∃ u : Nat, v = (u : Int) := ⟨v.toNat, by omega⟩
    rw [Lib.itoa_nonneg u]
    exact hd u
theorem numL_plain (a : Int) : (32 : UInt8) ∉ numL a ∧ (59 : UInt8) ∉ numL a := itoa_plain _
theorem insL_plain (o a b : Int) : (59 : UInt8) ∉ insL o a b := by
  have h1 := (nmL_plain o).2
  have h2 := (numL_plain a).2
  have h3 := (numL_plain b).2
  unfold insL
  split <;> split <;> simp [h1, h2, h3]
theorem fC_is (o : Int) : fC (kd o) = if kd o = 0 then 0 else if kd o = 3 then 2 else 1 := rfl
/-- The parts of an instruction's text. -/
theorem cut_ins (o a b : Int) : cutL 32 (insL o a b) = if kd o = 0 then [nmL o] else if kd o = 3 then [nmL o, numL a, numL b] else [nmL o, numL a] := by
  have h1 := (nmL_plain o).1
  have h2 := (numL_plain a).1
  have h3 := (numL_plain b).1
  unfold insL
  by_cases k0 : kd o = 0
  · have k3 : ¬ kd o = 3 := by omega
    rw [if_pos k0, if_neg k3, if_pos k0, List.append_nil, List.append_nil]
    exact cutL_one h1
  · by_cases k3 : kd o = 3
    · rw [if_neg k0, if_pos k3, if_neg k0, if_pos k3, List.append_assoc, List.cons_append, cutL_first _ h1, cutL_first _ h2, cutL_one h3]
    · rw [if_neg k0, if_neg k3, if_neg k0, if_neg k3, List.append_nil, cutL_first _ h1, cutL_one h2]
/-- What the specification reads of a part, whatever it is. -/
noncomputable def rdI (t : List UInt8) : I3 :=
  let w := cutL 32 t
  (nmOp (tx (w.getD 0 [])), if 1 < w.length then (T (w.getD 1 [])).1 else 0, if 2 < w.length then (T (w.getD 2 [])).1 else 0)
/-- Whether the program takes a part. -/
noncomputable def okI (t : List UInt8) : Bool :=
  let w := cutL 32 t
  let o := nmOp (tx (w.getD 0 []))
  decide ((w.length : Int) - 1 = fC (kd o)) && ((w.length < 2 || (T (w.getD 1 [])).2) && ((w.length < 3 || (T (w.getD 2 [])).2) && insOk (rdI t).1 (rdI t).2.1 (rdI t).2.2))
theorem T_spec {l : List UInt8} (h : (T l).2 = true) : inR (T l).1 ∧ Lib.itoa (T l).1 = l := by
  by_cases hex : ∃ v, inR v ∧ Lib.itoa v = l
  · obtain ⟨v, hv, e⟩ := hex
    rw [T_yes hv e]
    exact ⟨hv, e⟩
  · rw [T_no (fun v hv e => hex ⟨v, hv, e⟩)] at h
    cases h
theorem numL_in {v : Int} (h : inR v) : numL v = Lib.itoa v := by
  unfold numL
  rw [wrap32_in h.1 h.2]
theorem tx_inj {a b : List UInt8} (h : tx a = tx b) : a = b := by
  simp only [tx, ByteArray.mk.injEq] at h
  exact List.toArray_inj h
theorem nmOp_spec {w : List UInt8} (h : opNm (nmOp (tx w)) ≠ ⟨#[]⟩) : nmL (nmOp (tx w)) = w := by
  have h2 : opNm (nmOp (tx w)) = tx w := by
    unfold nmOp at h ⊢
    split at h
    · exact absurd (opNm_out (by omega)) h
    · rename_i hw
      rw [if_neg hw] at ⊢
      rcases nmFrom_is (s := tx w) 121 0 with ⟨e, _⟩ | ⟨j, _, _, e, hj⟩
      · rw [e] at h
        exact absurd (opNm_out (by omega)) h
      · rw [e]; exact hj
  rw [opNm_tx] at h2
  exact tx_inj h2
theorem nmOp_of {o : Int} (h : opNm o ≠ ⟨#[]⟩) (hu : ∀ j k : Nat, j < 121 → k < 121 → opNm (j : Int) ≠ ⟨#[]⟩ → opNm (j : Int) = opNm (k : Int) → j = k) : nmOp (tx (nmL o)) = o := by
  have hin : 0 ≤ o ∧ o < 121 := by
    by_cases hh : 0 ≤ o ∧ o < 121
    · exact hh
    · exact absurd (opNm_out hh) h
  obtain ⟨k, rfl⟩ : ∃ k : Nat, o = (k : Int) := ⟨o.toNat, by omega⟩
  rw [opNm_tx] at h
  unfold nmOp
  rw [if_neg h]
  rcases nmFrom_is (s := tx (nmL (k : Int))) 121 0 with ⟨_, hn⟩ | ⟨j, _, hj, e, he⟩
  · exact absurd (opNm_tx _) (hn k (by omega) (by omega))
  · rw [e, hu j k (by omega) (by omega) (by rw [he]; exact h) (he.trans (opNm_tx _).symm)]
theorem names_apart : ∀ j : Nat, j < 121 → ∀ k : Nat, k < 121 → opTab.getD j [] ≠ [] → opTab.getD j [] = opTab.getD k [] → j = k := by decide +kernel
theorem opNm_apart (j k : Nat) (hj : j < 121) (hk : k < 121) (h : opNm (j : Int) ≠ ⟨#[]⟩) (e : opNm (j : Int) = opNm (k : Int)) : j = k := by
  rw [opNm_in j hj] at h e
  rw [opNm_in k hk] at e
  exact names_apart j hj k hk (fun q => h (by rw [q]; rfl)) (tx_inj e)
theorem insOk_parts {o a b : Int} (h : insOk o a b = true) : opNm o ≠ ⟨#[]⟩ ∧ (kd o = 0 → a = 0 ∧ b = 0) ∧ (kd o ≠ 3 → b = 0) ∧ inR a ∧ inR b := by
  have h0 : opNm o ≠ ⟨#[]⟩ := fun e => by rw [insOk_no e] at h; cases h
  rw [insOk_kd h0, fits_is _ _ _ (kd_is o)] at h
  have h := of_decide_eq_true h
  unfold fLo fHi fB at h
  unfold inR
  have hk := kd_is o
  refine ⟨h0, fun k => ?_, fun k => ?_, ?_, ?_⟩
  · rw [k] at h
    simp at h
    omega
  · rw [if_neg k] at h
    omega
  · rcases hk with e | e | e | e | e <;> simp [e] at h <;> omega
  · rcases hk with e | e | e | e | e <;> simp [e] at h <;> omega
/-- A part that is the text of what was read is one that the program takes, and the other way round. -/
theorem ok_iff (t : List UInt8) : okI t = true ↔ insOk (rdI t).1 (rdI t).2.1 (rdI t).2.2 = true ∧ insL (rdI t).1 (rdI t).2.1 (rdI t).2.2 = t := by
  constructor
  · intro h
    unfold okI at h
    simp only [Bool.and_eq_true, Bool.or_eq_true, decide_eq_true_eq] at h
    obtain ⟨h1, h2, h3, h4⟩ := h
    refine ⟨h4, ?_⟩
    obtain ⟨p1, p2, p3, p4, p5⟩ := insOk_parts h4
    have hj := join_cut 32 t
    unfold rdI at h4 p1 p2 p3 p4 p5 ⊢
    dsimp only at h4 p1 p2 p3 p4 p5 ⊢
    have hnm := nmOp_spec p1
    generalize hw : cutL 32 t = w at *
    generalize ho : nmOp (tx (w.getD 0 [])) = o at *
    rw [fC_is] at h1
    unfold insL
    by_cases k0 : kd o = 0
    · rw [if_pos k0] at h1
      have hl : w.length = 1 := by omega
      match w, hl with
      | [w0], _ =>
        rw [if_pos k0, if_neg (by omega), List.append_nil, List.append_nil, hnm]
        rw [Lib.join_one] at hj
        exact hj
    · rw [if_neg k0] at h1
      by_cases k3 : kd o = 3
      · rw [if_pos k3] at h1
        have hl : w.length = 3 := by omega
        match w, hl with
        | [w0, w1, w2], _ =>
          have q1 := T_spec (h2.resolve_left (by simp))
          have q2 := T_spec (h3.resolve_left (by simp))
          simp only [List.getD_cons_succ, List.getD_cons_zero] at q1 q2 hnm ⊢
          rw [if_neg k0, if_pos k3, hnm]
          simp only [List.length_cons, List.length_nil, show (1 : Nat) < 3 by omega, show (2 : Nat) < 3 by omega, if_true, Nat.reduceAdd]
          rw [numL_in q1.1, numL_in q2.1, q1.2, q2.2, ← hj]
          simp [Lib.join_cons, Lib.joinTail]
      · rw [if_neg k3] at h1
        have hl : w.length = 2 := by omega
        match w, hl with
        | [w0, w1], _ =>
          have q1 := T_spec (h2.resolve_left (by simp))
          simp only [List.getD_cons_succ, List.getD_cons_zero] at q1 hnm ⊢
          rw [if_neg k0, if_neg k3, hnm, List.append_nil]
          simp only [List.length_cons, List.length_nil, show (1 : Nat) < 2 by omega, if_true, Nat.reduceAdd]
          rw [numL_in q1.1, q1.2, ← hj]
          simp [Lib.join_cons, Lib.joinTail]
  · intro ⟨h4, he⟩
    obtain ⟨p1, p2, p3, p4, p5⟩ := insOk_parts h4
    have hc := cut_ins (rdI t).1 (rdI t).2.1 (rdI t).2.2
    rw [he] at hc
    have hn := nmOp_of p1 opNm_apart
    unfold okI
    dsimp only
    rw [hc]
    simp only [Bool.and_eq_true, Bool.or_eq_true, decide_eq_true_eq]
    generalize hr : rdI t = r at *
    obtain ⟨o, a, b⟩ := r
    dsimp only at *
    have ta : (T (numL a)).2 = true := by rw [numL_in p4, T_yes p4 rfl]
    have tb : (T (numL b)).2 = true := by rw [numL_in p5, T_yes p5 rfl]
    by_cases k0 : kd o = 0
    · rw [if_pos k0]
      refine ⟨?_, .inl (by simp), .inl (by simp), h4⟩
      simp only [List.getD_cons_zero, hn, fC_is, if_pos k0]
      simp
    · by_cases k3 : kd o = 3
      · rw [if_neg k0, if_pos k3]
        refine ⟨?_, .inr (by simpa using ta), .inr (by simpa using tb), h4⟩
        simp only [List.getD_cons_zero, hn, fC_is, if_neg k0, if_pos k3]
        simp
      · rw [if_neg k0, if_neg k3]
        refine ⟨?_, .inr (by simpa using ta), .inl (by simp), h4⟩
        simp only [List.getD_cons_zero, hn, fC_is, if_neg k0, if_neg k3]
        simp
/-- The instructions of a text, as the specification reads them; whether the program takes them all. -/
noncomputable def rdB (s : List UInt8) : List I3 := (cutL 59 s).map rdI
noncomputable def okB (s : List UInt8) : Bool := (cutL 59 s).all okI
theorem allF_iff (l : List I3) : ∀ (f k : Nat), k + f = l.length → (allF l f k = true ↔ ∀ j, k ≤ j → j < l.length → okAt l j = true)
  | 0, k, h => ⟨fun _ j h1 h2 => by omega, fun _ => rfl⟩
  | f + 1, k, h => by
    cases hk : okAt l k with
    | false =>
      rw [allF_no hk]
      exact ⟨fun h => (by cases h), fun h => (by rw [h k (Nat.le_refl _) (by omega)] at hk; cases hk)⟩
    | true =>
      rw [allF_yes hk, allF_iff l f (k + 1) (by omega)]
      refine ⟨fun h j h1 h2 => ?_, fun h j h1 h2 => h j (by omega) h2⟩
      by_cases e : j = k
      · subst e; exact hk
      · exact h j (by omega) h2
theorem at_getElem (l : List I3) (j : Nat) (hj : j < l.length) : oAt l j = l[j].1 ∧ aAt l j = l[j].2.1 ∧ bAt l j = l[j].2.2 := by
  unfold oAt aAt bAt
  simp [List.getD, hj]
theorem all_iff (l : List I3) : allF l l.length 0 = true ↔ ∀ q ∈ l, insOk q.1 q.2.1 q.2.2 = true := by
  rw [allF_iff l l.length 0 (by omega)]
  constructor
  · intro h q hq
    obtain ⟨j, hj, rfl⟩ := List.getElem_of_mem hq
    have := h j (by omega) hj
    obtain ⟨a, b, c⟩ := at_getElem l j hj
    unfold okAt at this
    rw [a, b, c] at this
    exact this
  · intro h j _ hj
    obtain ⟨a, b, c⟩ := at_getElem l j hj
    unfold okAt
    rw [a, b, c]
    exact h _ (List.getElem_mem hj)
theorem texts_are (l : List I3) : ((List.range l.length).map fun j => insAt l j) = l.map fun q => insL q.1 q.2.1 q.2.2 := by
  apply List.ext_getElem (by simp)
  intro j h1 h2
  have hj : j < l.length := by simpa using h1
  obtain ⟨a, b, c⟩ := at_getElem l j hj
  simp [insAt, a, b, c]
/-- A text is the text of what the specification reads of it just where the program takes all its parts. -/
theorem body_iff (s : List UInt8) (hs : s ≠ []) : bodyText (rdB s) = tx s ↔ okB s = true := by
  unfold okB
  rw [List.all_eq_true]
  constructor
  · intro h
    have hall : allF (rdB s) (rdB s).length 0 = true := by
      cases ha : allF (rdB s) (rdB s).length 0 with
      | true => rfl
      | false =>
        rw [bodyText, if_neg (by rw [ha]; decide)] at h
        exact absurd (tx_inj (a := []) h).symm hs
    rw [bodyText, if_pos hall, ← join_body, texts_are] at h
    have h := tx_inj h
    have hc : cutL 59 s = (rdB s).map fun q => insL q.1 q.2.1 q.2.2 := by
      have hne : (rdB s).map (fun q => insL q.1 q.2.1 q.2.2) ≠ [] := by unfold rdB; simp [cutL_ne]
      obtain ⟨x, xs, e⟩ := List.exists_cons_of_ne_nil hne
      have h' := cut_join 59 x xs fun t ht => by
        rw [← e] at ht
        obtain ⟨q, _, rfl⟩ := List.mem_map.1 ht
        exact insL_plain _ _ _
      rw [← e, h] at h'
      exact h'
    intro t ht
    rw [ok_iff]
    refine ⟨(all_iff _).1 hall _ (List.mem_map_of_mem ht), ?_⟩
    have hm : (cutL 59 s).map (fun t => insL (rdI t).1 (rdI t).2.1 (rdI t).2.2) = cutL 59 s := by
      conv => rhs; rw [hc]
      unfold rdB
      rw [List.map_map]
      rfl
    have := List.map_eq_iff.1 hm
    obtain ⟨j, hj, rfl⟩ := List.getElem_of_mem ht
    have h2 := this j
    simp only [List.getElem?_eq_getElem hj, Option.map_some, Option.some.injEq] at h2
    exact h2.symm
  · intro h
    have hall : allF (rdB s) (rdB s).length 0 = true := (all_iff _).2 fun q hq => by
      obtain ⟨t, ht, rfl⟩ := List.mem_map.1 hq
      exact ((ok_iff t).1 (h t ht)).1
    rw [bodyText, if_pos hall, ← join_body, texts_are]
    refine congrArg tx ?_
    have hm : (rdB s).map (fun q => insL q.1 q.2.1 q.2.2) = cutL 59 s := by
      unfold rdB
      rw [List.map_map]
      conv => rhs; rw [← List.map_id (cutL 59 s)]
      exact List.map_congr_left fun t ht => ((ok_iff t).1 (h t ht)).2
    rw [hm, join_cut]
end Go.Proofs.YtjbhelcdakhjbaaDoor.PlainCut
