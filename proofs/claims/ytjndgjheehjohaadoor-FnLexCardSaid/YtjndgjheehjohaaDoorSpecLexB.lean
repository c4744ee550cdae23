/-
  What the specification's parts of Lex answer when they are called: a number, a token.
-/
import Derived.Test.YtjndgjheehjohaaDoorSpecLexA
import Derived.Deep.RegionHeld
namespace Go.Proofs.YtjndgjheehjohaaDoor.SpecLexB
open Go.RowKit InsMem PlainOps PlainLex PlainScan NameCalls CharCalls WordCalls SignCalls LexImpl SpecLexA

theorem r4_set0 {w : World} {b : Nat} {t : TypeId} {v0 v1 v2 v3 : Value} (h : w.rowIs b t 4 (R4 v0 v1 v2 v3)) (x : Value) : (w.setCell ⟨b, 0, none⟩ x).rowIs b t 4 (R4 x v1 v2 v3) :=
  (h.set 0 x).congr (fun j hj => by
    match j, hj with
    | 0, _ => rfl
    | 1, _ => rfl
    | 2, _ => rfl
    | 3, _ => rfl)
theorem r4_set1 {w : World} {b : Nat} {t : TypeId} {v0 v1 v2 v3 : Value} (h : w.rowIs b t 4 (R4 v0 v1 v2 v3)) (x : Value) : (w.setCell ⟨b, 1, none⟩ x).rowIs b t 4 (R4 v0 x v2 v3) :=
  (h.set 1 x).congr (fun j hj => by
    match j, hj with
    | 0, _ => rfl
    | 1, _ => rfl
    | 2, _ => rfl
    | 3, _ => rfl)
/-- A number as far as it fits. -/
def Fits (n : Int) (v : Nat) : Prop := 0 ≤ n ∧ n ≤ 21474836479 ∧ (v ≤ 2147483647 → n = v) ∧ (2147483647 < v → 2147483647 < n)
theorem fits_step {n : Int} {v d : Nat} (h : Fits n v) (hn : n ≤ 2147483647) (hd : d ≤ 9) : Fits (n * 10 + d) (v * 10 + d) := by
  obtain ⟨h0, h1, h2, h3⟩ := h
  have hv : v ≤ 2147483647 := by
    by_cases hv : v ≤ 2147483647
    · exact hv
    · have := h3 (by omega); omega
  have := h2 hv
  exact ⟨by omega, by omega, fun _ => by omega, fun _ => by omega⟩
theorem fits_stay {n : Int} {v d : Nat} (h : Fits n v) (hn : 2147483647 < n) : Fits n (v * 10 + d) := by
  obtain ⟨h0, h1, h2, h3⟩ := h
  have hv : 2147483647 < v := by
    by_cases hv : v ≤ 2147483647
    · have := h2 hv; omega
    · omega
  exact ⟨by omega, by omega, fun _ => by omega, fun _ => by omega⟩
theorem drop_at {l : List UInt8} {k j : Nat} {x : UInt8} (h : l[k + j]? = some x) : (l.drop k)[j]? = some x := by
  rw [List.getElem?_drop]; exact h
set_option maxRecDepth 20000 in
set_option maxHeartbeats 4000000 in
theorem spec_number (s : ByteArray) (l : List UInt8) (hl : s.data.toList = l) (k : Nat) (w : World) (hm : s.size ≤ 1048576) (hk : k ≤ s.size) :
    Calls Tryd.prog 58 #[.string s, .int .i64 k] w fun e w' => (∃ n, e = .returned (.tuple #[.agg #[.int .i64 1, .int .i64 n, .string ⟨#[]⟩, .int .i64 k], .int .i64 (k + stretch digit (l.drop k) : Nat)]) ∧ Fits n (dval ((l.drop k).takeWhile digit))) ∧ Below w.heap.size w w' := by
  have hsz : Hid (s.size = l.length) := size_list hl
  have hl' : Hid (s.data.toList = l) := hl
  clear hl
  go_enter Tryd.func58, Tryd.ntmps58
  go_wp2_with fail
  go_loopw [1] (fun va wr => ∃ (j : Nat) (n : Int), k + j ≤ s.size ∧ va = .int .i64 (k + j : Nat) ∧ (∀ i, i < j → ∃ x, (l.drop k)[i]? = some x ∧ digit x = true) ∧ Fits n (dval ((l.drop k).take j)) ∧ wr.rowIs w.heap.size 27 4 (R4 (.int .i64 0) (.int .i64 0) (.string ⟨#[]⟩) (.int .i64 0)) ∧ wr.rowIs (w.heap.size + 1) 27 4 (R4 (.int .i64 1) (.int .i64 n) (.string ⟨#[]⟩) (.int .i64 k)) ∧ Below w.heap.size w wr) (fun va _ => s.size - (intOf va).toNat)
  case atStart =>
    refine ⟨0, 0, by omega, by go_num, fun i hi => by omega, ⟨by omega, by omega, fun _ => rfl, fun h => by simp [dval] at h⟩, ?_, ?_, ?_⟩
    · exact (r4_made w _ _ _ _ _).alloc _
    · have := r4_made (w.alloc (.cells #[.int .i64 0, .int .i64 0, .string ⟨#[]⟩, .int .i64 0] 27)) (.int .i64 1) (.int .i64 0) (.string ⟨#[]⟩) (.int .i64 k) 27
      rw [World.size_alloc] at this
      exact this
    · exact ((Below.refl _ _).alloc (Nat.le_refl _) _).alloc (by simp) _
  case round =>
    obtain ⟨j, n, hj, rfl, hall, hfit, row0, row1, hbel⟩ := hrel
    obtain ⟨q, hq⟩ : ∃ q, k + j = q := ⟨_, rfl⟩
    have hq' : Hid (k + j = q) := hq
    rw [hq] at hj ⊢
    have hall' : Hid (∀ i, i < j → ∃ x, (l.drop k)[i]? = some x ∧ digit x = true) := hall
    have hfit' : Hid (Fits n (dval ((l.drop k).take j))) := hfit
    have row0' : Hid (wr.rowIs w.heap.size 27 4 (R4 (.int .i64 0) (.int .i64 0) (.string ⟨#[]⟩) (.int .i64 0))) := row0
    have row1' : Hid (wr.rowIs (w.heap.size + 1) 27 4 (R4 (.int .i64 1) (.int .i64 n) (.string ⟨#[]⟩) (.int .i64 k))) := row1
    have hbel' : Hid (Below w.heap.size w wr) := hbel
    have hn0 := hfit.1
    have hn1 := hfit.2.1
    obtain ⟨y0, y1, y2, y3, f0, f1, f2, f3⟩ := r4 row0
    obtain ⟨c0, c1, c2, c3, g0, g1, g2, g3⟩ := r4 row1
    clear hall hfit row0 row1 hbel
    by_cases hjl : q < s.size
    · have hjl' : (q : Int) < (s.size : Int) := by omega
      obtain ⟨x, hx, hxi⟩ := WordCalls.byte_at hl'.out q hjl
      have hx' : Hid ((l.drop k)[j]? = some x) := drop_at (by rw [hq]; exact hx)
      have kd : Hid (∀ u, Calls Tryd.prog 57 #[.int .u8 (x.toNat : Int)] u fun e w' => e = .returned (.bool (digit x)) ∧ u = w') := fun u => spec_digit x u
      clear hx hq
      cases hd : digit x with
      | true =>
        rw [hd] at kd
        obtain ⟨d1, d2⟩ := btw_true.1 hd
        have hd' : Hid (digit x = true) := hd
        have hall2 : Hid (∀ i, i < j + 1 → ∃ x, (l.drop k)[i]? = some x ∧ digit x = true) := fun i hi => by
          by_cases e : i = j
          · rw [e]; exact ⟨x, hx'.out, hd'.out⟩
          · exact hall'.out i (by omega)
        clear hd
        by_cases hnM : n ≤ 2147483647
        · have hfit2 : Hid (Fits (n * 10 + ((x.toNat : Int) - 48)) (dval ((l.drop k).take (j + 1)))) := by
            have := fits_step (d := x.toNat - 48) hfit'.out hnM (by omega)
            show Fits _ _
            rw [take_snoc hx'.out, dval_snoc, show (x.toNat : Int) - 48 = ((x.toNat - 48 : Nat) : Int) by omega]
            exact this
          have hmod : ((x.toNat : Int) - 48) % 256 = (x.toNat : Int) - 48 := by omega
          go_wp2_with (go_at_call 57; refine (kd.out _).mono ?_; rintro e u0 ⟨rfl, rfl⟩)
          go_region
          go_wp2_with fail
          go_roundw
          case rel =>
            refine ⟨j + 1, _, by have := hq'.out; omega, by have := hq'.out; rw [show k + (j + 1) = q + 1 by omega]; go_num, hall2.out, hfit2.out, ?_, ?_, ?_⟩
            · exact row0'.out.drew.setOther (by simp) _
            · exact r4_set1 row1'.out.drew _
            · exact (hbel'.out.drew).setCell (by simp) _
          case measure => simp [intOf]; omega
        · have hnM' : 2147483647 < n := by omega
          have hfit2 : Hid (Fits n (dval ((l.drop k).take (j + 1)))) := by
            show Fits _ _
            rw [take_snoc hx'.out, dval_snoc]
            exact fits_stay hfit'.out hnM'
          go_wp2_with (go_at_call 57; refine (kd.out _).mono ?_; rintro e u0 ⟨rfl, rfl⟩)
          go_roundw
          case rel => exact ⟨j + 1, n, by have := hq'.out; omega, by have := hq'.out; rw [show k + (j + 1) = q + 1 by omega]; go_num, hall2.out, hfit2.out, row0'.out, row1'.out, hbel'.out⟩
          case measure => simp [intOf]; omega
      | false =>
        rw [hd] at kd
        have hst : Hid (stretch digit (l.drop k) = j) := stretch_is hall'.out (.inr ⟨x, hx'.out, hd⟩)
        have hfin : Hid (Fits n (dval ((l.drop k).takeWhile digit))) := by show Fits _ _; rw [takeWhile_eq, hst.out]; exact hfit'.out
        clear hd
        go_wp2_with (go_at_call 57; refine (kd.out _).mono ?_; rintro e u0 ⟨rfl, rfl⟩)
        refine bodyPost_ret (v := .tuple #[.agg #[.int .i64 1, .int .i64 n, .string ⟨#[]⟩, .int .i64 k], .int .i64 q]) ?_ rfl ⟨⟨n, by first | (rw [hst.out, hq'.out]; done) | (have e1 := hst.out; have e2 := hq'.out; rw [e1]; simp; omega), hfin.out⟩, ?_⟩
        · simp [results, go_sem, y0, y1, y2, y3]
        · repeat (first | exact hbel'.out | refine Below.setCell ?_ (by first | exact Nat.le_refl _ | omega) _)
    · have hjl' : ¬ (q : Int) < (s.size : Int) := by omega
      have hjl2 : decide ((q : Int) < (s.size : Int)) = false := decide_eq_false hjl'
      have hst : Hid (stretch digit (l.drop k) = j) := stretch_is hall'.out (.inl (by rw [List.length_drop, ← hsz.out]; omega))
      have hfin : Hid (Fits n (dval ((l.drop k).takeWhile digit))) := by show Fits _ _; rw [takeWhile_eq, hst.out]; exact hfit'.out
      clear hq
      go_wp2_with fail
      refine bodyPost_ret (v := .tuple #[.agg #[.int .i64 1, .int .i64 n, .string ⟨#[]⟩, .int .i64 k], .int .i64 q]) ?_ rfl ⟨⟨n, by first | (rw [hst.out, hq'.out]; done) | (have e1 := hst.out; have e2 := hq'.out; rw [e1]; simp; omega), hfin.out⟩, ?_⟩
      · simp [results, go_sem, y0, y1, y2, y3]
      · repeat (first | exact hbel'.out | refine Below.setCell ?_ (by first | exact Nat.le_refl _ | omega) _)
/-- What reading one token answers. -/
def OnePost (l : List UInt8) (k : Nat) (e : Ending) : Prop :=
  ((one (l.drop k)).code = 0 ∧ e = .returned (.tuple #[V4 ((one (l.drop k)).tok k), .int .i64 (k + (one (l.drop k)).size : Nat)])) ∨
  ((one (l.drop k)).code = 2 ∧ e = .returned (.tuple #[V4 (0, 0, [], 0), .int .i64 k])) ∨
  ((one (l.drop k)).code = 3 ∧ ∃ (n p : Int), 2147483647 < n ∧ e = .returned (.tuple #[.agg #[.int .i64 1, .int .i64 n, .string ⟨#[]⟩, .int .i64 k], .int .i64 p]))
theorem drop_cons {l : List UInt8} {k : Nat} {x : UInt8} (h : l[k]? = some x) : l.drop k = x :: l.drop (k + 1) := by
  have hk : k < l.length := (List.getElem?_eq_some_iff.1 h).1
  rw [List.drop_eq_getElem_cons hk, (List.getElem?_eq_some_iff.1 h).2]
set_option maxRecDepth 20000 in
set_option maxHeartbeats 8000000 in
theorem spec_one (s : ByteArray) (l : List UInt8) (hl : s.data.toList = l) (k : Nat) (w : World) (hm : s.size ≤ 1048576) (hk : k < s.size) :
    Calls Tryd.prog 36 #[.string s, .int .i64 k] w fun e w' => OnePost l k e ∧ Below w.heap.size w w' := by
  have hsz : Hid (s.size = l.length) := size_list hl
  have hk' : (k : Int) < (s.size : Int) := by omega
  obtain ⟨x, hx, hxi⟩ := WordCalls.byte_at hl k hk
  have hdc : Hid (l.drop k = x :: l.drop (k + 1)) := drop_cons hx
  have hl' : Hid (s.data.toList = l) := hl
  have kd : Hid (∀ u, Calls Tryd.prog 57 #[.int .u8 (x.toNat : Int)] u fun e w' => e = .returned (.bool (digit x)) ∧ u = w') := fun u => spec_digit x u
  have ks : Hid (∀ u, Calls Tryd.prog 44 #[.int .u8 (x.toNat : Int)] u fun e w' => e = .returned (.bool (small x)) ∧ u = w') := fun u => spec_small x u
  clear hl hx
  cases hd : digit x with
  | true =>
    rw [hd] at kd
    have kn : Hid (∀ u, Calls Tryd.prog 58 #[.string s, .int .i64 k] u fun e w' => (∃ n, e = .returned (.tuple #[.agg #[.int .i64 1, .int .i64 n, .string ⟨#[]⟩, .int .i64 k], .int .i64 (k + stretch digit (l.drop k) : Nat)]) ∧ Fits n (dval ((l.drop k).takeWhile digit))) ∧ Below u.heap.size u w') := fun u => spec_number s l hl'.out k u hm (by omega)
    have hone : Hid (one (l.drop k) = if dval ((l.drop k).takeWhile digit) ≤ 2147483647 then .num (dval ((l.drop k).takeWhile digit)) (stretch digit (l.drop k)) else .bad 3) := by show _ = _; rw [hdc.out, one_cons, if_pos hd]
    have hfin : Hid (∀ n, Fits n (dval ((l.drop k).takeWhile digit)) → OnePost l k (.returned (.tuple #[.agg #[.int .i64 1, .int .i64 n, .string ⟨#[]⟩, .int .i64 k], .int .i64 (k + stretch digit (l.drop k) : Nat)]))) := fun n hf => by
      unfold OnePost
      rw [hone.out]
      by_cases hv : dval ((l.drop k).takeWhile digit) ≤ 2147483647
      · rw [if_pos hv]
        have := hf.2.2.1 hv
        subst this
        exact .inl ⟨rfl, rfl⟩
      · rw [if_neg hv]
        exact .inr (.inr ⟨rfl, n, _, hf.2.2.2 (by omega), rfl⟩)
    clear hd hone
    generalize k + stretch digit (l.drop k) = Z at *
    generalize dval ((l.drop k).takeWhile digit) = D at *
    go_enter Tryd.func36, Tryd.ntmps36
    go_wp2_with (first | (go_at_call 57; refine (kd.out _).mono ?_; rintro e u0 ⟨rfl, rfl⟩) | (go_at_call 58; refine (kn.out _).mono ?_; rintro e w1 ⟨⟨n, rfl, hf⟩, q1⟩; have hf' : Hid (Fits n D) := hf; obtain ⟨r1, z1, b1'⟩ := zero4 q1; have b1 : Hid (Below w.heap.size w w1) := b1'; obtain ⟨y0, y1, y2, y3, f0, f1, f2, f3⟩ := r4 r1; clear q1 b1' r1 hf))
    refine bodyPost_ret (v := .tuple #[.agg #[.int .i64 1, .int .i64 n, .string ⟨#[]⟩, .int .i64 k], .int .i64 (Z : Nat)]) ?_ rfl ⟨hfin.out n hf'.out, ?_⟩
    · simp [results, go_sem, y0, y1, y2, y3]
    · repeat (first | exact b1.out | refine Below.setCell ?_ (by first | exact Nat.le_refl _ | omega) _)
  | false =>
    rw [hd] at kd
    cases hs : small x with
    | true =>
      rw [hs] at ks
      have hone : Hid (one (l.drop k) = .txt (isWord ((l.drop k).takeWhile inName)) ((l.drop k).takeWhile inName)) := by show _ = _; rw [hdc.out, one_cons, if_neg (by rw [hd]; decide), if_pos hs]
      clear hd hs
      go_enter Tryd.func36, Tryd.ntmps36
      go_wp2_with (first | (go_at_call 57; refine (kd.out _).mono ?_; rintro e u0 ⟨rfl, rfl⟩) | (go_at_call 44; refine (ks.out _).mono ?_; rintro e u0 ⟨rfl, rfl⟩))
      go_loop [6] (fun ve => ∃ j : Nat, k + j ≤ s.size ∧ ve = .int .i64 (k + j : Nat) ∧ (∀ i, i < j → ∃ x, (l.drop k)[i]? = some x ∧ inName x = true)) (fun ve => s.size - (intOf ve).toNat)
      case atStart => exact ⟨0, by omega, by go_num, fun i hi => by omega⟩
      case round =>
        obtain ⟨j, hj, rfl, hall⟩ := hrel
        obtain ⟨q, hq⟩ : ∃ q, k + j = q := ⟨_, rfl⟩
        have hq' : Hid (k + j = q) := hq
        rw [hq] at hj ⊢
        have hall' : Hid (∀ i, i < j → ∃ x, (l.drop k)[i]? = some x ∧ inName x = true) := hall
        clear hall
        by_cases hgo : ∃ y, (l.drop k)[j]? = some y ∧ inName y = true
        · obtain ⟨y, hy, hyn⟩ := hgo
          have hy' : Hid ((l.drop k)[j]? = some y) := hy
          have hyn' : Hid (inName y = true) := hyn
          have hql : q < s.size := by have := (List.getElem?_eq_some_iff.1 hy).1; rw [List.length_drop, ← hsz.out] at this; omega
          have hql' : (q : Int) < (s.size : Int) := by omega
          obtain ⟨x2, hx2, hxi2⟩ := WordCalls.byte_at hl'.out q hql
          have hxy : x2 = y := by rw [List.getElem?_drop, hq, hx2] at hy; exact Option.some.inj hy
          subst hxy
          have kp : Hid (∀ u, Calls Tryd.prog 43 #[.int .u8 (x2.toNat : Int)] u fun e w' => e = .returned (.bool true) ∧ u = w') := fun u => by rw [← hyn]; exact spec_part x2 u
          clear hx2 hy hyn hq
          go_wp2_with (go_at_call 43; refine (kp.out _).mono ?_; rintro e u0 ⟨rfl, rfl⟩)
          go_round
          case rel => exact ⟨j + 1, by have := hq'.out; omega, by have := hq'.out; rw [show k + (j + 1) = q + 1 by omega]; go_num, fun i hi => by
            by_cases e : i = j
            · rw [e]; exact ⟨x2, hy'.out, hyn'.out⟩
            · exact hall'.out i (by omega)⟩
          case measure => simp [intOf]; omega
        · have hend : Hid (j = (l.drop k).length ∨ ∃ y, (l.drop k)[j]? = some y ∧ inName y = false) := by
            show _ ∨ _
            by_cases hql : q < s.size
            · obtain ⟨x2, hx2, _⟩ := WordCalls.byte_at hl'.out q hql
              have h2 : (l.drop k)[j]? = some x2 := drop_at (by rw [hq]; exact hx2)
              refine .inr ⟨x2, h2, ?_⟩
              cases hn : inName x2 with
              | false => rfl
              | true => exact absurd ⟨x2, h2, hn⟩ hgo
            · exact .inl (by rw [List.length_drop, ← hsz.out]; omega)
          have hst : Hid (stretch inName (l.drop k) = j) := stretch_is hall'.out hend.out
          have htw : (l.drop k).takeWhile inName = (l.drop k).take j := by rw [takeWhile_eq, hst.out]
          have hex : (s.extract k q).data.toList = (l.drop k).takeWhile inName := by rw [ext_tx, hl'.out, htw, ← hq, show k + j - k = j by omega]
          have hxt : s.extract k q = tx ((l.drop k).takeWhile inName) := of_list hex
          have hkq : (k : Int) ≤ (q : Int) := by omega
          have hqs : (q : Int) ≤ (s.size : Int) := by omega
          have hlen : Hid (((l.drop k).takeWhile inName).length = j) := hst.out
          have kh : Hid (∀ u b, Holds u b (words.map fun z => .string (tx z)) → Calls Tryd.prog 25 #[.slice (some ⟨b, 0, none⟩) 7 7, .string (s.extract k q)] u fun e w' => e = .returned (.bool (isWord ((l.drop k).takeWhile inName))) ∧ u = w') := fun u b hb => spec_has b 7 words rfl (by omega) _ _ hex u hb
          have kp : Hid (∀ (u : World) (hql : q < s.size), Calls Tryd.prog 43 #[.int .u8 ((s[q]'hql).toNat : Int)] u fun e w' => e = .returned (.bool false) ∧ u = w') := fun u hql => by
            obtain ⟨x2, hx2, hxi2⟩ := WordCalls.byte_at hl'.out q hql
            have h2 : (l.drop k)[j]? = some x2 := drop_at (by rw [hq]; exact hx2)
            rw [hxi2]
            have : inName x2 = false := by
              cases hn : inName x2 with
              | false => rfl
              | true => exact absurd ⟨x2, h2, hn⟩ hgo
            rw [← this]
            exact spec_part x2 u
          have hfin : Hid (∀ b, isWord ((l.drop k).takeWhile inName) = b → OnePost l k (.returned (.tuple #[.agg #[.int .i64 (if b then 3 else 2), .int .i64 0, .string (s.extract k q), .int .i64 k], .int .i64 q]))) := fun b hb => by
            refine .inl ⟨by rw [hone.out]; rfl, ?_⟩
            rw [hone.out, hxt]
            show _ = Ending.returned (Value.tuple #[V4 ((if isWord ((l.drop k).takeWhile inName) then 3 else 2), 0, _, k), .int .i64 (k + ((l.drop k).takeWhile inName).length : Nat)])
            rw [hlen.out, hb, ← hq]
          clear hex hxt htw hgo hend hq hone
          generalize isWord ((l.drop k).takeWhile inName) = B at *
          have A1 : Hid (Below w.heap.size w ((w.alloc (.cells #[.int .i64 0, .int .i64 0, .string ⟨#[]⟩, .int .i64 0] 27)).alloc (.cells #[.int .i64 2, .int .i64 0, .string (s.extract k q), .int .i64 k] 27))) := ((Below.refl _ _).alloc (Nat.le_refl _) _).alloc (by simp) _
          have X0 : Hid (((w.alloc (.cells #[.int .i64 0, .int .i64 0, .string ⟨#[]⟩, .int .i64 0] 27)).alloc (.cells #[.int .i64 2, .int .i64 0, .string (s.extract k q), .int .i64 k] 27)).rowIs w.heap.size 27 4 (R4 (.int .i64 0) (.int .i64 0) (.string ⟨#[]⟩) (.int .i64 0)) ∧ ((w.alloc (.cells #[.int .i64 0, .int .i64 0, .string ⟨#[]⟩, .int .i64 0] 27)).alloc (.cells #[.int .i64 2, .int .i64 0, .string (s.extract k q), .int .i64 k] 27)).rowIs (w.heap.size + 1) 27 4 (R4 (.int .i64 2) (.int .i64 0) (.string (s.extract k q)) (.int .i64 k))) := by
            have e1 := (r4_made w (.int .i64 0) (.int .i64 0) (.string ⟨#[]⟩) (.int .i64 0) 27).alloc (.cells #[.int .i64 2, .int .i64 0, .string (s.extract k q), .int .i64 k] 27)
            have e2 := r4_made (w.alloc (.cells #[.int .i64 0, .int .i64 0, .string ⟨#[]⟩, .int .i64 0] 27)) (.int .i64 2) (.int .i64 0) (.string (s.extract k q)) (.int .i64 k) 27
            rw [World.size_alloc] at e2
            exact ⟨e1, e2⟩
          by_cases hql : q < s.size
          · have hql' : (q : Int) < (s.size : Int) := by omega
            cases B with
            | true =>
              go_wp2_with (go_at_call 43; refine (kp.out _ hql).mono ?_; rintro e u0 ⟨rfl, rfl⟩)
              clear kp
              have kh1 := kh
              go_region_held (fun w' => w'.cell? ⟨w.heap.size + 1, 0, none⟩ = some (.int .i64 2) ∧ w'.cell? ⟨w.heap.size + 1, 1, none⟩ = some (.int .i64 0) ∧ w'.cell? ⟨w.heap.size + 1, 2, none⟩ = some (.string (s.extract k q)) ∧ w'.cell? ⟨w.heap.size + 1, 3, none⟩ = some (.int .i64 k)) (first | exact ⟨(r4 X0.out.2.drew).1, (r4 X0.out.2.drew).2.1, (r4 X0.out.2.drew).2.2.1, (r4 X0.out.2.drew).2.2.2.1⟩ | go_keep)
                (first
                  | (go_at_call 26; refine (spec_words _).mono ?_; rintro e w1 ⟨b, rfl, h1, q1⟩; have H1 : Hid (Holds w1 b (words.map fun z => .string (tx z))) := h1; have b1 : Hid (Below w.heap.size w w1) := A1.out.drew.trans (q1.mono A1.out.size); have X1 : Hid (w1.rowIs w.heap.size 27 4 (R4 (.int .i64 0) (.int .i64 0) (.string ⟨#[]⟩) (.int .i64 0)) ∧ w1.rowIs (w.heap.size + 1) 27 4 (R4 (.int .i64 2) (.int .i64 0) (.string (s.extract k q)) (.int .i64 k))) := ⟨row_later X0.out.1.drew q1, row_later X0.out.2.drew q1⟩; clear h1 q1; obtain ⟨y0, y1, y2, y3, f0, f1, f2, f3⟩ := r4 X1.out.1; obtain ⟨c0, c1, c2, c3, g0, g1, g2, g3⟩ := r4 X1.out.2)
                  | (go_at_call 25; refine (kh1.out _ _ H1.out).mono ?_; rintro e u0 ⟨rfl, rfl⟩; clear kh1))
              go_wp2_with fail
              refine bodyPost_ret (v := .tuple #[.agg #[.int .i64 3, .int .i64 0, .string (s.extract k q), .int .i64 k], .int .i64 q]) ?_ rfl ⟨hfin.out true rfl, ?_⟩
              · simp [results, go_sem, y0, y1, y2, y3]
              · repeat (first | exact b1.out | refine Below.setCell ?_ (by first | exact Nat.le_refl _ | exact Nat.le_succ _ | omega) _)
            | false =>
              go_wp2_with (go_at_call 43; refine (kp.out _ hql).mono ?_; rintro e u0 ⟨rfl, rfl⟩)
              clear kp
              have kh1 := kh
              go_region_held (fun w' => w'.cell? ⟨w.heap.size + 1, 0, none⟩ = some (.int .i64 2) ∧ w'.cell? ⟨w.heap.size + 1, 1, none⟩ = some (.int .i64 0) ∧ w'.cell? ⟨w.heap.size + 1, 2, none⟩ = some (.string (s.extract k q)) ∧ w'.cell? ⟨w.heap.size + 1, 3, none⟩ = some (.int .i64 k)) (first | exact ⟨(r4 X0.out.2.drew).1, (r4 X0.out.2.drew).2.1, (r4 X0.out.2.drew).2.2.1, (r4 X0.out.2.drew).2.2.2.1⟩ | go_keep)
                (first
                  | (go_at_call 26; refine (spec_words _).mono ?_; rintro e w1 ⟨b, rfl, h1, q1⟩; have H1 : Hid (Holds w1 b (words.map fun z => .string (tx z))) := h1; have b1 : Hid (Below w.heap.size w w1) := A1.out.drew.trans (q1.mono A1.out.size); have X1 : Hid (w1.rowIs w.heap.size 27 4 (R4 (.int .i64 0) (.int .i64 0) (.string ⟨#[]⟩) (.int .i64 0)) ∧ w1.rowIs (w.heap.size + 1) 27 4 (R4 (.int .i64 2) (.int .i64 0) (.string (s.extract k q)) (.int .i64 k))) := ⟨row_later X0.out.1.drew q1, row_later X0.out.2.drew q1⟩; clear h1 q1; obtain ⟨y0, y1, y2, y3, f0, f1, f2, f3⟩ := r4 X1.out.1; obtain ⟨c0, c1, c2, c3, g0, g1, g2, g3⟩ := r4 X1.out.2)
                  | (go_at_call 25; refine (kh1.out _ _ H1.out).mono ?_; rintro e u0 ⟨rfl, rfl⟩; clear kh1))
              go_wp2_with fail
              refine bodyPost_ret (v := .tuple #[.agg #[.int .i64 2, .int .i64 0, .string (s.extract k q), .int .i64 k], .int .i64 q]) ?_ rfl ⟨hfin.out false rfl, ?_⟩
              · simp [results, go_sem, y0, y1, y2, y3]
              · repeat (first | exact b1.out | refine Below.setCell ?_ (by first | exact Nat.le_refl _ | exact Nat.le_succ _ | omega) _)
          · have hql' : ¬ (q : Int) < (s.size : Int) := by omega
            have hql2 : decide ((q : Int) < (s.size : Int)) = false := decide_eq_false hql'
            cases B with
            | true =>
              go_wp2_with fail
              clear kp
              have kh1 := kh
              go_region_held (fun w' => w'.cell? ⟨w.heap.size + 1, 0, none⟩ = some (.int .i64 2) ∧ w'.cell? ⟨w.heap.size + 1, 1, none⟩ = some (.int .i64 0) ∧ w'.cell? ⟨w.heap.size + 1, 2, none⟩ = some (.string (s.extract k q)) ∧ w'.cell? ⟨w.heap.size + 1, 3, none⟩ = some (.int .i64 k)) (first | exact ⟨(r4 X0.out.2.drew).1, (r4 X0.out.2.drew).2.1, (r4 X0.out.2.drew).2.2.1, (r4 X0.out.2.drew).2.2.2.1⟩ | go_keep)
                (first
                  | (go_at_call 26; refine (spec_words _).mono ?_; rintro e w1 ⟨b, rfl, h1, q1⟩; have H1 : Hid (Holds w1 b (words.map fun z => .string (tx z))) := h1; have b1 : Hid (Below w.heap.size w w1) := A1.out.drew.trans (q1.mono A1.out.size); have X1 : Hid (w1.rowIs w.heap.size 27 4 (R4 (.int .i64 0) (.int .i64 0) (.string ⟨#[]⟩) (.int .i64 0)) ∧ w1.rowIs (w.heap.size + 1) 27 4 (R4 (.int .i64 2) (.int .i64 0) (.string (s.extract k q)) (.int .i64 k))) := ⟨row_later X0.out.1.drew q1, row_later X0.out.2.drew q1⟩; clear h1 q1; obtain ⟨y0, y1, y2, y3, f0, f1, f2, f3⟩ := r4 X1.out.1; obtain ⟨c0, c1, c2, c3, g0, g1, g2, g3⟩ := r4 X1.out.2)
                  | (go_at_call 25; refine (kh1.out _ _ H1.out).mono ?_; rintro e u0 ⟨rfl, rfl⟩; clear kh1))
              go_wp2_with fail
              refine bodyPost_ret (v := .tuple #[.agg #[.int .i64 3, .int .i64 0, .string (s.extract k q), .int .i64 k], .int .i64 q]) ?_ rfl ⟨hfin.out true rfl, ?_⟩
              · simp [results, go_sem, y0, y1, y2, y3]
              · repeat (first | exact b1.out | refine Below.setCell ?_ (by first | exact Nat.le_refl _ | exact Nat.le_succ _ | omega) _)
            | false =>
              go_wp2_with fail
              clear kp
              have kh1 := kh
              go_region_held (fun w' => w'.cell? ⟨w.heap.size + 1, 0, none⟩ = some (.int .i64 2) ∧ w'.cell? ⟨w.heap.size + 1, 1, none⟩ = some (.int .i64 0) ∧ w'.cell? ⟨w.heap.size + 1, 2, none⟩ = some (.string (s.extract k q)) ∧ w'.cell? ⟨w.heap.size + 1, 3, none⟩ = some (.int .i64 k)) (first | exact ⟨(r4 X0.out.2.drew).1, (r4 X0.out.2.drew).2.1, (r4 X0.out.2.drew).2.2.1, (r4 X0.out.2.drew).2.2.2.1⟩ | go_keep)
                (first
                  | (go_at_call 26; refine (spec_words _).mono ?_; rintro e w1 ⟨b, rfl, h1, q1⟩; have H1 : Hid (Holds w1 b (words.map fun z => .string (tx z))) := h1; have b1 : Hid (Below w.heap.size w w1) := A1.out.drew.trans (q1.mono A1.out.size); have X1 : Hid (w1.rowIs w.heap.size 27 4 (R4 (.int .i64 0) (.int .i64 0) (.string ⟨#[]⟩) (.int .i64 0)) ∧ w1.rowIs (w.heap.size + 1) 27 4 (R4 (.int .i64 2) (.int .i64 0) (.string (s.extract k q)) (.int .i64 k))) := ⟨row_later X0.out.1.drew q1, row_later X0.out.2.drew q1⟩; clear h1 q1; obtain ⟨y0, y1, y2, y3, f0, f1, f2, f3⟩ := r4 X1.out.1; obtain ⟨c0, c1, c2, c3, g0, g1, g2, g3⟩ := r4 X1.out.2)
                  | (go_at_call 25; refine (kh1.out _ _ H1.out).mono ?_; rintro e u0 ⟨rfl, rfl⟩; clear kh1))
              go_wp2_with fail
              refine bodyPost_ret (v := .tuple #[.agg #[.int .i64 2, .int .i64 0, .string (s.extract k q), .int .i64 k], .int .i64 q]) ?_ rfl ⟨hfin.out false rfl, ?_⟩
              · simp [results, go_sem, y0, y1, y2, y3]
              · repeat (first | exact b1.out | refine Below.setCell ?_ (by first | exact Nat.le_refl _ | exact Nat.le_succ _ | omega) _)
    | false =>
      rw [hs] at ks
      have hone : Hid (one (l.drop k) = if sgn (l.drop k) = [] then .bad 2 else .txt true (sgn (l.drop k))) := by show _ = _; rw [hdc.out, one_cons, if_neg (by rw [hd]; decide), if_neg (by rw [hs]; decide)]
      have hno0 : Hid (sgn (l.drop k) = [] → OnePost l k (.returned (.tuple #[V4 (0, 0, [], 0), .int .i64 k]))) := fun h => by
        refine .inr (.inl ⟨by rw [hone.out, if_pos h]; rfl, rfl⟩)
      have hyes0 : Hid (∀ t, t ≠ [] → sgn (l.drop k) = t → OnePost l k (.returned (.tuple #[.agg #[.int .i64 3, .int .i64 0, .string (tx t), .int .i64 k], .int .i64 ((k : Int) + (tx t).size)]))) := fun t ht h => by
        have h2 : sgn (l.drop k) ≠ [] := by rw [h]; exact ht
        refine .inl ⟨by rw [hone.out, if_neg h2]; rfl, ?_⟩
        rw [hone.out, if_neg h2, h]
        show _ = Ending.returned (Value.tuple #[V4 (3, 0, t, k), .int .i64 (k + t.length : Nat)])
        rw [size_list (tx_list t)]
        rfl
      clear hd hs hone
      go_enter Tryd.func36, Tryd.ntmps36
      go_wp2_with (first | (go_at_call 57; refine (kd.out _).mono ?_; rintro e u0 ⟨rfl, rfl⟩) | (go_at_call 44; refine (ks.out _).mono ?_; rintro e u0 ⟨rfl, rfl⟩) | (go_at_call 29; refine (spec_signs _).mono ?_; rintro e w1 ⟨b, rfl, h1, q1⟩; have H1 : Hid (Holds w1 b (signs.map fun z => .string (tx z))) := h1; obtain ⟨r1, z1, b1'⟩ := zero4 q1; have b1 : Hid (Below w.heap.size w w1) := b1'; obtain ⟨y0, y1, y2, y3, f0, f1, f2, f3⟩ := r4 r1; clear q1 b1' r1 h1))
      go_loop [51] (fun i => ∃ j : Nat, j ≤ 29 ∧ i = .int .i64 j ∧ (∀ i, i < j → (signs.getD i []).isPrefixOf (l.drop k) = false)) (fun i => 29 - (intOf i).toNat)
      case atStart => exact ⟨0, by omega, rfl, fun j hj => by omega⟩
      case round =>
        obtain ⟨j, hj, rfl, hno⟩ := hrel
        have hno' : Hid (∀ i, i < j → (signs.getD i []).isPrefixOf (l.drop k) = false) := hno
        clear hno
        by_cases hlt : j < 29
        · have hlt' : (j : Int) < 29 := by omega
          have hc := H1.out.str j (by show j < 29; exact hlt)
          obtain ⟨t2, t1⟩ := signs_small j hlt
          have htz : (tx (signs.getD j [])).size = (signs.getD j []).length := size_list (tx_list _)
          have kb : Hid (∀ u, Calls Tryd.prog 56 #[.string s, .int .i64 k, .string (tx (signs.getD j []))] u fun e w' => e = .returned (.bool ((signs.getD j []).isPrefixOf (l.drop k))) ∧ u = w') := fun u => spec_begins s l hl'.out k _ _ (tx_list _) u hm (by omega) (by omega) (by omega)
          cases he : (signs.getD j []).isPrefixOf (l.drop k) with
          | true =>
            rw [he] at kb
            have hf : Hid _ := hyes0.out (signs.getD j []) (fun e => by rw [e] at t1; simp at t1) (sgn_at hlt hno'.out he)
            have htz2 : (tx (signs.getD j [])).size ≤ 2 := by omega
            generalize tx (signs.getD j []) = T at *
            clear he htz
            go_wp2_with (go_at_call 56; refine (kb.out _).mono ?_; rintro e u0 ⟨rfl, rfl⟩)
            refine bodyPost_ret (v := .tuple #[.agg #[.int .i64 3, .int .i64 0, .string T, .int .i64 k], .int .i64 ((k : Int) + T.size)]) ?_ rfl ⟨hf.out, ?_⟩
            · simp [results, go_sem, y0, y1, y2, y3]
            · repeat (first | exact b1.out | refine Below.setCell ?_ (by first | exact Nat.le_refl _ | omega) _)
          | false =>
            rw [he] at kb
            have hs2 : Hid (∀ i, i < j + 1 → (signs.getD i []).isPrefixOf (l.drop k) = false) := fun i hi => by
              by_cases e : i = j
              · rw [e]; exact he
              · exact hno'.out i (by omega)
            generalize tx (signs.getD j []) = T at *
            clear he htz
            go_wp2_with (go_at_call 56; refine (kb.out _).mono ?_; rintro e u0 ⟨rfl, rfl⟩)
            go_round
            case rel => exact ⟨j + 1, by omega, by go_num, hs2.out⟩
            case measure => simp only [intOf]; omega
        · obtain rfl : j = 29 := by omega
          have hf : Hid (OnePost l k (.returned (.tuple #[V4 (0, 0, [], 0), .int .i64 k]))) := hno0.out (sgn_none hno'.out)
          go_wp2_with fail
          refine bodyPost_ret (v := .tuple #[.agg #[.int .i64 0, .int .i64 0, .string ⟨#[]⟩, .int .i64 0], .int .i64 k]) ?_ rfl ⟨hf.out, ?_⟩
          · simp [results, go_sem, y0, y1, y2, y3]
          · repeat (first | exact b1.out | refine Below.setCell ?_ (by first | exact Nat.le_refl _ | omega) _)
end Go.Proofs.YtjndgjheehjohaaDoor.SpecLexB
