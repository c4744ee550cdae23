/-
  One instruction, as the specification goes through it. (Written by my specstep.py.)
-/
import Derived.Test.YtdaffcbamnpjfaaGreatDoorSHasAll
import Derived.Test.YtdaffcbamnpjfaaGreatDoorValidAll
namespace Go.Proofs.YtdaffcbamnpjfaaGreatDoor.SStep
open Go.RowKit PlainOps NameCalls PlainNum NumCalls InsCalls InsImpl PlainShape InsMem FormCalls ModMem FormImpl PlainValid ValidCtx ValidStep Piles Walks SPiles SWalks SIns SHas SFlow

theorem flow (B q g n cap : Nat) (w : World) (p : P) (m : M) (s x : Int) (h : Int) (st : List Fr) (o i b0 : Int) (E : SEnv B q g n cap w p m s x h false st o i) (Bd : Bnd 10000 (h, st)) (hown : (st.getD 0 dF).res = (ctxOf m s x).own) (ho : o = 0 ∨ o = 2 ∨ o = 3 ∨ o = 4 ∨ o = 5 ∨ o = 11 ∨ o = 12 ∨ o = 13 ∨ o = 15) :
    Calls Tryz.prog 67 #[.pointer (some ⟨q, 0, none⟩), .agg #[.int .i64 o, .int .i64 i, .int .i64 b0]] w fun e w' => e = .returned (.bool true) ∧ SRes B w q (sF p m (ctxOf m s x).loc) (.slice (some ⟨g, 0, none⟩) (n + 1) cap) (PlainValid.step (ctxOf m s x) o i (h, st)) w' := by
  have tt : ∀ o' : Int, o' ≠ 12 ∧ o' ≠ 13 ∧ o' ≠ 16 ∧ o' ≠ 32 ∧ o' ≠ 33 ∧ o' ≠ 34 ∧ o' ≠ 35 ∧ o' ≠ 36 ∧ o' ≠ 40 ∧ o' ≠ 54 ∧ o' ≠ 63 ∧ o' ≠ 64 → PlainValid.there (ctxOf m s x) o' i (n + 1) = true := fun o' h' => by
    unfold PlainValid.there
    rw [if_neg (by omega), if_neg (by omega), if_neg (by omega), if_neg (by omega), if_neg (by omega), if_neg (by omega)]
  rcases ho with rfl | rfl | rfl | rfl | rfl | rfl | rfl | rfl | rfl
  · exact flow0 B q g n cap w p m s x h st i b0 E Bd (tt 0 (by omega))
  · exact flow2 B q g n cap w p m s x h st i b0 E Bd (tt 2 (by omega))
  · exact flow3 B q g n cap w p m s x h st i b0 E Bd (tt 3 (by omega))
  · exact flow4 B q g n cap w p m s x h st i b0 E Bd (tt 4 (by omega))
  · exact flow5 B q g n cap w p m s x h st i b0 E Bd (tt 5 (by omega))
  · exact flow11 B q g n cap w p m s x h st i b0 E Bd (tt 11 (by omega))
  · cases ht : PlainValid.there (ctxOf m s x) 12 i (n + 1) with
    | false => exact flowNo12 B q g n cap w p m s x h st i b0 E Bd ht
    | true =>
      obtain ⟨i0, i1⟩ := E.hi.idx (by omega)
      have hlt := of_decide_eq_true (show decide (i < ((n + 1 : Nat) : Int)) = true from ht)
      obtain ⟨k, rfl⟩ : ∃ k : Nat, i = k := ⟨i.toNat, by omega⟩
      obtain ⟨j, rfl⟩ : ∃ j : Nat, n = j + k := ⟨n - k, by omega⟩
      exact flow12 B q g j k cap w p m s x h st b0 E Bd ht
  · cases ht : PlainValid.there (ctxOf m s x) 13 i (n + 1) with
    | false => exact flowNo13 B q g n cap w p m s x h st i b0 E Bd ht
    | true =>
      obtain ⟨i0, i1⟩ := E.hi.idx (by omega)
      have hlt := of_decide_eq_true (show decide (i < ((n + 1 : Nat) : Int)) = true from ht)
      obtain ⟨k, rfl⟩ : ∃ k : Nat, i = k := ⟨i.toNat, by omega⟩
      obtain ⟨j, rfl⟩ : ∃ j : Nat, n = j + k := ⟨n - k, by omega⟩
      exact flow13 B q g j k cap w p m s x h st b0 E Bd ht
  · exact flow15 B q g n cap w p m s x h st i b0 E Bd (tt 15 (by omega)) hown
set_option maxRecDepth 20000 in
set_option maxHeartbeats 8000000 in
theorem stepFlow (B q g n cap : Nat) (w : World) (p : P) (m : M) (s x : Int) (h : Int) (st : List Fr) (o i b0 : Int) (E : SEnv B q g n cap w p m s x h false st o i) (Bd : Bnd 10000 (h, st)) (hown : (st.getD 0 dF).res = (ctxOf m s x).own) (ho : o = 0 ∨ o = 2 ∨ o = 3 ∨ o = 4 ∨ o = 5 ∨ o = 11 ∨ o = 12 ∨ o = 13 ∨ o = 15) :
    Calls Tryz.prog 30 #[.pointer (some ⟨q, 0, none⟩), .agg #[.int .i64 o, .int .i64 i, .int .i64 b0]] w fun e w' => e = .returned (.tuple #[]) ∧ SRes B w q (sF p m (ctxOf m s x).loc) (.slice (some ⟨g, 0, none⟩) (n + 1) cap) (PlainValid.step (ctxOf m s x) o i (h, st)) w' := by
  have kF : Hid (∀ u : World, Below w.heap.size w u → Calls Tryz.prog 67 #[.pointer (some ⟨q, 0, none⟩), .agg #[.int .i64 o, .int .i64 i, .int .i64 b0]] u fun e w' => e = .returned (.bool true) ∧ SRes B u q (sF p m (ctxOf m s x).loc) (.slice (some ⟨g, 0, none⟩) (n + 1) cap) (PlainValid.step (ctxOf m s x) o i (h, st)) w') := fun u hu => flow B q g n cap u p m s x h st o i b0 (senvLater E hu) Bd hown ho
  have kW : Hid (Kp q w (w.alloc (.cells #[.int .i64 o, .int .i64 i, .int .i64 b0] 62)) (.slice (some ⟨g, 0, none⟩) (n + 1) cap) (.slice (some ⟨g, 0, none⟩) (n + 1) cap)) := Kp.alloc q w _ _
  clear E Bd hown ho
  generalize PlainValid.step (ctxOf m s x) o i (h, st) = X at *
  go_enter Tryz.func30, Tryz.ntmps30
  go_wp2_with (go_at_call 67; refine (kF.out _ ((Below.refl _ _).alloc (Nat.le_refl _) _)).mono ?_; rintro e w1 ⟨rfl, bad, h1, v1, st1, b1, k1, hr⟩; have b1' : Hid (SV B w1 q (sF p m (ctxOf m s x).loc) h1 v1 bad st1) := b1; have hr' : Hid (X = if bad = false then some (h1, st1) else none) := hr; clear b1 hr)
  refine bodyPost_ret ?_ rfl ⟨rfl, bad, h1, v1, st1, b1'.out, kW.out.trans k1, hr'.out⟩
  simp [results, go_sem]
set_option maxRecDepth 20000 in
set_option maxHeartbeats 8000000 in
theorem stepPlain (B q g n cap : Nat) (w : World) (p : P) (m : M) (s x : Int) (h : Int) (st : List Fr) (o i b0 : Int) (E : SEnv B q g n cap w p m s x h false st o i) (Bd : Bnd 10000 (h, st)) (ho : o ≠ 0 ∧ o ≠ 2 ∧ o ≠ 3 ∧ o ≠ 4 ∧ o ≠ 5 ∧ o ≠ 11 ∧ o ≠ 12 ∧ o ≠ 13 ∧ o ≠ 15) :
    Calls Tryz.prog 30 #[.pointer (some ⟨q, 0, none⟩), .agg #[.int .i64 o, .int .i64 i, .int .i64 b0]] w fun e w' => e = .returned (.tuple #[]) ∧ SRes B w q (sF p m (ctxOf m s x).loc) (.slice (some ⟨g, 0, none⟩) (n + 1) cap) (PlainValid.step (ctxOf m s x) o i (h, st)) w' := by
  have hn := E.b.len
  obtain ⟨t0, t1, t2, t3⟩ := Bd.top (by omega : st.length ≠ 0)
  have hlo := Bd.lo
  have hhi := Bd.hi
  simp only [SFlow.top_is hn] at t0 t1 t2 t3
  dsimp only at hlo hhi
  have hnn := E.hn
  have kF : Hid (∀ u : World, Calls Tryz.prog 67 #[.pointer (some ⟨q, 0, none⟩), .agg #[.int .i64 o, .int .i64 i, .int .i64 b0]] u fun e w' => e = .returned (.bool false) ∧ Below u.heap.size u w') := fun u => flowElse q u o i b0 ho
  have kH : Hid (∀ u : World, Below w.heap.size w u → Calls Tryz.prog 68 #[.pointer (some ⟨q, 0, none⟩), .agg #[.int .i64 o, .int .i64 i, .int .i64 b0]] u fun e w' => e = .returned (.bool (PlainValid.there (ctxOf m s x) o i (n + 1))) ∧ Below u.heap.size u w') := fun u hu => has B q g n cap u p m s x h false st o i b0 (senvLater E hu) (n + 1) (by omega)
  have hbl : Hid (∀ u : World, Below w.heap.size w u → SV B u q (sF p m (ctxOf m s x).loc) h (.slice (some ⟨g, 0, none⟩) (n + 1) cap) false st) := fun u hu => E.b.later hu
  have hbx : Hid (∀ u : World, Below (w.alloc (.cells #[.int .i64 o, .int .i64 i, .int .i64 b0] 62)).heap.size (w.alloc (.cells #[.int .i64 o, .int .i64 i, .int .i64 b0] 62)) u → (u.cell? ⟨w.heap.size, 0, none⟩ = some (.int .i64 o) ∧ u.cell? ⟨w.heap.size, 1, none⟩ = some (.int .i64 i) ∧ u.cell? ⟨w.heap.size, 2, none⟩ = some (.int .i64 b0)) ∧ u.cell? ⟨q, 0, none⟩ = some (.slice p.a0 m.sigs.length p.c0) ∧ u.cell? ⟨q, 1, none⟩ = some (.slice p.a1 m.imps.length p.c1) ∧ u.cell? ⟨q, 2, none⟩ = some (.slice p.a2 m.fns.length p.c2) ∧ u.cell? ⟨q, 3, none⟩ = some (.int .i64 m.pages) ∧ u.cell? ⟨q, 4, none⟩ = some (.int .i64 m.most) ∧ u.cell? ⟨q, 5, none⟩ = some (.slice p.a3 m.gls.length p.c3) ∧ u.cell? ⟨q, 6, none⟩ = some (.slice p.a4 m.exs.length p.c4) ∧ u.cell? ⟨q, 7, none⟩ = some (.slice p.a5 m.dat.length p.c5)) := fun u hu => by
    obtain ⟨a0, a1, a2, a3, a4, a5, a6, a7, _⟩ := sfixed ((E.b.alloc _).later hu)
    exact ⟨boxLater hu, a0, a1, a2, a3, a4, a5, a6, a7⟩
  cases ht : PlainValid.there (ctxOf m s x) o i (n + 1) with
  | false =>
    rw [ht] at kH
    have e1 : Hid (PlainValid.step (ctxOf m s x) o i (h, st) = none) := by show _ = _; unfold PlainValid.step; dsimp only; rw [← hn, if_pos ht]
    rw [e1.out]
    clear E Bd ho ht e1 hn t0 t1 t2 t3
    go_enter Tryz.func30, Tryz.ntmps30
    go_wp2_with (first | (go_at_call 67; refine (kF.out _).mono ?_; rintro e w1 ⟨rfl, q1⟩; obtain ⟨⟨_, _, _⟩, _, _, _, _, _, _, _, _⟩ := hbx.out _ q1; have x1 : Hid (Below w.heap.size w w1) := belB q1) | (go_at_call 68; refine (kH.out _ x1.out).mono ?_; rintro e w2 ⟨rfl, q2⟩; have x2 : Hid (Below w.heap.size w w2) := x1.out.trans (q2.mono x1.out.size); have b2 := hbl.out _ x2.out; have z1 := b2.isBad; have z2 := b2.frozen 11; clear b2))
    refine bodyPost_ret ?_ rfl ⟨rfl, true, _, _, _, (hbl.out _ x2.out).setbad true, (Kp.below _ x2.out).trans (Kp.set _ _ _), rfl⟩
    simp [results, go_sem]
  | true =>
    rw [ht] at kH
    obtain ⟨f0, f1, f2, f3⟩ := eff_bnd (okC E.f (s := s) (x := x) E.h0 E.h1) E.hi ht
    have e1 : Hid (PlainValid.step (ctxOf m s x) o i (h, st) = if (!(tk (effT (ctxOf m s x) o i).toNat h (st.getD n dF).base (st.getD n dF).dead).2) = false then some ((tk (effT (ctxOf m s x) o i).toNat h (st.getD n dF).base (st.getD n dF).dead).1 + effP (ctxOf m s x) o i, st) else none) := by
      show _ = _
      unfold PlainValid.step
      dsimp only
      rw [← hn, if_neg (by rw [ht]; decide), if_neg (by omega), if_neg (by omega), if_neg (by omega), if_neg (by omega), if_neg (by omega), if_neg (by omega), if_neg (by omega)]
      unfold exch
      simp only [SFlow.top_is hn]
      cases (tk (effT (ctxOf m s x) o i).toNat h (st.getD n dF).base (st.getD n dF).dead).2 <;> rfl
    have kT : Hid (∀ u : World, Below w.heap.size w u → Calls Tryz.prog 69 #[.agg #[.slice p.a0 m.sigs.length p.c0, .slice p.a1 m.imps.length p.c1, .slice p.a2 m.fns.length p.c2, .int .i64 m.pages, .int .i64 m.most, .slice p.a3 m.gls.length p.c3, .slice p.a4 m.exs.length p.c4, .slice p.a5 m.dat.length p.c5], .agg #[.int .i64 o, .int .i64 i, .int .i64 b0]] u fun e w' => e = .returned (.tuple #[.int .i64 (effT (ctxOf m s x) o i), .int .i64 (effP (ctxOf m s x) o i)]) ∧ Below u.heap.size u w') := fun u hu => takesC u p m s x o i b0 (n + 1) (E.hR.later hu) E.f E.hi ht (by omega)
    have kK : Hid (∀ u : World, SV B u q (sF p m (ctxOf m s x).loc) h (.slice (some ⟨g, 0, none⟩) (n + 1) cap) false st → Calls Tryz.prog 70 #[.pointer (some ⟨q, 0, none⟩), .int .i64 (effT (ctxOf m s x) o i)] u fun e w' => e = .returned (.tuple #[]) ∧ SV B w' q (sF p m (ctxOf m s x).loc) (tk (effT (ctxOf m s x) o i).toNat h (st.getD n dF).base (st.getD n dF).dead).1 (.slice (some ⟨g, 0, none⟩) (n + 1) cap) (!(tk (effT (ctxOf m s x) o i).toNat h (st.getD n dF).base (st.getD n dF).dead).2) st ∧ Kp q u w' (.slice (some ⟨g, 0, none⟩) (n + 1) cap) (.slice (some ⟨g, 0, none⟩) (n + 1) cap)) := fun u hu => by
      have := SPiles.take B q g n cap u (sF p m (ctxOf m s x).loc) h false st (effT (ctxOf m s x) o i).toNat hu (by omega) (by omega) (by omega) (by omega) (by omega) (by omega)
      rw [Int.toNat_of_nonneg f0] at this
      exact this
    have htk := tk_le (effT (ctxOf m s x) o i).toNat h (st.getD n dF).base (st.getD n dF).dead
    have hl1 : -100000 ≤ (tk (effT (ctxOf m s x) o i).toNat h (st.getD n dF).base (st.getD n dF).dead).1 := by
      by_cases e : (st.getD n dF).base ≤ h
      · have := htk.2.1 e; omega
      · have := htk.2.2 (by omega); omega
    have hl2 : (tk (effT (ctxOf m s x) o i).toNat h (st.getD n dF).base (st.getD n dF).dead).1 ≤ 1000000 := by have := htk.1; omega
    generalize PlainValid.step (ctxOf m s x) o i (h, st) = XX at e1 ⊢
    clear E Bd ho ht hn t0 t1 t2 t3 htk
    generalize tk (effT (ctxOf m s x) o i).toNat h (st.getD n dF).base (st.getD n dF).dead = R at *
    obtain ⟨R1, R2⟩ := R
    generalize effT (ctxOf m s x) o i = X0 at *
    generalize effP (ctxOf m s x) o i = X1 at *
    dsimp only at *
    generalize m.sigs.length = N0 at *
    generalize m.imps.length = N1 at *
    generalize m.fns.length = N2 at *
    generalize m.gls.length = N3 at *
    generalize m.exs.length = N4 at *
    generalize m.dat.length = N5 at *
    go_enter Tryz.func30, Tryz.ntmps30
    go_wp2_with (first | (go_at_call 67; refine (kF.out _).mono ?_; rintro e w1 ⟨rfl, q1⟩; obtain ⟨⟨_, _, _⟩, _, _, _, _, _, _, _, _⟩ := hbx.out _ q1; have x1 : Hid (Below w.heap.size w w1) := belB q1) | (go_at_call 68; refine (kH.out _ x1.out).mono ?_; rintro e w2 ⟨rfl, q2⟩; have x2 : Hid (Below w.heap.size w w2) := x1.out.trans (q2.mono x1.out.size); have y2 : Hid (Below (w.alloc (.cells #[.int .i64 o, .int .i64 i, .int .i64 b0] 62)).heap.size (w.alloc (.cells #[.int .i64 o, .int .i64 i, .int .i64 b0] 62)) w2) := q1.trans (q2.mono q1.size); obtain ⟨⟨_, _, _⟩, _, _, _, _, _, _, _, _⟩ := hbx.out _ y2.out))
    go_region_with (go_at_call 69; refine (kT.out _ x2.out.drew).mono ?_; rintro e w3 ⟨rfl, q3⟩; have x3 : Hid (Below w.heap.size w w3) := x2.out.drew.trans (q3.mono x2.out.size))
    all_goals
      go_wp2_with (go_at_call 70; refine (kK.out _ (hbl.out _ x3.out)).mono ?_; rintro e w4 ⟨rfl, b4, k4⟩; have z1 := b4.hgt; have z2 := b4.frozen 9; have b4' : Hid (SV B w4 q (sF p m (ctxOf m s x).loc) R1 (.slice (some ⟨g, 0, none⟩) (n + 1) cap) (!R2) st) := b4; clear b4)
      go_end0
      exact ⟨rfl, _, _, _, _, b4'.out.seth (R1 + X1), ((Kp.below _ x3.out).trans k4).trans (Kp.set _ _ _), e1.out⟩
theorem stepS (B q g n cap : Nat) (w : World) (p : P) (m : M) (s x : Int) (h : Int) (st : List Fr) (o i b0 : Int) (E : SEnv B q g n cap w p m s x h false st o i) (Bd : Bnd 10000 (h, st)) (hown : (st.getD 0 dF).res = (ctxOf m s x).own) :
    Calls Tryz.prog 30 #[.pointer (some ⟨q, 0, none⟩), .agg #[.int .i64 o, .int .i64 i, .int .i64 b0]] w fun e w' => e = .returned (.tuple #[]) ∧ SRes B w q (sF p m (ctxOf m s x).loc) (.slice (some ⟨g, 0, none⟩) (n + 1) cap) (PlainValid.step (ctxOf m s x) o i (h, st)) w' := by
  by_cases ho : o = 0 ∨ o = 2 ∨ o = 3 ∨ o = 4 ∨ o = 5 ∨ o = 11 ∨ o = 12 ∨ o = 13 ∨ o = 15
  · exact stepFlow B q g n cap w p m s x h st o i b0 E Bd hown ho
  · exact stepPlain B q g n cap w p m s x h st o i b0 E Bd (by omega)
/-- What the function itself has stays. -/
theorem set_res {st : List Fr} {n : Nat} {f : Fr} (hf : f.res = (st.getD n dF).res) : ((st.set n f).getD 0 dF).res = (st.getD 0 dF).res := by
  by_cases hn : n = 0
  · subst hn
    cases st with
    | nil => rfl
    | cons a l => exact hf
  · rw [List.getD_eq_getElem?_getD, List.getD_eq_getElem?_getD, List.getElem?_set_ne hn]
theorem step_own {c : Ctx} {o i : Int} {s s' : S2} (hn : s.2.length ≠ 0) (h11 : o = 11 → 2 ≤ s.2.length) (e : PlainValid.step c o i s = some s') : (s'.2.getD 0 dF).res = (s.2.getD 0 dF).res := by
  have hL : ∀ n s', PlainValid.leave n s = some s' → (s'.2.getD 0 dF).res = (s.2.getD 0 dF).res := fun n s' e => by
    unfold PlainValid.leave at e
    split at e
    · cases e; exact set_res rfl
    · cases e
  have hX : ∀ n p (s s' : S2), exch n p s = some s' → s'.2 = s.2 := fun n p s s' e => by
    unfold exch at e
    split at e
    · cases e; rfl
    · cases e
  unfold PlainValid.step at e
  split at e
  · cases e
  split at e
  · exact hL _ _ e
  split at e
  · rw [Option.map_eq_some_iff] at e
    obtain ⟨s1, e1, rfl⟩ := e
    have := hX _ _ _ _ e1
    unfold opens
    dsimp only
    rw [this, List.getD_eq_getElem?_getD, List.getElem?_append_left (by omega), ← List.getD_eq_getElem?_getD]
  split at e
  · unfold PlainValid.turn at e
    split at e
    · cases e; exact set_res rfl
    · cases e
  split at e
  · rename_i ho
    have := h11 ho
    unfold PlainValid.close at e
    split at e
    · cases e
      show ((s.2.take (s.2.length - 1)).getD 0 dF).res = _
      rw [List.getD_eq_getElem?_getD, List.getElem?_take, if_pos (by omega), ← List.getD_eq_getElem?_getD]
    · cases e
  split at e
  · exact hL _ _ e
  split at e
  · unfold brIf at e
    rw [Option.bind_eq_some_iff] at e
    obtain ⟨s1, e1, e2⟩ := e
    rw [hX _ _ _ _ e2, hX _ _ _ _ e1]
  split at e
  · exact hL _ _ e
  · rw [hX _ _ _ _ e]
end Go.Proofs.YtdaffcbamnpjfaaGreatDoor.SStep
