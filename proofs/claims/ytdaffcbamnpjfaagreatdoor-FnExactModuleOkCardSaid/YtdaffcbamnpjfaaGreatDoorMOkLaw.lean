/-
  The walk of the exact law of ModuleOk. (Written by my modlaw.py.)
-/
import Derived.Test.YtdaffcbamnpjfaaGreatDoorFormLaw
import Derived.Test.YtdaffcbamnpjfaaGreatDoorMOkSpec
namespace Go.Proofs.YtdaffcbamnpjfaaGreatDoor.MOkLaw
open Go.RowKit NameCalls InsMem PlainAll FormCalls ModMem FormImpl FormLaw ValidFace ValidMax ValidCtx ValidMod MOkImpl MOkNames MOkFace MOkSpec
theorem spec_moduleOk (w : World) (p : P) (m : M) (h : Rd w p m) (hs : Small m) :
    Calls Tryz.prog 12 #[val p m] w fun e w' => e = .returned (.bool (modOk m)) ∧ Below w.heap.size w w' := by
  cases hf : formOk m with
  | false =>
    have e : modOk m = false := by unfold modOk; rw [hf]; rfl
    rw [e]
    exact specNo w p m h hs (.inl hf)
  | true =>
    by_cases hd : 0 < m.dat.length ∧ m.pages < 0
    · have f := facts hf
      have hp := f.pg.1
      have e : modOk m = false := by
        unfold modOk
        have z1 : decide (m.dat.length = 0) = false := decide_eq_false (by omega)
        have z2 : decide (m.pages ≠ -1) = false := decide_eq_false (by omega)
        rw [z1, z2]
        simp
      rw [e]
      exact specNo w p m h hs (.inr ⟨hf, hd⟩)
    · have e : modOk m = (allP (bRight m) m.fns.length 0 && allP (fun k => xHas m k && dif m.exs k) m.exs.length 0) := by
        rw [allP_and (xHas m) (dif m.exs)]
        unfold modOk
        have z : (decide (m.dat.length = 0) || decide (m.pages ≠ -1)) = true := by
          by_cases z1 : m.dat.length = 0
          · rw [decide_eq_true z1, Bool.true_or]
          · have z2 : m.pages ≠ -1 := by omega
            rw [decide_eq_true z2, Bool.or_true]
        rw [z, hf, Bool.true_and, Bool.and_true, Bool.and_comm (allP (dif m.exs) _ _)]
      rw [e]
      exact specYes w p m h hs hf hd
/-- A module is copied, and its exports have no more elements than room. -/
theorem copyC (w u : World) (p : P) (m : M) (V : Value) (hV : V = val p m) (h : Rd w p m) (hs : Small m) (hb : Below w.heap.size w u) :
    Calls Tryz.prog 9 #[V] u fun e w' => ∃ xa0 xn0 xc0 xa1 xn1 xc1 xa2 xn2 xc2 xi3 xi4 xa5 xn5 xc5 xa6 xn6 xc6 xa7 xn7 xc7 p' m', e = .returned (.agg #[.slice xa0 xn0 xc0, .slice xa1 xn1 xc1, .slice xa2 xn2 xc2, .int .i64 xi3, .int .i64 xi4, .slice xa5 xn5 xc5, .slice xa6 xn6 xc6, .slice xa7 xn7 xc7]) ∧ Value.agg #[.slice xa0 xn0 xc0, .slice xa1 xn1 xc1, .slice xa2 xn2 xc2, .int .i64 xi3, .int .i64 xi4, .slice xa5 xn5 xc5, .slice xa6 xn6 xc6, .slice xa7 xn7 xc7] = val p' m' ∧ Rd w' p' m' ∧ Same m m' ∧ Below u.heap.size u w' ∧ Hid (m'.exs.length ≤ p'.c4) := by
  subst hV
  exact (toM u p m (h.later hb) hs).mono fun _ _ ⟨_, _, _, _, _, _, G, D, he, hm, hb'⟩ => ⟨_, _, _, _, _, _, _, _, _, _, _, _, _, _, _, _, _, _, _, _, _, _, he, rfl, hm.rd, newM_same G D m, hb', Nat.le_refl _⟩
set_option maxRecDepth 20000 in
set_option maxHeartbeats 4000000 in
theorem fnExactModuleOk (p : P) (m : M) (w : World) (h : Rd w p m) (hw : Wide m) (ht : Tab w) (hU : Utf w) :
    Calls Tryz.prog 4 #[val p m] w fun e w' => e = .returned (.bool true) ∧ Below w.heap.size w w' := by
  have ks : Hid (∀ u, Below w.heap.size w u → Calls Tryz.prog 7 #[val p m, .int .i64 1048576] u fun e w' => ∃ r : Int, e = .returned (.int .i64 r) ∧ r ≤ 1048576 ∧ -1 ≤ r ∧ (0 ≤ r → Small m) ∧ Below u.heap.size u w') := fun u hu => szM u p m 1048576 (h.later hu) hw (by omega) (by omega)
  have kc : Hid (∀ u, Small m → Below w.heap.size w u → Calls Tryz.prog 9 #[val p m] u fun e w' => ∃ xa0 xn0 xc0 xa1 xn1 xc1 xa2 xn2 xc2 xi3 xi4 xa5 xn5 xc5 xa6 xn6 xc6 xa7 xn7 xc7 p' m', e = .returned (.agg #[.slice xa0 xn0 xc0, .slice xa1 xn1 xc1, .slice xa2 xn2 xc2, .int .i64 xi3, .int .i64 xi4, .slice xa5 xn5 xc5, .slice xa6 xn6 xc6, .slice xa7 xn7 xc7]) ∧ Value.agg #[.slice xa0 xn0 xc0, .slice xa1 xn1 xc1, .slice xa2 xn2 xc2, .int .i64 xi3, .int .i64 xi4, .slice xa5 xn5 xc5, .slice xa6 xn6 xc6, .slice xa7 xn7 xc7] = val p' m' ∧ Rd w' p' m' ∧ Same m m' ∧ Below u.heap.size u w' ∧ Hid (m'.exs.length ≤ p'.c4)) := fun u hs hb => copyC w u p m _ rfl h hs hb
  have kS : Hid (∀ u V p' m', V = val p' m' → Small m → Same m m' → Rd u p' m' → Calls Tryz.prog 12 #[V] u fun e w' => e = .returned (.bool (modOk m)) ∧ Below u.heap.size u w') := fun u V p' m' hv hs s hr => by
    rw [← modOk_same s, hv]
    exact spec_moduleOk u p' m' hr (hs.same s)
  have kI : Hid (∀ u V p' m', V = val p' m' → Small m → Same m m' → Rd u p' m' → m'.exs.length ≤ p'.c4 → Below w.heap.size w u → Calls Tryz.prog 13 #[V] u fun e w' => e = .returned (.bool (modOk m)) ∧ Below u.heap.size u w') := fun u V p' m' hv hs s hr hc hb => by
    rw [← modOk_same s, hv]
    exact impl_moduleOk u p' m' ⟨hr, hs.same s, ht.later hb, UtfLaw.tabs_later hU hb⟩ hc
  have kE : Hid (∀ u V V' p p' m m', V = val p m → V' = val p' m' → Rd u p m → Rd u p' m' → Same m m' → Small m → Calls Tryz.prog 11 #[V, V'] u fun e w' => e = .returned (.bool true) ∧ Below u.heap.size u w') := fun u V V' p p' m m' hv hv' h h' s hs => by
    rw [hv, hv']
    exact eqM u p p' m m' h h' s hs
  clear h hw ht hU
  generalize modOk m = R at *
  obtain ⟨y0a0, y0n0, y0c0, y0a1, y0n1, y0c1, y0a2, y0n2, y0c2, y0i3, y0i4, y0a5, y0n5, y0c5, y0a6, y0n6, y0c6, y0a7, y0n7, y0c7, hv⟩ := val_agg p m
  rw [hv] at ks kc ⊢
  clear hv
  have T0 : Hid (TS w (w.alloc (.cells #[.slice y0a0 y0n0 y0c0, .slice y0a1 y0n1 y0c1, .slice y0a2 y0n2 y0c2, .int .i64 y0i3, .int .i64 y0i4, .slice y0a5 y0n5 y0c5, .slice y0a6 y0n6 y0c6, .slice y0a7 y0n7 y0c7] 29)) (.slice y0a0 y0n0 y0c0) (.slice y0a1 y0n1 y0c1) (.slice y0a2 y0n2 y0c2) (.int .i64 y0i3) (.int .i64 y0i4) (.slice y0a5 y0n5 y0c5) (.slice y0a6 y0n6 y0c6) (.slice y0a7 y0n7 y0c7)) := ⟨r8_made w (.slice y0a0 y0n0 y0c0) (.slice y0a1 y0n1 y0c1) (.slice y0a2 y0n2 y0c2) (.int .i64 y0i3) (.int .i64 y0i4) (.slice y0a5 y0n5 y0c5) (.slice y0a6 y0n6 y0c6) (.slice y0a7 y0n7 y0c7) 29, (Below.refl _ _).alloc (Nat.le_refl _) _⟩
  go_enter Tryz.func4, Tryz.ntmps4
  go_wp2_with (go_at_call 7; refine (ks.out _ T0.out.bl).mono ?_; rintro e w1 ⟨r, rfl, r1, r2, r3, q1⟩; have r3' : Hid (0 ≤ r → Small m) := r3; clear r3; have T1 : Hid (TS w w1 (.slice y0a0 y0n0 y0c0) (.slice y0a1 y0n1 y0c1) (.slice y0a2 y0n2 y0c2) (.int .i64 y0i3) (.int .i64 y0i4) (.slice y0a5 y0n5 y0c5) (.slice y0a6 y0n6 y0c6) (.slice y0a7 y0n7 y0c7)) := T0.out.call q1; obtain ⟨_, _, _, _, _, _, _, _⟩ := r8 T1.out.ra)
  · go_ret
    exact ⟨rfl, T1.out.bl⟩
  · have hs : Hid (Small m) := r3'.out (by omega)
    go_wp2_with (go_at_call 9; refine (kc.out _ hs.out T1.out.bl).mono ?_; rintro e w2 ⟨y2a0, y2n0, y2c0, y2a1, y2n1, y2c1, y2a2, y2n2, y2c2, y2i3, y2i4, y2a5, y2n5, y2c5, y2a6, y2n6, y2c6, y2a7, y2n7, y2c7, p2, m2, rfl, v2', h2', s2', q2, _⟩; have v2 : Hid (Value.agg #[.slice y2a0 y2n0 y2c0, .slice y2a1 y2n1 y2c1, .slice y2a2 y2n2 y2c2, .int .i64 y2i3, .int .i64 y2i4, .slice y2a5 y2n5 y2c5, .slice y2a6 y2n6 y2c6, .slice y2a7 y2n7 y2c7] = val p2 m2) := v2'; have h2 : Hid (Rd w2 p2 m2) := h2'; have s2 : Hid (Same m m2) := s2'; clear v2' h2' s2'; have T2 : Hid (TS w w2 (.slice y0a0 y0n0 y0c0) (.slice y0a1 y0n1 y0c1) (.slice y0a2 y0n2 y0c2) (.int .i64 y0i3) (.int .i64 y0i4) (.slice y0a5 y0n5 y0c5) (.slice y0a6 y0n6 y0c6) (.slice y0a7 y0n7 y0c7)) := T1.out.call q2)
    go_wp2_with (go_at_call 12; refine (kS.out _ _ p2 m2 v2.out hs.out s2.out h2.out).mono ?_; rintro e w3 ⟨rfl, q3⟩; have T3 : Hid (TS w w3 (.slice y0a0 y0n0 y0c0) (.slice y0a1 y0n1 y0c1) (.slice y0a2 y0n2 y0c2) (.int .i64 y0i3) (.int .i64 y0i4) (.slice y0a5 y0n5 y0c5) (.slice y0a6 y0n6 y0c6) (.slice y0a7 y0n7 y0c7)) := T2.out.call q3; obtain ⟨_, _, _, _, _, _, _, _⟩ := r8 T3.out.ra)
    go_wp2_with (go_at_call 9; refine (kc.out _ hs.out T3.out.bl).mono ?_; rintro e w4 ⟨y4a0, y4n0, y4c0, y4a1, y4n1, y4c1, y4a2, y4n2, y4c2, y4i3, y4i4, y4a5, y4n5, y4c5, y4a6, y4n6, y4c6, y4a7, y4n7, y4c7, p4, m4, rfl, v4', h4', s4', q4, z4⟩; have v4 : Hid (Value.agg #[.slice y4a0 y4n0 y4c0, .slice y4a1 y4n1 y4c1, .slice y4a2 y4n2 y4c2, .int .i64 y4i3, .int .i64 y4i4, .slice y4a5 y4n5 y4c5, .slice y4a6 y4n6 y4c6, .slice y4a7 y4n7 y4c7] = val p4 m4) := v4'; have h4 : Hid (Rd w4 p4 m4) := h4'; have s4 : Hid (Same m m4) := s4'; clear v4' h4' s4'; have T4 : Hid (TS w w4 (.slice y0a0 y0n0 y0c0) (.slice y0a1 y0n1 y0c1) (.slice y0a2 y0n2 y0c2) (.int .i64 y0i3) (.int .i64 y0i4) (.slice y0a5 y0n5 y0c5) (.slice y0a6 y0n6 y0c6) (.slice y0a7 y0n7 y0c7)) := T3.out.call q4; have X4 : Hid ((w4.alloc (.cells #[.slice y4a0 y4n0 y4c0, .slice y4a1 y4n1 y4c1, .slice y4a2 y4n2 y4c2, .int .i64 y4i3, .int .i64 y4i4, .slice y4a5 y4n5 y4c5, .slice y4a6 y4n6 y4c6, .slice y4a7 y4n7 y4c7] 39)).rowIs w4.heap.size 39 8 (R8 (.slice y4a0 y4n0 y4c0) (.slice y4a1 y4n1 y4c1) (.slice y4a2 y4n2 y4c2) (.int .i64 y4i3) (.int .i64 y4i4) (.slice y4a5 y4n5 y4c5) (.slice y4a6 y4n6 y4c6) (.slice y4a7 y4n7 y4c7))) := r8_made w4 (.slice y4a0 y4n0 y4c0) (.slice y4a1 y4n1 y4c1) (.slice y4a2 y4n2 y4c2) (.int .i64 y4i3) (.int .i64 y4i4) (.slice y4a5 y4n5 y4c5) (.slice y4a6 y4n6 y4c6) (.slice y4a7 y4n7 y4c7) 39; have A4 : Hid (Below w4.heap.size w4 (w4.alloc (.cells #[.slice y4a0 y4n0 y4c0, .slice y4a1 y4n1 y4c1, .slice y4a2 y4n2 y4c2, .int .i64 y4i3, .int .i64 y4i4, .slice y4a5 y4n5 y4c5, .slice y4a6 y4n6 y4c6, .slice y4a7 y4n7 y4c7] 39))) := (Below.refl _ _).alloc (Nat.le_refl _) _)
    go_wp2_with (go_at_call 13; refine (kI.out _ _ p4 m4 v4.out hs.out s4.out (h4.out.later A4.out) z4.out (T4.out.call A4.out).bl).mono ?_; rintro e w5 ⟨rfl, q5⟩; have T5 : Hid (TS w w5 (.slice y0a0 y0n0 y0c0) (.slice y0a1 y0n1 y0c1) (.slice y0a2 y0n2 y0c2) (.int .i64 y0i3) (.int .i64 y0i4) (.slice y0a5 y0n5 y0c5) (.slice y0a6 y0n6 y0c6) (.slice y0a7 y0n7 y0c7)) := (T4.out.call A4.out).call q5; have X5 : Hid (w5.rowIs w4.heap.size 39 8 (R8 (.slice y4a0 y4n0 y4c0) (.slice y4a1 y4n1 y4c1) (.slice y4a2 y4n2 y4c2) (.int .i64 y4i3) (.int .i64 y4i4) (.slice y4a5 y4n5 y4c5) (.slice y4a6 y4n6 y4c6) (.slice y4a7 y4n7 y4c7))) := row_later X4.out q5; have h5 : Hid (Rd w5 p4 m4) := (h4.out.later A4.out).later q5; obtain ⟨_, _, _, _, _, _, _, _⟩ := r8 T5.out.ra; obtain ⟨_, _, _, _, _, _, _, _⟩ := r8 X5.out)
    have D5 : Hid (Below w5.heap.size w5 w5.drew) := (Below.refl _ _).drew
    have T5d : Hid (TS w w5.drew (.slice y0a0 y0n0 y0c0) (.slice y0a1 y0n1 y0c1) (.slice y0a2 y0n2 y0c2) (.int .i64 y0i3) (.int .i64 y0i4) (.slice y0a5 y0n5 y0c5) (.slice y0a6 y0n6 y0c6) (.slice y0a7 y0n7 y0c7)) := T5.out.call D5.out
    have X5d : Hid (w5.drew.rowIs w4.heap.size 39 8 (R8 (.slice y4a0 y4n0 y4c0) (.slice y4a1 y4n1 y4c1) (.slice y4a2 y4n2 y4c2) (.int .i64 y4i3) (.int .i64 y4i4) (.slice y4a5 y4n5 y4c5) (.slice y4a6 y4n6 y4c6) (.slice y4a7 y4n7 y4c7))) := row_later X5.out D5.out
    have h5d : Hid (Rd w5.drew p4 m4) := h5.out.later D5.out
    go_region_held (fun w' => w'.cell? ⟨w.heap.size, 0, none⟩ = some (.slice y0a0 y0n0 y0c0) ∧ w'.cell? ⟨w.heap.size, 1, none⟩ = some (.slice y0a1 y0n1 y0c1) ∧ w'.cell? ⟨w.heap.size, 2, none⟩ = some (.slice y0a2 y0n2 y0c2) ∧ w'.cell? ⟨w.heap.size, 3, none⟩ = some (.int .i64 y0i3) ∧ w'.cell? ⟨w.heap.size, 4, none⟩ = some (.int .i64 y0i4) ∧ w'.cell? ⟨w.heap.size, 5, none⟩ = some (.slice y0a5 y0n5 y0c5) ∧ w'.cell? ⟨w.heap.size, 6, none⟩ = some (.slice y0a6 y0n6 y0c6) ∧ w'.cell? ⟨w.heap.size, 7, none⟩ = some (.slice y0a7 y0n7 y0c7) ∧ w'.cell? ⟨w4.heap.size, 0, none⟩ = some (.slice y4a0 y4n0 y4c0) ∧ w'.cell? ⟨w4.heap.size, 1, none⟩ = some (.slice y4a1 y4n1 y4c1) ∧ w'.cell? ⟨w4.heap.size, 2, none⟩ = some (.slice y4a2 y4n2 y4c2) ∧ w'.cell? ⟨w4.heap.size, 3, none⟩ = some (.int .i64 y4i3) ∧ w'.cell? ⟨w4.heap.size, 4, none⟩ = some (.int .i64 y4i4) ∧ w'.cell? ⟨w4.heap.size, 5, none⟩ = some (.slice y4a5 y4n5 y4c5) ∧ w'.cell? ⟨w4.heap.size, 6, none⟩ = some (.slice y4a6 y4n6 y4c6) ∧ w'.cell? ⟨w4.heap.size, 7, none⟩ = some (.slice y4a7 y4n7 y4c7)) (go_keep)
      (first | (go_at_call 9; refine (kc.out _ hs.out T5d.out.bl).mono ?_; rintro e w6 ⟨y6a0, y6n0, y6c0, y6a1, y6n1, y6c1, y6a2, y6n2, y6c2, y6i3, y6i4, y6a5, y6n5, y6c5, y6a6, y6n6, y6c6, y6a7, y6n7, y6c7, p6, m6, rfl, v6', h6', s6', q6, _⟩; have v6 : Hid (Value.agg #[.slice y6a0 y6n0 y6c0, .slice y6a1 y6n1 y6c1, .slice y6a2 y6n2 y6c2, .int .i64 y6i3, .int .i64 y6i4, .slice y6a5 y6n5 y6c5, .slice y6a6 y6n6 y6c6, .slice y6a7 y6n7 y6c7] = val p6 m6) := v6'; have h6 : Hid (Rd w6 p6 m6) := h6'; have s6 : Hid (Same m m6) := s6'; clear v6' h6' s6'; have T6 : Hid (TS w w6 (.slice y0a0 y0n0 y0c0) (.slice y0a1 y0n1 y0c1) (.slice y0a2 y0n2 y0c2) (.int .i64 y0i3) (.int .i64 y0i4) (.slice y0a5 y0n5 y0c5) (.slice y0a6 y0n6 y0c6) (.slice y0a7 y0n7 y0c7)) := T5d.out.call q6; have X6 : Hid (w6.rowIs w4.heap.size 39 8 (R8 (.slice y4a0 y4n0 y4c0) (.slice y4a1 y4n1 y4c1) (.slice y4a2 y4n2 y4c2) (.int .i64 y4i3) (.int .i64 y4i4) (.slice y4a5 y4n5 y4c5) (.slice y4a6 y4n6 y4c6) (.slice y4a7 y4n7 y4c7))) := row_later X5d.out q6; obtain ⟨_, _, _, _, _, _, _, _⟩ := r8 X6.out; obtain ⟨_, _, _, _, _, _, _, _⟩ := r8 T6.out.ra) | (go_at_call 11; refine (kE.out _ _ _ p4 p6 m4 m6 v4.out v6.out (h5d.out.later q6) h6.out (s4.out.symm.trans s6.out) (hs.out.same s4.out)).mono ?_; rintro e w7 ⟨rfl, q7⟩; have X7 : Hid (w7.rowIs w4.heap.size 39 8 (R8 (.slice y4a0 y4n0 y4c0) (.slice y4a1 y4n1 y4c1) (.slice y4a2 y4n2 y4c2) (.int .i64 y4i3) (.int .i64 y4i4) (.slice y4a5 y4n5 y4c5) (.slice y4a6 y4n6 y4c6) (.slice y4a7 y4n7 y4c7))) := row_later X6.out q7; obtain ⟨_, _, _, _, _, _, _, _⟩ := r8 X7.out; have T7 : Hid (TS w w7 (.slice y0a0 y0n0 y0c0) (.slice y0a1 y0n1 y0c1) (.slice y0a2 y0n2 y0c2) (.int .i64 y0i3) (.int .i64 y0i4) (.slice y0a5 y0n5 y0c5) (.slice y0a6 y0n6 y0c6) (.slice y0a7 y0n7 y0c7)) := T6.out.call q7; obtain ⟨_, _, _, _, _, _, _, _⟩ := r8 T7.out.ra))
    go_wp2_with fail
    go_ret
    exact ⟨rfl, (T6.out.call q7).bl⟩
end Go.Proofs.YtdaffcbamnpjfaaGreatDoor.MOkLaw
