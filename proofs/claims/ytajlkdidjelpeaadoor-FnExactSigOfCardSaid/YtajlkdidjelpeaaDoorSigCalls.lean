/-
  SigOf, as the program and the specification answer it. (Written by my siglaw.py.)
-/
import Derived.Test.YtajlkdidjelpeaaDoorValidCtx
import Derived.Test.YtajlkdidjelpeaaDoorFormSpec
import Derived.BigRegion
namespace Go.Proofs.YtajlkdidjelpeaaDoor.SigCalls
open Go.RowKit PlainOps NameCalls PlainNum NumCalls InsCalls InsImpl PlainShape InsMem FormCalls ModMem FormImpl PlainValid ValidCtx

theorem belB {w u : World} {ob : Obj} (hu : Below (w.alloc ob).heap.size (w.alloc ob) u) : Below w.heap.size w u := ((Below.refl _ _).alloc (Nat.le_refl _) _).trans (hu.mono (by simp))
/-- There is such a function, in a module of right form. -/
def hasS (m : M) (i : Int) : Bool := formOk m && wi i 0 ((m.imps.length : Int) + (m.fns.length : Int) - 1)
def sgP (m : M) (i : Int) : Int := if hasS m i = true then MemSig.f0At m.sigs (sgI m i.toNat).toNat else 0
def sgR (m : M) (i : Int) : Int := if hasS m i = true then MemSig.f1At m.sigs (sgI m i.toNat).toNat else 0
theorem hasS_same {m m' : M} (s : Same m m') (i : Int) : hasS m' i = hasS m i := by unfold hasS; rw [formOk_same s, s.n2, s.s1]
theorem hasS_lt {m : M} {i : Int} (h : hasS m i = true) : formOk m = true ∧ 0 ≤ i ∧ i < m.imps.length + m.fns.length := by
  unfold hasS at h
  simp only [Bool.and_eq_true] at h
  have := wi_is h.2
  exact ⟨h.1, this.1, by omega⟩
theorem sgI_same {m m' : M} (s : Same m m') {k : Nat} (hk : k < m.imps.length + m.fns.length) : sgI m' k = sgI m k := by
  unfold sgI
  rw [s.s1]
  split
  · rfl
  · exact (s.s2 (k - m.imps.length) (by omega)).1
theorem sgP_same {m m' : M} (s : Same m m') (i : Int) : sgP m' i = sgP m i := by
  unfold sgP
  rw [hasS_same s]
  split
  · rename_i h
    obtain ⟨_, h0, h1⟩ := hasS_lt h
    rw [sgI_same s (by omega), s.s0]
  · rfl
theorem sgR_same {m m' : M} (s : Same m m') (i : Int) : sgR m' i = sgR m i := by
  unfold sgR
  rw [hasS_same s]
  split
  · rename_i h
    obtain ⟨_, h0, h1⟩ := hasS_lt h
    rw [sgI_same s (by omega), s.s0]
  · rfl
def R2 (v0 v1 : Value) (j : Nat) : Value := if j = 0 then v0 else v1
theorem r2_made (w : World) (v0 v1 : Value) (t : TypeId) : (w.alloc (.cells #[v0, v1] t)).rowIs w.heap.size t 2 (R2 v0 v1) :=
  World.rowIs_alloc w #[v0, v1] t _ (fun i hi => by
    match i, hi with
    | 0, _ => rfl
    | 1, _ => rfl)
theorem r2 {w : World} {b : Nat} {t : TypeId} {v0 v1 : Value} (h : w.rowIs b t 2 (R2 v0 v1)) : w.cell? ⟨b, 0, none⟩ = some v0 ∧ w.cell? ⟨b, 1, none⟩ = some v1 ∧ w.frozen? ⟨b, 0, none⟩ = false ∧ w.frozen? ⟨b, 1, none⟩ = false := ⟨h.cell (by omega), h.cell (by omega), h.frozen _, h.frozen _⟩
theorem functions (v0 : Value) (a1 : Option Addr) (n1 c1 : Nat) (a2 : Option Addr) (n2 c2 : Nat) (v3 v4 v5 v6 v7 : Value) (w : World) (hn : n1 + n2 ≤ 1048576) :
    Calls Tryd.prog 26 #[.agg #[v0, .slice a1 n1 c1, .slice a2 n2 c2, v3, v4, v5, v6, v7]] w fun e w' => e = .returned (.int .i64 ((n1 : Int) + (n2 : Int))) ∧ Below w.heap.size w w' := by
  go_enter Tryd.func26, Tryd.ntmps26
  go_wp2_with fail
  go_ret
  exact ⟨rfl, (Below.refl _ _).alloc (Nat.le_refl _) _⟩
set_option maxRecDepth 20000 in
set_option maxHeartbeats 4000000 in
theorem sigAt (p : P) (m : M) (w : World) (k : Nat) (h : Rd w p m) (f : Facts m) (hk : k < m.imps.length + m.fns.length) :
    Calls Tryd.prog 27 #[val p m, .int .i64 (k : Int)] w fun e w' => e = .returned (.agg #[.int .i64 (MemSig.f0At m.sigs (sgI m k).toNat), .int .i64 (MemSig.f1At m.sigs (sgI m k).toNat)]) ∧ Below w.heap.size w w' := by
  obtain ⟨s0, s1⟩ := sgI_lt f hk
  have hco := f.co
  obtain ⟨z, hz⟩ : ∃ z : Nat, sgI m k = z := ⟨(sgI m k).toNat, by omega⟩
  rw [hz] at s1
  obtain ⟨h0, h1, h2, _, _, _⟩ := h
  obtain ⟨a0, c0, a1, c1, a2, c2, a3, c3, a4, c4, a5, c5⟩ := p
  rcases h0 with h0 | ⟨b0, o0, ha0, hc0⟩
  · omega
  · obtain ⟨x0, x1⟩ := hc0 z (by omega)
    have hb0 : b0 < w.heap.size := World.block_lt_of_cell? w _ x0
    have hz' : (z : Int) < (m.sigs.length : Int) := s1
    rw [hz, Int.toNat_natCast]
    simp only [val] at ha0 ⊢
    subst ha0
    generalize MemSig.f0At m.sigs z = X0 at *
    generalize MemSig.f1At m.sigs z = X1 at *
    by_cases hlt : k < m.imps.length
    · have hlt' : (k : Int) < (m.imps.length : Int) := by omega
      rcases h1 with h1 | ⟨b1, o1, ha1, hc1⟩
      · omega
      · obtain ⟨_, _, y⟩ := hc1 k hlt
        have hb1 : b1 < w.heap.size := World.block_lt_of_cell? w _ y
        have e : MemImport.f2At m.imps k = (z : Int) := by rw [← hz]; unfold sgI; rw [if_pos hlt]
        rw [e] at y
        dsimp only at ha1
        subst ha1
        clear hc0 hc1 h2 f hz e s0 s1 hlt hk
        generalize m.sigs.length = N0 at *
        generalize m.imps.length = N1 at *
        generalize m.fns.length = N2 at *
        generalize m.gls.length = N3 at *
        generalize m.exs.length = N4 at *
        generalize m.dat.length = N5 at *
        go_enter Tryd.func27, Tryd.ntmps27
        go_wp2_with fail
        go_region
        go_wp2_with fail
        refine bodyPost_ret ?_ rfl ⟨rfl, ?_⟩
        · simp [results, go_sem]
        · exact (((Below.refl _ _).alloc (Nat.le_refl _) _).alloc (by simp) _).drew
    · have hlt' : ¬ (k : Int) < (m.imps.length : Int) := by omega
      have hd : decide ((k : Int) < (m.imps.length : Int)) = false := decide_eq_false hlt'
      obtain ⟨j, rfl⟩ : ∃ j, k = m.imps.length + j := ⟨k - m.imps.length, by omega⟩
      rcases h2 with h2 | ⟨b2, o2, ha2, hc2⟩
      · omega
      · obtain ⟨y, _, _, _⟩ := hc2 j (by omega)
        have hb2 : b2 < w.heap.size := World.block_lt_of_cell? w _ y
        have e : (MemFunc.at1 m.fns j).sig = (z : Int) := by
          rw [← hz]; unfold sgI; rw [if_neg hlt, show m.imps.length + j - m.imps.length = j by omega]
        rw [e] at y
        dsimp only at ha2
        subst ha2
        have hj : (j : Int) < (m.fns.length : Int) := by omega
        clear hc0 hc2 h1 f hz e s0 s1 hlt hk
        generalize m.sigs.length = N0 at *
        generalize m.imps.length = N1 at *
        generalize m.fns.length = N2 at *
        generalize m.gls.length = N3 at *
        generalize m.exs.length = N4 at *
        generalize m.dat.length = N5 at *
        go_enter Tryd.func27, Tryd.ntmps27
        go_wp2_with fail
        go_region
        go_wp2_with fail
        refine bodyPost_ret ?_ rfl ⟨rfl, ?_⟩
        · simp [results, go_sem]
        · exact (((Below.refl _ _).alloc (Nat.le_refl _) _).alloc (by simp) _).drew
set_option maxRecDepth 20000 in
set_option maxHeartbeats 8000000 in
theorem sigYes (p : P) (m : M) (w : World) (k : Nat) (h : Rd w p m) (f : Facts m) (hk : k < m.imps.length + m.fns.length) :
    Calls Tryd.prog 17 #[val p m, .int .i64 (k : Int)] w fun e w' => e = .returned (.tuple #[.agg #[.int .i64 (MemSig.f0At m.sigs (sgI m k).toNat), .int .i64 (MemSig.f1At m.sigs (sgI m k).toNat)], .bool true]) ∧ Below w.heap.size w w' := by
  obtain ⟨s0, s1⟩ := sgI_lt f hk
  have hco := f.co
  obtain ⟨z, hz⟩ : ∃ z : Nat, sgI m k = z := ⟨(sgI m k).toNat, by omega⟩
  rw [hz] at s1
  obtain ⟨h0, h1, h2, _, _, _⟩ := h
  obtain ⟨a0, c0, a1, c1, a2, c2, a3, c3, a4, c4, a5, c5⟩ := p
  have hd0 : decide ((k : Int) < 0) = false := decide_eq_false (by omega)
  have hd1 : ¬ (k : Int) < 0 := by omega
  have hd2 : decide ((m.imps.length : Int) + (m.fns.length : Int) ≤ (k : Int)) = false := decide_eq_false (by omega)
  have hd3 : ¬ (m.imps.length : Int) + (m.fns.length : Int) ≤ (k : Int) := by omega
  rcases h0 with h0 | ⟨b0, o0, ha0, hc0⟩
  · omega
  · obtain ⟨x0, x1⟩ := hc0 z (by omega)
    have hb0 : b0 < w.heap.size := World.block_lt_of_cell? w _ x0
    have hz' : (z : Int) < (m.sigs.length : Int) := s1
    rw [hz, Int.toNat_natCast]
    simp only [val] at ha0 ⊢
    subst ha0
    generalize MemSig.f0At m.sigs z = X0 at *
    generalize MemSig.f1At m.sigs z = X1 at *
    by_cases hlt : k < m.imps.length
    · have hlt' : (k : Int) < (m.imps.length : Int) := by omega
      rcases h1 with h1 | ⟨b1, o1, ha1, hc1⟩
      · omega
      · obtain ⟨_, _, y⟩ := hc1 k hlt
        have hb1 : b1 < w.heap.size := World.block_lt_of_cell? w _ y
        have e : MemImport.f2At m.imps k = (z : Int) := by rw [← hz]; unfold sgI; rw [if_pos hlt]
        rw [e] at y
        dsimp only at ha1
        subst ha1
        clear hc0 hc1 h2 f hz e s0 s1 hlt
        generalize m.sigs.length = N0 at *
        generalize m.imps.length = N1 at *
        generalize m.fns.length = N2 at *
        generalize m.gls.length = N3 at *
        generalize m.exs.length = N4 at *
        generalize m.dat.length = N5 at *
        go_enter Tryd.func17, Tryd.ntmps17
        go_wp2_with fail
        go_region
        go_wp2_with fail
        refine bodyPost_ret ?_ rfl ⟨rfl, ?_⟩
        · simp [results, go_sem]
        · exact (((Below.refl _ _).alloc (Nat.le_refl _) _).alloc (by simp) _).drew
    · have hlt' : ¬ (k : Int) < (m.imps.length : Int) := by omega
      have hdl : decide ((k : Int) < (m.imps.length : Int)) = false := decide_eq_false hlt'
      obtain ⟨j, rfl⟩ : ∃ j, k = m.imps.length + j := ⟨k - m.imps.length, by omega⟩
      rcases h2 with h2 | ⟨b2, o2, ha2, hc2⟩
      · omega
      · obtain ⟨y, _, _, _⟩ := hc2 j (by omega)
        have hb2 : b2 < w.heap.size := World.block_lt_of_cell? w _ y
        have e : (MemFunc.at1 m.fns j).sig = (z : Int) := by
          rw [← hz]; unfold sgI; rw [if_neg hlt, show m.imps.length + j - m.imps.length = j by omega]
        rw [e] at y
        dsimp only at ha2
        subst ha2
        have hj : (j : Int) < (m.fns.length : Int) := by omega
        clear hc0 hc2 h1 f hz e s0 s1 hlt
        generalize m.sigs.length = N0 at *
        generalize m.imps.length = N1 at *
        generalize m.fns.length = N2 at *
        generalize m.gls.length = N3 at *
        generalize m.exs.length = N4 at *
        generalize m.dat.length = N5 at *
        go_enter Tryd.func17, Tryd.ntmps17
        go_wp2_with fail
        go_region
        go_wp2_with fail
        refine bodyPost_ret ?_ rfl ⟨rfl, ?_⟩
        · simp [results, go_sem]
        · exact (((Below.refl _ _).alloc (Nat.le_refl _) _).alloc (by simp) _).drew
set_option maxRecDepth 20000 in
set_option maxHeartbeats 8000000 in
theorem sigNo (p : P) (m : M) (w : World) (i : Int) (hco : m.imps.length + m.fns.length ≤ 60) (hi : i < 0 ∨ (m.imps.length : Int) + (m.fns.length : Int) ≤ i) :
    Calls Tryd.prog 17 #[val p m, .int .i64 i] w fun e w' => e = .returned (.tuple #[.agg #[.int .i64 0, .int .i64 0], .bool false]) ∧ Below w.heap.size w w' := by
  simp only [val]
  by_cases h0 : i < 0
  · clear hi
    generalize m.sigs.length = N0 at *
    generalize m.imps.length = N1 at *
    generalize m.fns.length = N2 at *
    generalize m.gls.length = N3 at *
    generalize m.exs.length = N4 at *
    generalize m.dat.length = N5 at *
    go_enter Tryd.func17, Tryd.ntmps17
    go_wp2_with fail
    refine bodyPost_ret ?_ rfl ⟨rfl, ?_⟩
    · simp [results, go_sem]
    · first
        | exact ((((Below.refl _ _).alloc (Nat.le_refl _) _).alloc (by simp) _).setCell (p := ⟨w.heap.size + 1, 0, none⟩) (by simp) _).setCell (p := ⟨w.heap.size + 1, 1, none⟩) (by simp) _
        | exact (((Below.refl _ _).alloc (Nat.le_refl _) _).alloc (by simp) _)
  · have h1 : (m.imps.length : Int) + (m.fns.length : Int) ≤ i := by omega
    have hd0 : decide (i < 0) = false := decide_eq_false h0
    clear hi
    generalize m.sigs.length = N0 at *
    generalize m.imps.length = N1 at *
    generalize m.fns.length = N2 at *
    generalize m.gls.length = N3 at *
    generalize m.exs.length = N4 at *
    generalize m.dat.length = N5 at *
    go_enter Tryd.func17, Tryd.ntmps17
    go_wp2_with fail
    refine bodyPost_ret ?_ rfl ⟨rfl, ?_⟩
    · simp [results, go_sem]
    · first
        | exact ((((Below.refl _ _).alloc (Nat.le_refl _) _).alloc (by simp) _).setCell (p := ⟨w.heap.size + 1, 0, none⟩) (by simp) _).setCell (p := ⟨w.heap.size + 1, 1, none⟩) (by simp) _
        | exact (((Below.refl _ _).alloc (Nat.le_refl _) _).alloc (by simp) _)
set_option maxRecDepth 20000 in
set_option maxHeartbeats 8000000 in
theorem impl_sigOf (w : World) (p : P) (m : M) (i : Int) (h : Rd w p m) (hs : Small m) (ht : Tab w) (hU : Utf w) :
    Calls Tryd.prog 7 #[.agg #[.slice p.a0 m.sigs.length p.c0, .slice p.a1 m.imps.length p.c1, .slice p.a2 m.fns.length p.c2, .int .i64 m.pages, .int .i64 m.most, .slice p.a3 m.gls.length p.c3, .slice p.a4 m.exs.length p.c4, .slice p.a5 m.dat.length p.c5], .int .i64 i] w fun e w' => e = .returned (.tuple #[.agg #[.int .i64 (sgP m i), .int .i64 (sgR m i)], .bool (hasS m i)]) ∧ Below w.heap.size w w' := by
  have kF : Hid (∀ u : World, Below w.heap.size w u → Calls Tryd.prog 24 #[.agg #[.slice p.a0 m.sigs.length p.c0, .slice p.a1 m.imps.length p.c1, .slice p.a2 m.fns.length p.c2, .int .i64 m.pages, .int .i64 m.most, .slice p.a3 m.gls.length p.c3, .slice p.a4 m.exs.length p.c4, .slice p.a5 m.dat.length p.c5]] u fun e w' => e = .returned (.bool (formOk m)) ∧ Below u.heap.size u w') := fun u hu => impl_formOk u p m (h.later hu) hs (ht.later hu) (UtfLaw.tabs_later hU hu)
  have kW : Hid (∀ u : World, Calls Tryd.prog 25 #[.int .i64 i, .int .i64 0, .int .i64 ((m.imps.length : Int) + (m.fns.length : Int) - 1)] u fun e w' => e = .returned (.bool (wi i 0 ((m.imps.length : Int) + (m.fns.length : Int) - 1))) ∧ u = w') := fun u => impl_within _ _ _ u
  have s1 := hs.n1
  have s2 := hs.n2
  have kN : Hid (formOk m = true → ∀ u : World, Calls Tryd.prog 26 #[.agg #[.slice p.a0 m.sigs.length p.c0, .slice p.a1 m.imps.length p.c1, .slice p.a2 m.fns.length p.c2, .int .i64 m.pages, .int .i64 m.most, .slice p.a3 m.gls.length p.c3, .slice p.a4 m.exs.length p.c4, .slice p.a5 m.dat.length p.c5]] u fun e w' => e = .returned (.int .i64 ((m.imps.length : Int) + (m.fns.length : Int))) ∧ Below u.heap.size u w') := fun hf u => functions _ _ _ _ _ _ _ _ _ _ _ _ u (by have := (facts hf).co; omega)
  have hr : Hid (((w.alloc (.cells #[.slice p.a0 m.sigs.length p.c0, .slice p.a1 m.imps.length p.c1, .slice p.a2 m.fns.length p.c2, .int .i64 m.pages, .int .i64 m.most, .slice p.a3 m.gls.length p.c3, .slice p.a4 m.exs.length p.c4, .slice p.a5 m.dat.length p.c5] 42)).alloc (.cells #[.int .i64 0, .int .i64 0] 32)).rowIs w.heap.size 42 8 (R8 (.slice p.a0 m.sigs.length p.c0) (.slice p.a1 m.imps.length p.c1) (.slice p.a2 m.fns.length p.c2) (.int .i64 m.pages) (.int .i64 m.most) (.slice p.a3 m.gls.length p.c3) (.slice p.a4 m.exs.length p.c4) (.slice p.a5 m.dat.length p.c5))) := (r8_made w (.slice p.a0 m.sigs.length p.c0) (.slice p.a1 m.imps.length p.c1) (.slice p.a2 m.fns.length p.c2) (.int .i64 m.pages) (.int .i64 m.most) (.slice p.a3 m.gls.length p.c3) (.slice p.a4 m.exs.length p.c4) (.slice p.a5 m.dat.length p.c5) 42).alloc _
  have rr : Hid (((w.alloc (.cells #[.slice p.a0 m.sigs.length p.c0, .slice p.a1 m.imps.length p.c1, .slice p.a2 m.fns.length p.c2, .int .i64 m.pages, .int .i64 m.most, .slice p.a3 m.gls.length p.c3, .slice p.a4 m.exs.length p.c4, .slice p.a5 m.dat.length p.c5] 42)).alloc (.cells #[.int .i64 0, .int .i64 0] 32)).rowIs (w.heap.size + 1) 32 2 (R2 (.int .i64 0) (.int .i64 0))) := by
    have := r2_made (w.alloc (.cells #[.slice p.a0 m.sigs.length p.c0, .slice p.a1 m.imps.length p.c1, .slice p.a2 m.fns.length p.c2, .int .i64 m.pages, .int .i64 m.most, .slice p.a3 m.gls.length p.c3, .slice p.a4 m.exs.length p.c4, .slice p.a5 m.dat.length p.c5] 42)) (.int .i64 0) (.int .i64 0) 32
    simp only [World.size_alloc] at this
    exact this
  have bb : Hid (Below w.heap.size w ((w.alloc (.cells #[.slice p.a0 m.sigs.length p.c0, .slice p.a1 m.imps.length p.c1, .slice p.a2 m.fns.length p.c2, .int .i64 m.pages, .int .i64 m.most, .slice p.a3 m.gls.length p.c3, .slice p.a4 m.exs.length p.c4, .slice p.a5 m.dat.length p.c5] 42)).alloc (.cells #[.int .i64 0, .int .i64 0] 32))) := ((Below.refl _ _).alloc (Nat.le_refl _) _).alloc (by simp) _
  cases hA : formOk m with
  | false =>
    have e0 : Hid (hasS m i = false) := by show _ = _; unfold hasS; rw [hA]; rfl
    have e1 : Hid (sgP m i = 0) := by show _ = _; unfold sgP; rw [e0.out]; rfl
    have e2 : Hid (sgR m i = 0) := by show _ = _; unfold sgR; rw [e0.out]; rfl
    rw [e0.out, e1.out, e2.out]
    rw [hA] at kF
    clear h hs ht hU kN hA e0 e1 e2
    generalize m.sigs.length = N0 at *
    generalize m.imps.length = N1 at *
    generalize m.fns.length = N2 at *
    generalize m.gls.length = N3 at *
    generalize m.exs.length = N4 at *
    generalize m.dat.length = N5 at *
    go_enter Tryd.func7, Tryd.ntmps7
    go_wp2_with (go_at_call 24; refine (kF.out _ bb.out).mono ?_; rintro e w1 ⟨rfl, q1⟩; obtain ⟨_, _, _, _, _, _, _, _⟩ := r8 (row_later hr.out q1); obtain ⟨u0, u1, u2, u3⟩ := r2 (row_later rr.out q1))
    refine bodyPost_ret ?_ rfl ⟨rfl, ?_⟩
    · have r3 := ((row_later rr.out q1).set 0 (.int .i64 0)).set 1 (.int .i64 0)
      have k0 := r3.cell (i := 0) (by omega)
      have k1 := r3.cell (i := 1) (by omega)
      simp at k0 k1
      simp [results, go_sem, k0, k1]
    · exact ((bb.out.trans (q1.mono (by simp; omega))).setCell (p := ⟨w.heap.size + 1, 0, none⟩) (by simp) _).setCell (p := ⟨w.heap.size + 1, 1, none⟩) (by simp) _
  | true =>
    rw [hA] at kF
    cases hB : wi i 0 ((m.imps.length : Int) + (m.fns.length : Int) - 1) with
    | false =>
      have e0 : Hid (hasS m i = false) := by show _ = _; unfold hasS; rw [hA, hB]; rfl
      have e1 : Hid (sgP m i = 0) := by show _ = _; unfold sgP; rw [e0.out]; rfl
      have e2 : Hid (sgR m i = 0) := by show _ = _; unfold sgR; rw [e0.out]; rfl
      rw [e0.out, e1.out, e2.out]
      rw [hB] at kW
      have kN' : Hid (∀ u : World, Calls Tryd.prog 26 #[.agg #[.slice p.a0 m.sigs.length p.c0, .slice p.a1 m.imps.length p.c1, .slice p.a2 m.fns.length p.c2, .int .i64 m.pages, .int .i64 m.most, .slice p.a3 m.gls.length p.c3, .slice p.a4 m.exs.length p.c4, .slice p.a5 m.dat.length p.c5]] u fun e w' => e = .returned (.int .i64 ((m.imps.length : Int) + (m.fns.length : Int))) ∧ Below u.heap.size u w') := kN.out hA
      clear h hs ht hU kN hA hB e0 e1 e2
      generalize m.sigs.length = N0 at *
      generalize m.imps.length = N1 at *
      generalize m.fns.length = N2 at *
      generalize m.gls.length = N3 at *
      generalize m.exs.length = N4 at *
      generalize m.dat.length = N5 at *
      go_enter Tryd.func7, Tryd.ntmps7
      go_wp2_with (first | (go_at_call 24; refine (kF.out _ bb.out).mono ?_; rintro e w1 ⟨rfl, q1⟩; obtain ⟨_, _, _, _, _, _, _, _⟩ := r8 (row_later hr.out q1); obtain ⟨u0, u1, u2, u3⟩ := r2 (row_later rr.out q1)) | (go_at_call 26; refine (kN'.out _).mono ?_; rintro e w2 ⟨rfl, q2⟩; have q12 := q1.trans (q2.mono q1.size); clear u0 u1 u2 u3; obtain ⟨_, _, _, _, _, _, _, _⟩ := r8 (row_later hr.out q12); obtain ⟨u0, u1, u2, u3⟩ := r2 (row_later rr.out q12)) | (go_at_call 25; refine (kW.out _).mono ?_; rintro e w3 ⟨rfl, rfl⟩))
      refine bodyPost_ret ?_ rfl ⟨rfl, ?_⟩
      · have r3 := ((row_later rr.out q12).set 0 (.int .i64 0)).set 1 (.int .i64 0)
        have k0 := r3.cell (i := 0) (by omega)
        have k1 := r3.cell (i := 1) (by omega)
        simp at k0 k1
        simp [results, go_sem, k0, k1]
      · exact ((bb.out.trans (q12.mono (by simp; omega))).setCell (p := ⟨w.heap.size + 1, 0, none⟩) (by simp) _).setCell (p := ⟨w.heap.size + 1, 1, none⟩) (by simp) _

    | true =>
      have e0 : Hid (hasS m i = true) := by show _ = _; unfold hasS; rw [hA, hB]; rfl
      obtain ⟨hf, i0, i1⟩ := hasS_lt e0.out
      obtain ⟨k, rfl⟩ : ∃ k : Nat, i = k := ⟨i.toNat, by omega⟩
      have e1 : Hid (sgP m (k : Int) = MemSig.f0At m.sigs (sgI m k).toNat) := by show _ = _; unfold sgP; rw [e0.out]; rfl
      have e2 : Hid (sgR m (k : Int) = MemSig.f1At m.sigs (sgI m k).toNat) := by show _ = _; unfold sgR; rw [e0.out]; rfl
      rw [e0.out, e1.out, e2.out]
      rw [hB] at kW
      have kN' : Hid (∀ u : World, Calls Tryd.prog 26 #[.agg #[.slice p.a0 m.sigs.length p.c0, .slice p.a1 m.imps.length p.c1, .slice p.a2 m.fns.length p.c2, .int .i64 m.pages, .int .i64 m.most, .slice p.a3 m.gls.length p.c3, .slice p.a4 m.exs.length p.c4, .slice p.a5 m.dat.length p.c5]] u fun e w' => e = .returned (.int .i64 ((m.imps.length : Int) + (m.fns.length : Int))) ∧ Below u.heap.size u w') := kN.out hA
      have kS : Hid (∀ u : World, Below w.heap.size w u → Calls Tryd.prog 27 #[.agg #[.slice p.a0 m.sigs.length p.c0, .slice p.a1 m.imps.length p.c1, .slice p.a2 m.fns.length p.c2, .int .i64 m.pages, .int .i64 m.most, .slice p.a3 m.gls.length p.c3, .slice p.a4 m.exs.length p.c4, .slice p.a5 m.dat.length p.c5], .int .i64 (k : Int)] u fun e w' => e = .returned (.agg #[.int .i64 (MemSig.f0At m.sigs (sgI m k).toNat), .int .i64 (MemSig.f1At m.sigs (sgI m k).toNat)]) ∧ Below u.heap.size u w') := fun u hu => sigAt p m u k (h.later hu) (facts hA) (by omega)
      generalize MemSig.f0At m.sigs (sgI m k).toNat = X0 at *
      generalize MemSig.f1At m.sigs (sgI m k).toNat = X1 at *
      clear h hs ht hU kN hA hB e0 e1 e2 hf i0 i1
      generalize m.sigs.length = N0 at *
      generalize m.imps.length = N1 at *
      generalize m.fns.length = N2 at *
      generalize m.gls.length = N3 at *
      generalize m.exs.length = N4 at *
      generalize m.dat.length = N5 at *
      go_enter Tryd.func7, Tryd.ntmps7
      go_wp2_with (first | (go_at_call 24; refine (kF.out _ bb.out).mono ?_; rintro e w1 ⟨rfl, q1⟩; obtain ⟨_, _, _, _, _, _, _, _⟩ := r8 (row_later hr.out q1); obtain ⟨u0, u1, u2, u3⟩ := r2 (row_later rr.out q1)) | (go_at_call 26; refine (kN'.out _).mono ?_; rintro e w2 ⟨rfl, q2⟩; have q12 := q1.trans (q2.mono q1.size); clear u0 u1 u2 u3; obtain ⟨_, _, _, _, _, _, _, _⟩ := r8 (row_later hr.out q12); obtain ⟨u0, u1, u2, u3⟩ := r2 (row_later rr.out q12)) | (go_at_call 25; refine (kW.out _).mono ?_; rintro e w3 ⟨rfl, rfl⟩) | (go_at_call 27; refine (kS.out _ (bb.out.trans (q12.mono (by simp; omega)))).mono ?_; rintro e w4 ⟨rfl, q4⟩; have q14 := q12.trans (q4.mono q12.size); clear u0 u1 u2 u3; obtain ⟨_, _, _, _, _, _, _, _⟩ := r8 (row_later hr.out q14); obtain ⟨u0, u1, u2, u3⟩ := r2 (row_later rr.out q14)))
      refine bodyPost_ret ?_ rfl ⟨rfl, ?_⟩
      · have r3 := ((row_later rr.out q14).set 0 (.int .i64 X0)).set 1 (.int .i64 X1)
        have k0 := r3.cell (i := 0) (by omega)
        have k1 := r3.cell (i := 1) (by omega)
        simp at k0 k1
        simp [results, go_sem, k0, k1]
      · exact ((bb.out.trans (q14.mono (by simp; omega))).setCell (p := ⟨w.heap.size + 1, 0, none⟩) (by simp) _).setCell (p := ⟨w.heap.size + 1, 1, none⟩) (by simp) _

set_option maxRecDepth 20000 in
set_option maxHeartbeats 8000000 in
theorem spec_sigOf (w : World) (p : P) (m : M) (i : Int) (h : Rd w p m) (hs : Small m) :
    Calls Tryd.prog 5 #[.agg #[.slice p.a0 m.sigs.length p.c0, .slice p.a1 m.imps.length p.c1, .slice p.a2 m.fns.length p.c2, .int .i64 m.pages, .int .i64 m.most, .slice p.a3 m.gls.length p.c3, .slice p.a4 m.exs.length p.c4, .slice p.a5 m.dat.length p.c5], .int .i64 i] w fun e w' => e = .returned (.tuple #[.agg #[.int .i64 (sgP m i), .int .i64 (sgR m i)], .bool (hasS m i)]) ∧ Below w.heap.size w w' := by
  have kF : Hid (∀ u : World, Below w.heap.size w u → Calls Tryd.prog 16 #[.agg #[.slice p.a0 m.sigs.length p.c0, .slice p.a1 m.imps.length p.c1, .slice p.a2 m.fns.length p.c2, .int .i64 m.pages, .int .i64 m.most, .slice p.a3 m.gls.length p.c3, .slice p.a4 m.exs.length p.c4, .slice p.a5 m.dat.length p.c5]] u fun e w' => e = .returned (.bool (formOk m)) ∧ Below u.heap.size u w') := fun u hu => FormSpec.spec_formOk u p m (h.later hu) hs
  have hr : Hid (((w.alloc (.cells #[.slice p.a0 m.sigs.length p.c0, .slice p.a1 m.imps.length p.c1, .slice p.a2 m.fns.length p.c2, .int .i64 m.pages, .int .i64 m.most, .slice p.a3 m.gls.length p.c3, .slice p.a4 m.exs.length p.c4, .slice p.a5 m.dat.length p.c5] 42)).alloc (.cells #[.int .i64 0, .int .i64 0] 32)).rowIs w.heap.size 42 8 (R8 (.slice p.a0 m.sigs.length p.c0) (.slice p.a1 m.imps.length p.c1) (.slice p.a2 m.fns.length p.c2) (.int .i64 m.pages) (.int .i64 m.most) (.slice p.a3 m.gls.length p.c3) (.slice p.a4 m.exs.length p.c4) (.slice p.a5 m.dat.length p.c5))) := (r8_made w (.slice p.a0 m.sigs.length p.c0) (.slice p.a1 m.imps.length p.c1) (.slice p.a2 m.fns.length p.c2) (.int .i64 m.pages) (.int .i64 m.most) (.slice p.a3 m.gls.length p.c3) (.slice p.a4 m.exs.length p.c4) (.slice p.a5 m.dat.length p.c5) 42).alloc _
  have rr : Hid (((w.alloc (.cells #[.slice p.a0 m.sigs.length p.c0, .slice p.a1 m.imps.length p.c1, .slice p.a2 m.fns.length p.c2, .int .i64 m.pages, .int .i64 m.most, .slice p.a3 m.gls.length p.c3, .slice p.a4 m.exs.length p.c4, .slice p.a5 m.dat.length p.c5] 42)).alloc (.cells #[.int .i64 0, .int .i64 0] 32)).rowIs (w.heap.size + 1) 32 2 (R2 (.int .i64 0) (.int .i64 0))) := by
    have := r2_made (w.alloc (.cells #[.slice p.a0 m.sigs.length p.c0, .slice p.a1 m.imps.length p.c1, .slice p.a2 m.fns.length p.c2, .int .i64 m.pages, .int .i64 m.most, .slice p.a3 m.gls.length p.c3, .slice p.a4 m.exs.length p.c4, .slice p.a5 m.dat.length p.c5] 42)) (.int .i64 0) (.int .i64 0) 32
    simp only [World.size_alloc] at this
    exact this
  have bb : Hid (Below w.heap.size w ((w.alloc (.cells #[.slice p.a0 m.sigs.length p.c0, .slice p.a1 m.imps.length p.c1, .slice p.a2 m.fns.length p.c2, .int .i64 m.pages, .int .i64 m.most, .slice p.a3 m.gls.length p.c3, .slice p.a4 m.exs.length p.c4, .slice p.a5 m.dat.length p.c5] 42)).alloc (.cells #[.int .i64 0, .int .i64 0] 32))) := ((Below.refl _ _).alloc (Nat.le_refl _) _).alloc (by simp) _
  cases hA : formOk m with
  | false =>
    have e0 : Hid (hasS m i = false) := by show _ = _; unfold hasS; rw [hA]; rfl
    have e1 : Hid (sgP m i = 0) := by show _ = _; unfold sgP; rw [e0.out]; rfl
    have e2 : Hid (sgR m i = 0) := by show _ = _; unfold sgR; rw [e0.out]; rfl
    rw [e0.out, e1.out, e2.out]
    rw [hA] at kF
    clear h hs hA e0 e1 e2
    generalize m.sigs.length = N0 at *
    generalize m.imps.length = N1 at *
    generalize m.fns.length = N2 at *
    generalize m.gls.length = N3 at *
    generalize m.exs.length = N4 at *
    generalize m.dat.length = N5 at *
    go_enter Tryd.func5, Tryd.ntmps5
    go_wp2_with (go_at_call 16; refine (kF.out _ bb.out).mono ?_; rintro e w1 ⟨rfl, q1⟩; obtain ⟨_, _, _, _, _, _, _, _⟩ := r8 (row_later hr.out q1); obtain ⟨u0, u1, u2, u3⟩ := r2 (row_later rr.out q1))
    refine bodyPost_ret ?_ rfl ⟨rfl, ?_⟩
    · have r3 := ((row_later rr.out q1).set 0 (.int .i64 0)).set 1 (.int .i64 0)
      have k0 := r3.cell (i := 0) (by omega)
      have k1 := r3.cell (i := 1) (by omega)
      simp at k0 k1
      simp [results, go_sem, k0, k1]
    · exact ((bb.out.trans (q1.mono (by simp; omega))).setCell (p := ⟨w.heap.size + 1, 0, none⟩) (by simp) _).setCell (p := ⟨w.heap.size + 1, 1, none⟩) (by simp) _
  | true =>
    rw [hA] at kF
    have kS : Hid (∀ u : World, Below w.heap.size w u → Calls Tryd.prog 17 #[.agg #[.slice p.a0 m.sigs.length p.c0, .slice p.a1 m.imps.length p.c1, .slice p.a2 m.fns.length p.c2, .int .i64 m.pages, .int .i64 m.most, .slice p.a3 m.gls.length p.c3, .slice p.a4 m.exs.length p.c4, .slice p.a5 m.dat.length p.c5], .int .i64 i] u fun e w' => e = .returned (.tuple #[.agg #[.int .i64 (sgP m i), .int .i64 (sgR m i)], .bool (hasS m i)]) ∧ Below u.heap.size u w') := fun u hu => by
      cases hB : hasS m i with
      | true =>
        obtain ⟨hf, i0, i1⟩ := hasS_lt hB
        obtain ⟨k, rfl⟩ : ∃ k : Nat, i = k := ⟨i.toNat, by omega⟩
        unfold sgP sgR
        rw [hB]
        exact sigYes p m u k (h.later hu) (facts hA) (by omega)
      | false =>
        unfold sgP sgR
        rw [hB]
        refine sigNo p m u i (by have := (facts hA).co; omega) ?_
        unfold hasS at hB
        rw [hA, Bool.true_and] at hB
        have := of_decide_eq_false (show decide (0 ≤ i ∧ i ≤ (m.imps.length : Int) + (m.fns.length : Int) - 1) = false from hB)
        omega
    generalize sgP m i = X0 at *
    generalize sgR m i = X1 at *
    generalize hasS m i = BB at *
    clear h hs hA
    generalize m.sigs.length = N0 at *
    generalize m.imps.length = N1 at *
    generalize m.fns.length = N2 at *
    generalize m.gls.length = N3 at *
    generalize m.exs.length = N4 at *
    generalize m.dat.length = N5 at *
    go_enter Tryd.func5, Tryd.ntmps5
    go_wp2_with (first | (go_at_call 16; refine (kF.out _ bb.out).mono ?_; rintro e w1 ⟨rfl, q1⟩; obtain ⟨_, _, _, _, _, _, _, _⟩ := r8 (row_later hr.out q1); obtain ⟨u0, u1, u2, u3⟩ := r2 (row_later rr.out q1)) | (go_at_call 17; refine (kS.out _ (bb.out.trans (q1.mono (by simp; omega)))).mono ?_; rintro e w2 ⟨rfl, q2⟩; have q12 := q1.trans (q2.mono q1.size); clear u0 u1 u2 u3; obtain ⟨_, _, _, _, _, _, _, _⟩ := r8 (row_later hr.out q12); obtain ⟨u0, u1, u2, u3⟩ := r2 (row_later rr.out q12)))
    refine bodyPost_ret ?_ rfl ⟨rfl, ?_⟩
    · have r3 := ((row_later rr.out q12).set 0 (.int .i64 X0)).set 1 (.int .i64 X1)
      have k0 := r3.cell (i := 0) (by omega)
      have k1 := r3.cell (i := 1) (by omega)
      simp at k0 k1
      simp [results, go_sem, k0, k1]
    · exact ((bb.out.trans (q12.mono (by simp; omega))).setCell (p := ⟨w.heap.size + 1, 0, none⟩) (by simp) _).setCell (p := ⟨w.heap.size + 1, 1, none⟩) (by simp) _
end Go.Proofs.YtajlkdidjelpeaaDoor.SigCalls
