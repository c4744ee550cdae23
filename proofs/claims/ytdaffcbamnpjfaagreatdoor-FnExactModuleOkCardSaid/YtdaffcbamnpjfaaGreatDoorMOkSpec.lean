/-
  ModuleOk, as the specification answers it. (Written by my modok3.py.)
-/
import Derived.Test.YtdaffcbamnpjfaaGreatDoorMOkFace
import Derived.Test.YtdaffcbamnpjfaaGreatDoorSFault
namespace Go.Proofs.YtdaffcbamnpjfaaGreatDoor.MOkSpec
open Go.RowKit PlainOps NameCalls PlainNum NumCalls InsCalls InsImpl PlainShape InsMem PlainAll EveryIns ShapeCalls FormCalls FormEvery ModMem FormImpl PlainValid ValidCtx ValidMod Piles ValidIns ValidStep ValidWalk ValidHeights ValidFace ValidMax MOkImpl MOkNames SFault

theorem allP_and (p q : Nat → Bool) : ∀ (f k : Nat), allP (fun j => p j && q j) f k = (allP p f k && allP q f k)
  | 0, _ => rfl
  | f + 1, k => by
    have ih := allP_and p q f (k + 1)
    cases hp : p k with
    | false => rw [allP_no (p := fun j => p j && q j) (by simp [hp]), allP_no hp, Bool.false_and]
    | true =>
      cases hq : q k with
      | false => rw [allP_no (p := fun j => p j && q j) (by simp [hp, hq]), allP_no hq, Bool.and_false]
      | true => rw [allP_yes (p := fun j => p j && q j) (by simp [hp, hq]), allP_yes hp, allP_yes hq, ih]
set_option maxRecDepth 20000 in
set_option maxHeartbeats 4000000 in
theorem spec_export (w : World) (v0 : Value) (a1 : Option Addr) (n1 c1 : Nat) (a2 : Option Addr) (n2 c2 : Nat) (pg : Int) (v4 : Value) (a5 : Option Addr) (n5 c5 : Nat) (v6 v7 : Value) (s : ByteArray) (kd' ix : Int) (hn : n1 + n2 ≤ 1048576) (hp : -1 ≤ pg) :
    Calls Tryz.prog 46 #[.agg #[v0, .slice a1 n1 c1, .slice a2 n2 c2, .int .i64 pg, v4, .slice a5 n5 c5, v6, v7], .agg #[.string s, .int .i64 kd', .int .i64 ix]] w fun e w' => e = .returned (.bool (xh (n1 + n2) pg n5 kd' ix)) ∧ Below w.heap.size w w' := by
  have bb : Hid (Below w.heap.size w ((w.alloc (.cells #[v0, .slice a1 n1 c1, .slice a2 n2 c2, .int .i64 pg, v4, .slice a5 n5 c5, v6, v7] 39)).alloc (.cells #[.string s, .int .i64 kd', .int .i64 ix] 84))) := ((Below.refl _ _).alloc (Nat.le_refl _) _).alloc (by simp) _
  by_cases h0 : kd' = 0
  · subst h0
    have e1 : Hid (xh (n1 + n2) pg n5 0 ix = decide (ix < (n1 : Int) + (n2 : Int))) := by show _ = _; unfold xh; rw [if_pos rfl]; simp
    rw [e1.out]
    go_enter Tryz.func46, Tryz.ntmps46
    go_wp2_with fail
    go_ret
    exact ⟨rfl, bb.out⟩
  · have n0 : (kd' == 0) = false := by simpa using h0
    by_cases h2 : kd' = 2
    · subst h2
      have e1 : Hid (xh (n1 + n2) pg n5 2 ix = (decide (ix = 0) && decide (0 ≤ pg))) := by
        show _ = _
        unfold xh
        rw [if_neg (by decide), if_pos rfl, Bool.eq_iff_iff]
        simp
        omega
      rw [e1.out]
      clear h0 e1
      by_cases hx : ix = 0
      · subst hx
        go_enter Tryz.func46, Tryz.ntmps46
        go_wp2_with fail
        go_ret
        exact ⟨by simp, bb.out⟩
      · have hx1 : (ix == 0) = false := by simpa using hx
        have e2 : Hid ((decide (ix = 0) && decide (0 ≤ pg)) = false) := by show _ = _; simp [hx]
        rw [e2.out]
        clear hx e2
        go_enter Tryz.func46, Tryz.ntmps46
        go_wp2_with fail
        go_ret
        exact ⟨rfl, bb.out⟩
    · have n2' : (kd' == 2) = false := by simpa using h2
      have e1 : Hid (xh (n1 + n2) pg n5 kd' ix = decide (ix < (n5 : Int))) := by show _ = _; unfold xh; rw [if_neg h0, if_neg h2]
      rw [e1.out]
      clear h0 h2 e1
      go_enter Tryz.func46, Tryz.ntmps46
      go_wp2_with fail
      go_ret
      exact ⟨rfl, bb.out⟩
set_option maxRecDepth 20000 in
set_option maxHeartbeats 16000000 in
theorem specNo (w : World) (p : P) (m : M) (h : Rd w p m) (hs : Small m) (hf : formOk m = false ∨ (formOk m = true ∧ (0 < m.dat.length ∧ m.pages < 0))) :
    Calls Tryz.prog 12 #[.agg #[.slice p.a0 m.sigs.length p.c0, .slice p.a1 m.imps.length p.c1, .slice p.a2 m.fns.length p.c2, .int .i64 m.pages, .int .i64 m.most, .slice p.a3 m.gls.length p.c3, .slice p.a4 m.exs.length p.c4, .slice p.a5 m.dat.length p.c5]] w fun e w' => e = .returned (.bool false) ∧ Below w.heap.size w w' := by
  have kF : Hid (∀ u : World, Below w.heap.size w u → Calls Tryz.prog 28 #[.agg #[.slice p.a0 m.sigs.length p.c0, .slice p.a1 m.imps.length p.c1, .slice p.a2 m.fns.length p.c2, .int .i64 m.pages, .int .i64 m.most, .slice p.a3 m.gls.length p.c3, .slice p.a4 m.exs.length p.c4, .slice p.a5 m.dat.length p.c5]] u fun e w' => e = .returned (.bool (formOk m)) ∧ Below u.heap.size u w') := fun u hu => FormSpec.spec_formOk u p m (h.later hu) hs
  have hr : Hid ((w.alloc (.cells #[.slice p.a0 m.sigs.length p.c0, .slice p.a1 m.imps.length p.c1, .slice p.a2 m.fns.length p.c2, .int .i64 m.pages, .int .i64 m.most, .slice p.a3 m.gls.length p.c3, .slice p.a4 m.exs.length p.c4, .slice p.a5 m.dat.length p.c5] 39)).rowIs w.heap.size 39 8 (R8 (.slice p.a0 m.sigs.length p.c0) (.slice p.a1 m.imps.length p.c1) (.slice p.a2 m.fns.length p.c2) (.int .i64 m.pages) (.int .i64 m.most) (.slice p.a3 m.gls.length p.c3) (.slice p.a4 m.exs.length p.c4) (.slice p.a5 m.dat.length p.c5))) := r8_made w (.slice p.a0 m.sigs.length p.c0) (.slice p.a1 m.imps.length p.c1) (.slice p.a2 m.fns.length p.c2) (.int .i64 m.pages) (.int .i64 m.most) (.slice p.a3 m.gls.length p.c3) (.slice p.a4 m.exs.length p.c4) (.slice p.a5 m.dat.length p.c5) 39
  clear h hs
  rcases hf with hA | ⟨hA, hd, hp⟩
  · rw [hA] at kF
    clear hA
    generalize m.sigs.length = N0 at *
    generalize m.imps.length = N1 at *
    generalize m.fns.length = N2 at *
    generalize m.gls.length = N3 at *
    generalize m.exs.length = N4 at *
    generalize m.dat.length = N5 at *
    go_enter Tryz.func12, Tryz.ntmps12
    go_wp2_with (go_at_call 28; refine (kF.out _ ((Below.refl _ _).alloc (Nat.le_refl _) _)).mono ?_; rintro e w1 ⟨rfl, q1⟩; obtain ⟨_, _, _, _, _, _, _, _⟩ := r8 (row_later hr.out q1))
    go_ret
    exact ⟨rfl, belB q1⟩
  · rw [hA] at kF
    have hd' : (0 : Int) < (m.dat.length : Int) := by omega
    clear hA hd
    generalize m.sigs.length = N0 at *
    generalize m.imps.length = N1 at *
    generalize m.fns.length = N2 at *
    generalize m.gls.length = N3 at *
    generalize m.exs.length = N4 at *
    generalize m.dat.length = N5 at *
    generalize m.pages = PG at *
    go_enter Tryz.func12, Tryz.ntmps12
    go_wp2_with (go_at_call 28; refine (kF.out _ ((Below.refl _ _).alloc (Nat.le_refl _) _)).mono ?_; rintro e w1 ⟨rfl, q1⟩; obtain ⟨_, _, _, _, _, _, _, _⟩ := r8 (row_later hr.out q1))
    go_ret
    exact ⟨rfl, belB q1⟩
set_option maxRecDepth 20000 in
set_option maxHeartbeats 32000000 in
theorem specYes (w : World) (p : P) (m : M) (h : Rd w p m) (hs : Small m) (hf : formOk m = true) (hd : ¬ (0 < m.dat.length ∧ m.pages < 0)) :
    Calls Tryz.prog 12 #[.agg #[.slice p.a0 m.sigs.length p.c0, .slice p.a1 m.imps.length p.c1, .slice p.a2 m.fns.length p.c2, .int .i64 m.pages, .int .i64 m.most, .slice p.a3 m.gls.length p.c3, .slice p.a4 m.exs.length p.c4, .slice p.a5 m.dat.length p.c5]] w fun e w' => e = .returned (.bool (allP (bRight m) m.fns.length 0 && allP (fun k => xHas m k && dif m.exs k) m.exs.length 0)) ∧ Below w.heap.size w w' := by
  have f := facts hf
  have kF : Hid (∀ u : World, Below w.heap.size w u → Calls Tryz.prog 28 #[.agg #[.slice p.a0 m.sigs.length p.c0, .slice p.a1 m.imps.length p.c1, .slice p.a2 m.fns.length p.c2, .int .i64 m.pages, .int .i64 m.most, .slice p.a3 m.gls.length p.c3, .slice p.a4 m.exs.length p.c4, .slice p.a5 m.dat.length p.c5]] u fun e w' => e = .returned (.bool true) ∧ Below u.heap.size u w') := fun u hu => by
    have := FormSpec.spec_formOk u p m (h.later hu) hs
    rw [hf] at this
    exact this
  have kA : Hid (∀ k, k < m.fns.length → ∀ u : World, Below w.heap.size w u → Calls Tryz.prog 8 #[.agg #[.slice p.a0 m.sigs.length p.c0, .slice p.a1 m.imps.length p.c1, .slice p.a2 m.fns.length p.c2, .int .i64 m.pages, .int .i64 m.most, .slice p.a3 m.gls.length p.c3, .slice p.a4 m.exs.length p.c4, .slice p.a5 m.dat.length p.c5], .int .i64 (k : Int)] u fun e w' => e = .returned (.int .i64 (bodyOf m k).2) ∧ Below u.heap.size u w') := fun k hk u hu => faultYes u p m k (h.later hu) hs hf hk
  have kE : Hid (∀ (u : World) (s : ByteArray) (a b : Int), Calls Tryz.prog 46 #[.agg #[.slice p.a0 m.sigs.length p.c0, .slice p.a1 m.imps.length p.c1, .slice p.a2 m.fns.length p.c2, .int .i64 m.pages, .int .i64 m.most, .slice p.a3 m.gls.length p.c3, .slice p.a4 m.exs.length p.c4, .slice p.a5 m.dat.length p.c5], .agg #[.string s, .int .i64 a, .int .i64 b]] u fun e w' => e = .returned (.bool (xh (m.imps.length + m.fns.length) m.pages m.gls.length a b)) ∧ Below u.heap.size u w') := fun u s a b => spec_export u _ _ _ _ _ _ _ _ _ _ _ _ _ _ s a b (by have := f.co; omega) f.pg.1
  have hr : Hid ((w.alloc (.cells #[.slice p.a0 m.sigs.length p.c0, .slice p.a1 m.imps.length p.c1, .slice p.a2 m.fns.length p.c2, .int .i64 m.pages, .int .i64 m.most, .slice p.a3 m.gls.length p.c3, .slice p.a4 m.exs.length p.c4, .slice p.a5 m.dat.length p.c5] 39)).rowIs w.heap.size 39 8 (R8 (.slice p.a0 m.sigs.length p.c0) (.slice p.a1 m.imps.length p.c1) (.slice p.a2 m.fns.length p.c2) (.int .i64 m.pages) (.int .i64 m.most) (.slice p.a3 m.gls.length p.c3) (.slice p.a4 m.exs.length p.c4) (.slice p.a5 m.dat.length p.c5))) := r8_made w (.slice p.a0 m.sigs.length p.c0) (.slice p.a1 m.imps.length p.c1) (.slice p.a2 m.fns.length p.c2) (.int .i64 m.pages) (.int .i64 m.most) (.slice p.a3 m.gls.length p.c3) (.slice p.a4 m.exs.length p.c4) (.slice p.a5 m.dat.length p.c5) 39
  have hX : Hid (MemExport.Rd w p.a4 m.exs) := h.2.2.2.2.1
  have hco := f.co
  have hbr : Hid (∀ k, bRight m k = decide ((bodyOf m k).2 = -1)) := fun _ => rfl
  have hxh : Hid (∀ k, xHas m k = xh (m.imps.length + m.fns.length) m.pages m.gls.length (MemExport.f1At m.exs k) (MemExport.f2At m.exs k)) := fun _ => rfl
  have hdc : (¬ (0 : Int) < (m.dat.length : Int) ∧ decide ((0 : Int) < (m.dat.length : Int)) = false) ∨ ((0 : Int) < (m.dat.length : Int) ∧ ¬ m.pages < 0 ∧ decide (m.pages < 0) = false) := by
    by_cases z : 0 < m.dat.length
    · have : ¬ m.pages < 0 := fun e => hd ⟨z, e⟩
      exact .inr ⟨by omega, this, decide_eq_false this⟩
    · have : ¬ (0 : Int) < (m.dat.length : Int) := by omega
      exact .inl ⟨this, decide_eq_false this⟩
  obtain ⟨R1, hR1⟩ : ∃ R1, allP (bRight m) m.fns.length 0 = R1 := ⟨_, rfl⟩
  obtain ⟨R2, hR2⟩ : ∃ R2, allP (fun k => xHas m k && dif m.exs k) m.exs.length 0 = R2 := ⟨_, rfl⟩
  have hF1 : Hid (allP (bRight m) m.fns.length 0 = R1) := hR1
  have hF2 : Hid (allP (fun k => xHas m k && dif m.exs k) m.exs.length 0 = R2) := hR2
  rw [hR1, hR2]
  clear hR1 hR2 h hs hf hd f
  generalize hpg : m.pages = PG at *
  clear hpg
  obtain ⟨a0, c0, a1, c1, a2, c2, a3, c3, a4, c4, a5, c5⟩ := p
  dsimp only at *
  have fin : Hid (∀ wo : World, Below (w.heap.size + 1) (w.alloc (.cells #[.slice a0 m.sigs.length c0, .slice a1 m.imps.length c1, .slice a2 m.fns.length c2, .int .i64 PG, .int .i64 m.most, .slice a3 m.gls.length c3, .slice a4 m.exs.length c4, .slice a5 m.dat.length c5] 39)) wo → Below w.heap.size w wo) := fun wo hb => ((Below.refl w.heap.size w).alloc (Nat.le_refl _) _).trans (hb.mono (by omega))
  rcases hdc with ⟨z1, z2⟩ | ⟨z1, z2, z3⟩
  all_goals
    go_enter Tryz.func12, Tryz.ntmps12
    go_wp2_with (go_at_call 28; refine (kF.out _ ((Below.refl _ _).alloc (Nat.le_refl _) _)).mono ?_; rintro e w1 ⟨rfl, q1⟩; obtain ⟨_, _, _, _, _, _, _, _⟩ := r8 (row_later hr.out q1))
    go_loopw [24] (fun vk wr => ∃ (k f : Nat), k + f = m.fns.length ∧ vk = .int .i64 k ∧ allP (bRight m) f k = R1 ∧ Below (w.heap.size + 1) (w.alloc (.cells #[.slice a0 m.sigs.length c0, .slice a1 m.imps.length c1, .slice a2 m.fns.length c2, .int .i64 PG, .int .i64 m.most, .slice a3 m.gls.length c3, .slice a4 m.exs.length c4, .slice a5 m.dat.length c5] 39)) wr) (fun vk _ => m.fns.length - (intOf vk).toNat)
    case atStart => exact ⟨0, m.fns.length, by omega, rfl, hF1.out, q1.mono (by simp)⟩
    case round =>
      obtain ⟨k, f, hk, rfl, hall, hbel⟩ := hrel
      have hall' : Hid (allP (bRight m) f k = R1) := hall
      have hbel' : Hid (Below (w.heap.size + 1) (w.alloc (.cells #[.slice a0 m.sigs.length c0, .slice a1 m.imps.length c1, .slice a2 m.fns.length c2, .int .i64 PG, .int .i64 m.most, .slice a3 m.gls.length c3, .slice a4 m.exs.length c4, .slice a5 m.dat.length c5] 39)) wr) := hbel
      have hsz : w.heap.size + 1 ≤ wr.heap.size := by have := hbel.size; simp only [World.size_alloc] at this; exact this
      obtain ⟨_, _, _, _, _, _, _, _⟩ := r8 (hr.out.of_block (hbel.block w.heap.size (by omega)))
      clear hall hF1 hbel
      by_cases hlt : k < m.fns.length
      · have hlt' : (k : Int) < (m.fns.length : Int) := by omega
        obtain ⟨f, rfl⟩ : ∃ j, f = j + 1 := ⟨f - 1, by omega⟩
        have kA1 := kA.out k hlt wr (fin.out _ hbel'.out)
        have kA2 : Hid (Calls Tryz.prog 8 #[.agg #[.slice a0 m.sigs.length c0, .slice a1 m.imps.length c1, .slice a2 m.fns.length c2, .int .i64 PG, .int .i64 m.most, .slice a3 m.gls.length c3, .slice a4 m.exs.length c4, .slice a5 m.dat.length c5], .int .i64 (k : Int)] wr fun e w' => e = .returned (.int .i64 (bodyOf m k).2) ∧ Below wr.heap.size wr w') := kA1
        clear kA1
        by_cases hb : (bodyOf m k).2 = -1
        · have e1 : Hid (allP (bRight m) f (k + 1) = R1) := by show _ = _; rw [← hall'.out]; exact (allP_yes (by rw [hbr.out]; exact decide_eq_true hb)).symm
          rw [hb] at kA2
          clear hb
          go_wp2_with (go_at_call 8; refine kA2.out.mono ?_; rintro e w2 ⟨rfl, q2⟩)
          go_roundw
          case rel => exact ⟨k + 1, f, by omega, by go_num, e1.out, hbel'.out.trans (q2.mono hsz)⟩
          case measure => simp [intOf]; omega
        · have e1 : Hid (R1 = false) := by show _ = _; rw [← hall'.out]; exact allP_no (by rw [hbr.out]; exact decide_eq_false hb)
          generalize (bodyOf m k).2 = FB at *
          have hb1 : (FB == -1) = false := by simpa using hb
          have hb2 : (FB != -1) = true := by simpa using hb
          clear hb
          go_wp2_with (go_at_call 8; refine kA2.out.mono ?_; rintro e w2 ⟨rfl, q2⟩)
          go_ret
          exact ⟨by rw [e1.out]; rfl, fin.out _ (hbel'.out.trans (q2.mono hsz))⟩
      · obtain rfl : k = m.fns.length := by omega
        obtain rfl : f = 0 := by omega
        have eR1 : Hid (R1 = true) := hall'.out.symm
        generalize wr = wo at *
        go_wp2_with fail
        go_loopw [35] (fun vk wr => ∃ (k f : Nat), k + f = m.exs.length ∧ vk = .int .i64 k ∧ allP (fun k => xHas m k && dif m.exs k) f k = R2 ∧ Below (w.heap.size + 1) (w.alloc (.cells #[.slice a0 m.sigs.length c0, .slice a1 m.imps.length c1, .slice a2 m.fns.length c2, .int .i64 PG, .int .i64 m.most, .slice a3 m.gls.length c3, .slice a4 m.exs.length c4, .slice a5 m.dat.length c5] 39)) wr) (fun vk _ => m.exs.length - (intOf vk).toNat)
        case atStart => exact ⟨0, m.exs.length, by omega, rfl, hF2.out, hbel'.out⟩
        case round =>
          obtain ⟨k, f, hk2, rfl, hall2, hbel2⟩ := hrel
          generalize hWF : (w.alloc (.cells #[.slice a0 m.sigs.length c0, .slice a1 m.imps.length c1, .slice a2 m.fns.length c2, .int .i64 PG, .int .i64 m.most, .slice a3 m.gls.length c3, .slice a4 m.exs.length c4, .slice a5 m.dat.length c5] 39)) = w0 at *
          have hw0s : w0.heap.size = w.heap.size + 1 := by rw [← hWF]; simp
          clear hWF
          have hall2' : Hid (allP (fun k => xHas m k && dif m.exs k) f k = R2) := hall2
          have hbel2' : Hid (Below (w.heap.size + 1) w0 wr) := hbel2
          have hsz2 : w.heap.size + 1 ≤ wr.heap.size := by have := hbel2.size; omega
          obtain ⟨_, _, _, _, _, _, _, _⟩ := r8 (hr.out.of_block (hbel2.block w.heap.size (by omega)))
          clear hall2 hF2 hbel2 hall'
          by_cases hlt : k < m.exs.length
          · have hlt' : (k : Int) < (m.exs.length : Int) := by omega
            obtain ⟨f, rfl⟩ : ∃ j, f = j + 1 := ⟨f - 1, by omega⟩
            rcases hX.out with h0 | ⟨b, off, ha, hcc⟩
            · omega
            · have hcs : Hid (∀ (u : World), Below w.heap.size w u → ∀ j, j < m.exs.length → u.cell? ⟨b, off + j * 3, none⟩ = some (.string (MemExport.f0At m.exs j)) ∧ u.cell? ⟨b, off + j * 3 + 1, none⟩ = some (.int .i64 (MemExport.f1At m.exs j)) ∧ u.cell? ⟨b, off + j * 3 + 2, none⟩ = some (.int .i64 (MemExport.f2At m.exs j))) := fun u hu j hj => by
                obtain ⟨y0, y1, y2⟩ := hcc j hj
                have hb : b < w.heap.size := World.block_lt_of_cell? w _ y0
                exact ⟨by rw [hu.cell hb]; exact y0, by rw [hu.cell hb]; exact y1, by rw [hu.cell hb]; exact y2⟩
              obtain ⟨g0, g1, g2⟩ := hcs.out _ (fin.out _ hbel2'.out) k hlt
              have hbw : b < wr.heap.size := World.block_lt_of_cell? wr _ g0
              have hno : Hid ((xHas m k = false ∨ dif m.exs k = false) → R2 = false) := fun e => by
                rw [← hall2'.out]
                refine allP_no (p := fun k => xHas m k && dif m.exs k) ?_
                rcases e with e | e <;> simp [e]
              have hyes : Hid (xHas m k = true → dif m.exs k = true → allP (fun k => xHas m k && dif m.exs k) f (k + 1) = R2) := fun e1 e2 => by
                rw [← hall2'.out]
                exact (allP_yes (p := fun k => xHas m k && dif m.exs k) (by simp [e1, e2])).symm
              have hdf : Hid (allP (fun j => !decide (MemExport.f0At m.exs k = MemExport.f0At m.exs j)) k 0 = dif m.exs k) := rfl
              have kE1 : Hid (∀ u : World, Calls Tryz.prog 46 #[.agg #[.slice a0 m.sigs.length c0, .slice a1 m.imps.length c1, .slice a2 m.fns.length c2, .int .i64 PG, .int .i64 m.most, .slice a3 m.gls.length c3, .slice a4 m.exs.length c4, .slice a5 m.dat.length c5], .agg #[.string (MemExport.f0At m.exs k), .int .i64 (MemExport.f1At m.exs k), .int .i64 (MemExport.f2At m.exs k)]] u fun e w' => e = .returned (.bool (xHas m k)) ∧ Below u.heap.size u w') := fun u => by rw [hxh.out]; exact kE.out u _ _ _
              subst ha
              have hlt0 : w.heap.size < wr.heap.size := by omega
              clear hcc hall2'
              generalize xHas m k = XH at *
              generalize dif m.exs k = O at *
              generalize (MemExport.f1At m.exs k) = x1 at *
              generalize (MemExport.f2At m.exs k) = x2 at *
              generalize hx0 : MemExport.f0At m.exs k = x0 at *
              clear hx0
              generalize wr = wq at *
              cases XH with
              | false =>
                have eR : Hid (R2 = false) := hno.out (.inl rfl)
                clear hno hyes
                go_wp2_with (go_at_call 46; refine (kE1.out _).mono ?_; rintro e w4 ⟨rfl, q4⟩)
                go_ret
                refine ⟨by rw [eR.out, Bool.and_false]; rfl, fin.out _ ((hbel2'.out.alloc hsz2 _).trans (q4.mono (by simp; omega)))⟩
              | true =>
                go_wp2_with (go_at_call 46; refine (kE1.out _).mono ?_; rintro e w4 ⟨rfl, q4⟩; have x4 : Hid (Below (w.heap.size + 1) w0 w4) := (hbel2'.out.alloc hsz2 _).trans (q4.mono (by simp; omega)); have e0 : Hid (w4.cell? ⟨wq.heap.size, 0, none⟩ = some (.string x0)) := (q4.cell (p := ⟨wq.heap.size, 0, none⟩) (by simp)).trans (by simp))
                have hq4 : wq.heap.size < w4.heap.size := by have := q4.size; simp only [World.size_alloc] at this; omega
                clear q4
                go_loopw [6] (fun vj wr => ∃ (j f' : Nat), j + f' = k ∧ vj = .int .i64 j ∧ allP (fun j => !decide (x0 = MemExport.f0At m.exs j)) f' j = O ∧ Below w4.heap.size w4 wr) (fun vj _ => k - (intOf vj).toNat)
                case atStart => exact ⟨0, k, by omega, rfl, hdf.out, Below.refl _ _⟩
                case round =>
                  obtain ⟨j, f', hj, rfl, hin, hbi⟩ := hrel
                  have hin' : Hid (allP (fun j => !decide (x0 = MemExport.f0At m.exs j)) f' j = O) := hin
                  have hbi' : Hid (Below w4.heap.size w4 wr) := hbi
                  have x5 : Hid (Below (w.heap.size + 1) w0 wr) := x4.out.trans (hbi.mono (by have := x4.out.size; omega))
                  have e5 : wr.cell? ⟨wq.heap.size, 0, none⟩ = some (.string x0) := (hbi.cell (p := ⟨wq.heap.size, 0, none⟩) hq4).trans e0.out
                  obtain ⟨_, _, _, _, _, _, _, _⟩ := r8 (hr.out.of_block (x5.out.block w.heap.size (by omega)))
                  clear hin hbi
                  by_cases hlj : j < k
                  · have hlj' : (j : Int) < (k : Int) := by omega
                    have hlj2 : (j : Int) < (m.exs.length : Int) := by omega
                    obtain ⟨f', rfl⟩ : ∃ i, f' = i + 1 := ⟨f' - 1, by omega⟩
                    obtain ⟨d0, d1, d2⟩ := hcs.out _ (fin.out _ x5.out) j (by omega)
                    have hnj : Hid (x0 = MemExport.f0At m.exs j → O = false) := fun e => by rw [← hin'.out]; exact allP_no (by simp [e])
                    have hyj : Hid (¬ x0 = MemExport.f0At m.exs j → allP (fun j => !decide (x0 = MemExport.f0At m.exs j)) f' (j + 1) = O) := fun e => by rw [← hin'.out]; exact (allP_yes (by simp [e])).symm
                    generalize (MemExport.f0At m.exs j) = y0 at *
                    by_cases he : x0 = y0
                    · subst he
                      have eO : Hid (R2 = false) := hno.out (.inr (hnj.out rfl))
                      clear hnj hyj hno hyes
                      go_wp2_with fail
                      go_quiet (fail)
                      go_wp2_with fail
                      go_ret
                      exact ⟨by rw [eO.out, Bool.and_false]; rfl, (fin.out _ x5.out).trans ⟨rfl, rfl, rfl, Nat.le_refl _, fun _ _ => rfl⟩⟩
                    · have nn := str_ne he
                      have nn2 := str_ne (fun e => he e.symm)
                      have eO' : Hid (allP (fun j => !decide (x0 = MemExport.f0At m.exs j)) f' (j + 1) = O) := hyj.out he
                      clear hnj hyj he
                      go_wp2_with fail
                      go_quiet (fail)
                      go_wp2_with fail
                      go_roundw
                      case rel => exact ⟨j + 1, f', by omega, by go_num, eO'.out, hbi'.out.trans ⟨rfl, rfl, rfl, Nat.le_refl _, fun _ _ => rfl⟩⟩
                      case measure => simp [intOf]; omega
                  · obtain rfl : j = k := by omega
                    obtain rfl : f' = 0 := by omega
                    have eO : Hid (allP (fun k => xHas m k && dif m.exs k) f (j + 1) = R2) := hyes.out (by first | rfl | trivial) hin'.out.symm
                    go_wp2_with fail
                    go_roundw
                    case rel => exact ⟨j + 1, f, by omega, by go_num, eO.out, x5.out⟩
                    case measure => simp [intOf]; omega
          · obtain rfl : k = m.exs.length := by omega
            obtain rfl : f = 0 := by omega
            have eR2 : Hid (R2 = true) := hall2'.out.symm
            go_wp2_with fail
            go_ret
            exact ⟨by rw [eR1.out, eR2.out]; rfl, fin.out _ hbel2'.out⟩
end Go.Proofs.YtdaffcbamnpjfaaGreatDoor.MOkSpec
