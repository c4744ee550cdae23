/-
  FaultAt, as the specification answers it. (Written by my specfault.py.)
-/
import Derived.Test.YtdaffcbamnpjfaaGreatDoorSBegin
import Derived.Test.YtdaffcbamnpjfaaGreatDoorFormSpec
namespace Go.Proofs.YtdaffcbamnpjfaaGreatDoor.SFault
open Go.RowKit PlainOps NameCalls PlainNum NumCalls InsCalls InsImpl PlainShape InsMem ShapeCalls FormCalls ModMem FormImpl PlainValid ValidCtx ValidStep ValidNext ValidWalk ValidHeights ValidFace ValidMax Piles Walks SPiles SWalks SIns SHas SFlow SStep SBegin

theorem set_op {st : List Fr} {n : Nat} {f : Fr} (hf : (st.getD n dF).op ≠ 4 → f.op ≠ 4) (h : (st.getD 0 dF).op ≠ 4) : ((st.set n f).getD 0 dF).op ≠ 4 := by
  by_cases hn : n = 0
  · subst hn
    cases st with
    | nil => exact h
    | cons a l => exact hf h
  · rw [List.getD_eq_getElem?_getD, List.getElem?_set_ne hn, ← List.getD_eq_getElem?_getD]
    exact h
/-- The function itself is no if. -/
theorem step_op {c : Ctx} {o i : Int} {s s' : S2} (hn : s.2.length ≠ 0) (h11 : o = 11 → 2 ≤ s.2.length) (h4 : (s.2.getD 0 dF).op ≠ 4) (e : PlainValid.step c o i s = some s') : (s'.2.getD 0 dF).op ≠ 4 := by
  have hL : ∀ n s', PlainValid.leave n s = some s' → (s'.2.getD 0 dF).op ≠ 4 := fun n s' e => by
    unfold PlainValid.leave at e
    split at e
    · cases e; exact set_op (fun z => z) h4
    · cases e
  have hX : ∀ n p (s s' : S2), exch n p s = some s' → s'.2 = s.2 := fun n p s s' e => by
    unfold exch at e
    split at e
    · cases e; rfl
    · cases e
  unfold PlainValid.step at e
  split at e
  · cases e
  split at e
  · exact hL _ _ e
  split at e
  · rw [Option.map_eq_some_iff] at e
    obtain ⟨s1, e1, rfl⟩ := e
    have := hX _ _ _ _ e1
    unfold opens
    dsimp only
    rw [this, List.getD_eq_getElem?_getD, List.getElem?_append_left (by omega), ← List.getD_eq_getElem?_getD]
    exact h4
  split at e
  · unfold PlainValid.turn at e
    split at e
    · cases e; exact set_op (fun _ => (by decide : (5 : Int) ≠ 4)) h4
    · cases e
  split at e
  · rename_i ho
    have := h11 ho
    unfold PlainValid.close at e
    split at e
    · cases e
      show ((s.2.take (s.2.length - 1)).getD 0 dF).op ≠ 4
      rw [List.getD_eq_getElem?_getD, List.getElem?_take, if_pos (by omega), ← List.getD_eq_getElem?_getD]
      exact h4
    · cases e
  split at e
  · exact hL _ _ e
  split at e
  · unfold brIf at e
    rw [Option.bind_eq_some_iff] at e
    obtain ⟨s1, e1, e2⟩ := e
    rw [hX _ _ _ _ e2, hX _ _ _ _ e1]
    exact h4
  split at e
  · exact hL _ _ e
  · rw [hX _ _ _ _ e]
    exact h4
theorem svBelow {B q : Nat} {w w' : World} {F : Nat → Value} {h : Int} {v v' : Value} {bad : Bool} {st : List Fr} (b : SV B w q F h v bad st) (k : Kp q w w' v v') : Below B w w' :=
  kpBelow k b.le (by have := b.lt; have := b.le; omega) (fun g e => (World.ownsRow.lt b.own g e).1)
theorem svLow {B B' q : Nat} {w : World} {F : Nat → Value} {h : Int} {v : Value} {bad : Bool} {st : List Fr} (b : SV B w q F h v bad st) (hB : B' ≤ B) : SV B' w q F h v bad st := by
  refine ⟨b.box, ⟨b.own.1, ?_⟩, b.ne, Nat.le_trans hB b.le⟩
  rcases b.own.2 with h0 | ⟨g, cap, cur, hv, hg, r⟩
  · exact .inl h0
  · exact .inr ⟨g, cap, cur, hv, Nat.le_trans hB hg, r⟩
set_option maxRecDepth 20000 in
set_option maxHeartbeats 16000000 in
theorem faultYes (w : World) (p : P) (m : M) (j : Nat) (h : Rd w p m) (hs : Small m) (hf : formOk m = true) (hj : j < m.fns.length) :
    Calls Tryz.prog 8 #[.agg #[.slice p.a0 m.sigs.length p.c0, .slice p.a1 m.imps.length p.c1, .slice p.a2 m.fns.length p.c2, .int .i64 m.pages, .int .i64 m.most, .slice p.a3 m.gls.length p.c3, .slice p.a4 m.exs.length p.c4, .slice p.a5 m.dat.length p.c5], .int .i64 (j : Int)] w fun e w' => e = .returned (.int .i64 (bodyOf m j).2) ∧ Below w.heap.size w w' := by
  have f := facts hf
  obtain ⟨f0, f1, f2, f3, f4⟩ := f.fn j hj
  have hC : Hid (OkC (ctxOf m (MemFunc.at1 m.fns j).sig (MemFunc.at1 m.fns j).loc)) := okC f f0 f1
  obtain ⟨b, off, ha, _, _, _⟩ := fn_cells h hj
  have kF : Hid (∀ u : World, Below w.heap.size w u → Calls Tryz.prog 28 #[.agg #[.slice p.a0 m.sigs.length p.c0, .slice p.a1 m.imps.length p.c1, .slice p.a2 m.fns.length p.c2, .int .i64 m.pages, .int .i64 m.most, .slice p.a3 m.gls.length p.c3, .slice p.a4 m.exs.length p.c4, .slice p.a5 m.dat.length p.c5]] u fun e w' => e = .returned (.bool true) ∧ Below u.heap.size u w') := fun u hu => by
    have := FormSpec.spec_formOk u p m (h.later hu) hs
    rw [hf] at this
    exact this
  have kB : Hid (∀ u : World, Below w.heap.size w u → Calls Tryz.prog 29 #[.agg #[.slice p.a0 m.sigs.length p.c0, .slice p.a1 m.imps.length p.c1, .slice p.a2 m.fns.length p.c2, .int .i64 m.pages, .int .i64 m.most, .slice p.a3 m.gls.length p.c3, .slice p.a4 m.exs.length p.c4, .slice p.a5 m.dat.length p.c5], .int .i64 (j : Int)] u fun e w' => ∃ q g cap, e = .returned (.pointer (some ⟨q, 0, none⟩)) ∧ SV u.heap.size w' q (sF p m (ctxOf m (MemFunc.at1 m.fns j).sig (MemFunc.at1 m.fns j).loc).loc) 0 (.slice (some ⟨g, 0, none⟩) 1 cap) false [⟨2, (ctxOf m (MemFunc.at1 m.fns j).sig (MemFunc.at1 m.fns j).loc).own, 0, false⟩] ∧ Below u.heap.size u w') := fun u hu => SBegin.begin' p m j u (h.later hu) f hj
  have hbo : Hid (boOk (MemFunc.at1 m.fns j).body = true) := f4
  have hl : (MemFunc.at1 m.fns j).body.length ≤ 1500 := by
    unfold boOk at f4
    simp only [Bool.and_eq_true] at f4
    exact of_decide_eq_true f4.1
  have hr : Hid ((w.alloc (.cells #[.slice p.a0 m.sigs.length p.c0, .slice p.a1 m.imps.length p.c1, .slice p.a2 m.fns.length p.c2, .int .i64 m.pages, .int .i64 m.most, .slice p.a3 m.gls.length p.c3, .slice p.a4 m.exs.length p.c4, .slice p.a5 m.dat.length p.c5] 39)).rowIs w.heap.size 39 8 (R8 (.slice p.a0 m.sigs.length p.c0) (.slice p.a1 m.imps.length p.c1) (.slice p.a2 m.fns.length p.c2) (.int .i64 m.pages) (.int .i64 m.most) (.slice p.a3 m.gls.length p.c3) (.slice p.a4 m.exs.length p.c4) (.slice p.a5 m.dat.length p.c5))) := r8_made w (.slice p.a0 m.sigs.length p.c0) (.slice p.a1 m.imps.length p.c1) (.slice p.a2 m.fns.length p.c2) (.int .i64 m.pages) (.int .i64 m.most) (.slice p.a3 m.gls.length p.c3) (.slice p.a4 m.exs.length p.c4) (.slice p.a5 m.dat.length p.c5) 39
  have hcs : Hid (∀ u : World, Below w.heap.size w u → u.cell? ⟨b, off + j * 3 + 2, none⟩ = some (.slice (MemFunc.at1 m.fns j).ad (MemFunc.at1 m.fns j).body.length (MemFunc.at1 m.fns j).cp) ∧ RdI u (MemFunc.at1 m.fns j).ad (MemFunc.at1 m.fns j).body ∧ Rd u p m) := fun u hu => by
    have hr2 := h.later hu
    refine ⟨?_, ?_, hr2⟩
    · obtain ⟨b', off', ha', _, _, z⟩ := fn_cells hr2 hj
      rw [ha] at ha'
      simp only [Option.some.injEq, Addr.mk.injEq, and_true] at ha'
      obtain ⟨rfl, rfl⟩ := ha'
      exact z
    · obtain ⟨_, _, hF, _⟩ := hr2
      rcases hF with h0 | ⟨_, _, _, hc⟩
      · omega
      · exact (hc j hj).2.2.2
  have hsh : Hid (shpF (MemFunc.at1 m.fns j).body (MemFunc.at1 m.fns j).body.length 0 [] = true) := by
    have := hbo.out
    unfold boOk at this
    simp only [Bool.and_eq_true] at this
    exact this.2.2
  have hins : Hid (∀ k, k < (MemFunc.at1 m.fns j).body.length → InsF (oAt (MemFunc.at1 m.fns j).body k) (aAt (MemFunc.at1 m.fns j).body k)) := fun k hk => by
    have := hbo.out
    unfold boOk at this
    simp only [Bool.and_eq_true] at this
    exact insF (allF_at _ 0 this.2.1 k (by omega) (by omega))
  obtain ⟨R, hR⟩ : ∃ R, (bodyOf m j).2 = R := ⟨_, rfl⟩
  have hR' : Hid ((walk (ctxOf m (MemFunc.at1 m.fns j).sig (MemFunc.at1 m.fns j).loc) (MemFunc.at1 m.fns j).body (MemFunc.at1 m.fns j).body.length 0 (PlainValid.start (ctxOf m (MemFunc.at1 m.fns j).sig (MemFunc.at1 m.fns j).loc)) []).2 = R) := hR
  have hff : Hid (Facts m ∧ 0 ≤ (MemFunc.at1 m.fns j).sig ∧ (MemFunc.at1 m.fns j).sig < m.sigs.length) := ⟨f, f0, f1⟩
  have hj' : (j : Int) < (m.fns.length : Int) := by omega
  have hd0 : decide ((j : Int) < 0) = false := decide_eq_false (by omega)
  have hd1 : ¬ (j : Int) < 0 := by omega
  have hd2 : decide ((m.fns.length : Int) ≤ (j : Int)) = false := decide_eq_false (by omega)
  have hd3 : ¬ (m.fns.length : Int) ≤ (j : Int) := by omega
  have hsz2 := hs.n2
  rw [hR]
  rw [ha] at kF kB hr ⊢
  clear hR h hf f f0 f1 f2 f3 f4 hs hj
  go_enter Tryz.func8, Tryz.ntmps8
  go_wp2_with (first | (go_at_call 28; refine (kF.out _ ((Below.refl _ _).alloc (Nat.le_refl _) _)).mono ?_; rintro e w1 ⟨rfl, q1⟩; obtain ⟨_, _, _, _, _, _, _, _⟩ := r8 (row_later hr.out q1); have x1 : Hid (Below w.heap.size w w1) := belB q1) | (go_at_call 29; refine (kB.out _ x1.out).mono ?_; rintro e w2 ⟨q, g1, cap1, rfl, b2, q2⟩; have y2 : Hid (Below ((w.alloc (.cells #[.slice p.a0 m.sigs.length p.c0, .slice p.a1 m.imps.length p.c1, .slice (some ⟨b, off, none⟩) m.fns.length p.c2, .int .i64 m.pages, .int .i64 m.most, .slice p.a3 m.gls.length p.c3, .slice p.a4 m.exs.length p.c4, .slice p.a5 m.dat.length p.c5] 39))).heap.size ((w.alloc (.cells #[.slice p.a0 m.sigs.length p.c0, .slice p.a1 m.imps.length p.c1, .slice (some ⟨b, off, none⟩) m.fns.length p.c2, .int .i64 m.pages, .int .i64 m.most, .slice p.a3 m.gls.length p.c3, .slice p.a4 m.exs.length p.c4, .slice p.a5 m.dat.length p.c5] 39))) w2) := q1.trans (q2.mono q1.size); obtain ⟨_, _, _, _, _, _, _, _⟩ := r8 (row_later hr.out y2.out); obtain ⟨_, _, _⟩ := hcs.out _ (belB y2.out); have b2' : Hid (SV (w.heap.size + 1) w2 q (sF p m (ctxOf m (MemFunc.at1 m.fns j).sig (MemFunc.at1 m.fns j).loc).loc) 0 (.slice (some ⟨g1, 0, none⟩) 1 cap1) false [⟨2, (ctxOf m (MemFunc.at1 m.fns j).sig (MemFunc.at1 m.fns j).loc).own, 0, false⟩]) := svLow b2 (by have := q1.size; simp only [World.size_alloc] at this; exact this); clear b2))
  go_loopw [32] (fun vk wr => ∃ (k f : Nat) (acc : List Int) (h : Int) (v : Value) (st : List Fr) (sh : List Int), k + f = (MemFunc.at1 m.fns j).body.length ∧ vk = .int .i64 k ∧ SV (w.heap.size + 1) wr q (sF p m (ctxOf m (MemFunc.at1 m.fns j).sig (MemFunc.at1 m.fns j).loc).loc) h v false st ∧ Bnd k (h, st) ∧ shpF (MemFunc.at1 m.fns j).body f k sh = true ∧ sh.length + 1 = st.length ∧ st.length ≤ k + 1 ∧ (st.getD 0 dF).res = (ctxOf m (MemFunc.at1 m.fns j).sig (MemFunc.at1 m.fns j).loc).own ∧ (st.getD 0 dF).op ≠ 4 ∧ (walk (ctxOf m (MemFunc.at1 m.fns j).sig (MemFunc.at1 m.fns j).loc) (MemFunc.at1 m.fns j).body f k (h, st) acc).2 = R ∧ Below (w.heap.size + 1) (w.alloc (.cells #[.slice p.a0 m.sigs.length p.c0, .slice p.a1 m.imps.length p.c1, .slice (some ⟨b, off, none⟩) m.fns.length p.c2, .int .i64 m.pages, .int .i64 m.most, .slice p.a3 m.gls.length p.c3, .slice p.a4 m.exs.length p.c4, .slice p.a5 m.dat.length p.c5] 39)) wr) (fun vk _ => (MemFunc.at1 m.fns j).body.length - (intOf vk).toNat)
  case atStart => exact ⟨0, (MemFunc.at1 m.fns j).body.length, [], 0, _, _, [], by omega, rfl, b2'.out, start_bnd hC.out, hsh.out, rfl, by simp, rfl, by simp, hR'.out, y2.out.mono (by simp)⟩
  case round =>
    obtain ⟨k, f, acc, h, v, st, sh, hk, rfl, bw, hB, hsh1, hst, hle, hres, hop, hw, bel⟩ := hrel
    generalize hWF : (w.alloc (.cells #[.slice p.a0 m.sigs.length p.c0, .slice p.a1 m.imps.length p.c1, .slice (some ⟨b, off, none⟩) m.fns.length p.c2, .int .i64 m.pages, .int .i64 m.most, .slice p.a3 m.gls.length p.c3, .slice p.a4 m.exs.length p.c4, .slice p.a5 m.dat.length p.c5] 39)) = w0 at *
    have hw0s : w0.heap.size = w.heap.size + 1 := by rw [← hWF]; simp
    have hbx0 : Hid (Below w.heap.size w w0) := by rw [← hWF]; exact (Below.refl _ _).alloc (Nat.le_refl _) _
    clear hWF b2' hR' hsh y2
    have hw' : Hid ((walk (ctxOf m (MemFunc.at1 m.fns j).sig (MemFunc.at1 m.fns j).loc) (MemFunc.at1 m.fns j).body f k (h, st) acc).2 = R) := hw
    have bw' : Hid (SV (w.heap.size + 1) wr q (sF p m (ctxOf m (MemFunc.at1 m.fns j).sig (MemFunc.at1 m.fns j).loc).loc) h v false st) := bw
    have hB' : Hid (Bnd k (h, st)) := hB
    have bel' : Hid (Below (w.heap.size + 1) w0 wr) := bel
    have hres' : Hid ((st.getD 0 dF).res = (ctxOf m (MemFunc.at1 m.fns j).sig (MemFunc.at1 m.fns j).loc).own) := hres
    have hop' : Hid ((st.getD 0 dF).op ≠ 4) := hop
    have hsz : w.heap.size + 1 ≤ wr.heap.size := by have := bel.size; omega
    have belw : Hid (∀ u : World, Below (w.heap.size + 1) w0 u → Below w.heap.size w u) := fun u hu => hbx0.out.trans (hu.mono (by omega))
    obtain ⟨n, hn⟩ : ∃ n, st.length = n + 1 := ⟨st.length - 1, by omega⟩
    obtain ⟨g, cap, hv, hqg, hgw, hcap⟩ := bw.form (by omega)
    rw [hn] at hv
    subst hv
    have hqw := bw.lt
    clear hw hB hres hop
    by_cases hlt : k < (MemFunc.at1 m.fns j).body.length
    · have hlt' : (k : Int) < ((MemFunc.at1 m.fns j).body.length : Int) := by omega
      obtain ⟨f, rfl⟩ : ∃ i, f = i + 1 := ⟨f - 1, by omega⟩
      rcases (hcs.out _ (belw.out _ bel)).2.1 with h0 | ⟨bb, offb, hab, hc⟩
      · omega
      · obtain ⟨c0, c1, c2⟩ := hc k hlt
        have hbb : bb < wr.heap.size := World.block_lt_of_cell? wr _ c0
        have hIns := hins.out k hlt
        have hIns' : Hid (InsF (oAt (MemFunc.at1 m.fns j).body k) (aAt (MemFunc.at1 m.fns j).body k)) := hIns
        have hWn : Hid (∀ s', PlainValid.step (ctxOf m (MemFunc.at1 m.fns j).sig (MemFunc.at1 m.fns j).loc) (oAt (MemFunc.at1 m.fns j).body k) (aAt (MemFunc.at1 m.fns j).body k) (h, st) = some s' → (walk (ctxOf m (MemFunc.at1 m.fns j).sig (MemFunc.at1 m.fns j).loc) (MemFunc.at1 m.fns j).body f (k + 1) s' (acc ++ [PlainValid.told (h, st)])).2 = R) := fun s' e => by rw [← walk_yes e]; exact hw'.out
        have hWf : Hid (PlainValid.step (ctxOf m (MemFunc.at1 m.fns j).sig (MemFunc.at1 m.fns j).loc) (oAt (MemFunc.at1 m.fns j).body k) (aAt (MemFunc.at1 m.fns j).body k) (h, st) = none → R = (k : Int)) := fun e => by rw [← hw'.out, walk_no e]
        obtain ⟨sh', hs1, hs2, hs3⟩ := shape_next hsh1
        have h11 : oAt (MemFunc.at1 m.fns j).body k = 11 → 2 ≤ st.length := fun e => by have := hs3 e; omega
        have hNx : Hid (∀ s', PlainValid.step (ctxOf m (MemFunc.at1 m.fns j).sig (MemFunc.at1 m.fns j).loc) (oAt (MemFunc.at1 m.fns j).body k) (aAt (MemFunc.at1 m.fns j).body k) (h, st) = some s' → (Bnd (k + 1) s' ∧ s'.2.length = nOpen (oAt (MemFunc.at1 m.fns j).body k) st.length) ∧ (s'.2.getD 0 dF).res = (ctxOf m (MemFunc.at1 m.fns j).sig (MemFunc.at1 m.fns j).loc).own ∧ (s'.2.getD 0 dF).op ≠ 4) := fun s' e => ⟨step_next hC.out hIns hB'.out (by show st.length ≠ 0; omega) e, (step_own (by show st.length ≠ 0; omega) h11 e).trans hres'.out, step_op (by show st.length ≠ 0; omega) h11 hop'.out e⟩
        have hSh : Hid (shpF (MemFunc.at1 m.fns j).body f (k + 1) sh' = true ∧ sh'.length + 1 = nOpen (oAt (MemFunc.at1 m.fns j).body k) st.length) := ⟨hs1, by rw [hs2, hst]⟩
        have kSt : Hid (∀ (u : World) (b0 : Int), SV (w.heap.size + 1) u q (sF p m (ctxOf m (MemFunc.at1 m.fns j).sig (MemFunc.at1 m.fns j).loc).loc) h (.slice (some ⟨g, 0, none⟩) (n + 1) cap) false st → Below (w.heap.size + 1) w0 u → Calls Tryz.prog 30 #[.pointer (some ⟨q, 0, none⟩), .agg #[.int .i64 (oAt (MemFunc.at1 m.fns j).body k), .int .i64 (aAt (MemFunc.at1 m.fns j).body k), .int .i64 b0]] u fun e w' => e = .returned (.tuple #[]) ∧ SRes (w.heap.size + 1) u q (sF p m (ctxOf m (MemFunc.at1 m.fns j).sig (MemFunc.at1 m.fns j).loc).loc) (.slice (some ⟨g, 0, none⟩) (n + 1) cap) (PlainValid.step (ctxOf m (MemFunc.at1 m.fns j).sig (MemFunc.at1 m.fns j).loc) (oAt (MemFunc.at1 m.fns j).body k) (aAt (MemFunc.at1 m.fns j).body k) (h, st)) w') := fun u b0 hu hb => stepS (w.heap.size + 1) q g n cap u p m (MemFunc.at1 m.fns j).sig (MemFunc.at1 m.fns j).loc h st _ _ b0 ⟨hu, (hcs.out u (belw.out u hb)).2.2, hff.out.1, hff.out.2.1, hff.out.2.2, by omega, hIns⟩ (hB'.out.mono (by omega)) hres'.out
        rw [hab]
        clear hc hw' hsh1 hs1 hs2 hs3 hst hIns bel bw h11
        generalize PlainValid.step (ctxOf m (MemFunc.at1 m.fns j).sig (MemFunc.at1 m.fns j).loc) (oAt (MemFunc.at1 m.fns j).body k) (aAt (MemFunc.at1 m.fns j).body k) (h, st) = XX at *
        generalize PlainValid.told (h, st) = tt at *
        generalize oAt (MemFunc.at1 m.fns j).body k = o at *
        generalize aAt (MemFunc.at1 m.fns j).body k = i at *
        generalize bAt (MemFunc.at1 m.fns j).body k = b0 at *
        have bwA : Hid (SV (w.heap.size + 1) (wr.alloc (.cells #[.int .i64 o, .int .i64 i, .int .i64 b0] 62)) q (sF p m (ctxOf m (MemFunc.at1 m.fns j).sig (MemFunc.at1 m.fns j).loc).loc) h (.slice (some ⟨g, 0, none⟩) (n + 1) cap) false st) := bw'.out.alloc _
        have belA : Hid (Below (w.heap.size + 1) w0 (wr.alloc (.cells #[.int .i64 o, .int .i64 i, .int .i64 b0] 62))) := bel'.out.alloc hsz _
        go_wp2_with (go_at_call 30; refine (kSt.out _ _ bwA.out belA.out).mono ?_; rintro e w4 ⟨rfl, bad4, h4, v4, st4, bw4, kp4, hr4⟩; have z1 := bw4.isBad; have bw4' : Hid (SV (w.heap.size + 1) w4 q (sF p m (ctxOf m (MemFunc.at1 m.fns j).sig (MemFunc.at1 m.fns j).loc).loc) h4 v4 bad4 st4) := bw4; have kp4' : Hid (Kp q (wr.alloc (.cells #[.int .i64 o, .int .i64 i, .int .i64 b0] 62)) w4 (.slice (some ⟨g, 0, none⟩) (n + 1) cap) v4) := kp4; have hr' : Hid (XX = if bad4 = false then some (h4, st4) else none) := hr4; clear bw4 kp4 hr4; cases bad4)
        · have bel4 : Hid (Below (w.heap.size + 1) w0 w4) := belA.out.trans (svBelow bwA.out kp4'.out)
          obtain ⟨⟨nx1, nx2⟩, nx3, nx4⟩ := hNx.out _ hr'.out
          go_roundw
          case rel => exact ⟨k + 1, f, acc ++ [tt], h4, v4, st4, sh', by omega, by go_num, bw4'.out, nx1, hSh.out.1, by rw [hSh.out.2]; exact nx2.symm, by rw [show st4.length = _ from nx2]; unfold nOpen; split <;> (try split) <;> omega, nx3, nx4, hWn.out _ hr'.out, bel4.out⟩
          case measure => simp [intOf]; omega
        · have bel4 : Hid (Below (w.heap.size + 1) w0 w4) := belA.out.trans (svBelow bwA.out kp4'.out)
          have e1 : Hid (R = (k : Int)) := hWf.out hr'.out
          go_ret
          exact ⟨by rw [e1.out]; rfl, belw.out _ bel4.out⟩
    · obtain rfl : k = (MemFunc.at1 m.fns j).body.length := by omega
      obtain rfl : f = 0 := by omega
      have hn0 : n = 0 := by
        have := of_decide_eq_true (show decide (sh.length = 0) = true from hsh1)
        omega
      subst hn0
      have e1 : Hid (R = if closes (h, st) = true then -1 else ((MemFunc.at1 m.fns j).body.length : Int)) := by
        show _ = _
        rw [← hw'.out, walk]
        split <;> rfl
      obtain ⟨t0, t1, t2, t3⟩ := hB'.out.top (by show st.length ≠ 0; omega)
      have hlo := hB'.out.lo
      have hhi := hB'.out.hi
      simp only [SFlow.top_is hn.symm] at t0 t1 t2 t3
      dsimp only at hlo hhi
      have e2 : Hid (closes (h, st) = ((tk (st.getD 0 dF).res.toNat h (st.getD 0 dF).base (st.getD 0 dF).dead).2 && decide ((tk (st.getD 0 dF).res.toNat h (st.getD 0 dF).base (st.getD 0 dF).dead).1 = (st.getD 0 dF).base))) := by
        show _ = _
        unfold closes ends
        simp only [SFlow.top_is hn.symm]
        rw [decide_eq_true (Or.inl hop'.out : (st.getD 0 dF).op ≠ 4 ∨ (st.getD 0 dF).res = 0), Bool.and_true]
      have kC : Hid (∀ u : World, SV (w.heap.size + 1) u q (sF p m (ctxOf m (MemFunc.at1 m.fns j).sig (MemFunc.at1 m.fns j).loc).loc) h (.slice (some ⟨g, 0, none⟩) 1 cap) false st → Calls Tryz.prog 31 #[.pointer (some ⟨q, 0, none⟩)] u fun e w' => ∃ h', e = .returned (.tuple #[]) ∧ SV (w.heap.size + 1) w' q (sF p m (ctxOf m (MemFunc.at1 m.fns j).sig (MemFunc.at1 m.fns j).loc).loc) h' (.slice (some ⟨g, 0, none⟩) 1 cap) (!closes (h, st)) st ∧ Kp q u w' (.slice (some ⟨g, 0, none⟩) 1 cap) (.slice (some ⟨g, 0, none⟩) 1 cap)) := fun u hu => by
        rw [e2.out]
        exact (SWalks.closeUp (w.heap.size + 1) q g 0 cap u (sF p m (ctxOf m (MemFunc.at1 m.fns j).sig (MemFunc.at1 m.fns j).loc).loc) h false st hu (by omega) (by omega) (by omega) (by omega) (by omega) (by omega)).mono fun _ _ ⟨z1, z2, z3⟩ => ⟨_, z1, z2, z3⟩
      clear bw hsh1 hst hle bel hw' hB' t0 t1 t2 t3 hlo hhi e2
      generalize closes (h, st) = C at *
      cases C with
      | true =>
        have e3 : Hid (R = -1) := e1.out
        go_wp2_with (go_at_call 31; refine (kC.out _ bw'.out).mono ?_; rintro e w4 ⟨h4, rfl, bw4, kp4⟩; have z1 := bw4.isBad; have bel4 : Hid (Below (w.heap.size + 1) w0 w4) := bel'.out.trans (svBelow bw'.out kp4); clear bw4)
        go_ret
        exact ⟨by rw [e3.out]; rfl, belw.out _ bel4.out⟩
      | false =>
        have e3 : Hid (R = ((MemFunc.at1 m.fns j).body.length : Int)) := e1.out
        go_wp2_with (go_at_call 31; refine (kC.out _ bw'.out).mono ?_; rintro e w4 ⟨h4, rfl, bw4, kp4⟩; have z1 := bw4.isBad; have bel4 : Hid (Below (w.heap.size + 1) w0 w4) := bel'.out.trans (svBelow bw'.out kp4); obtain ⟨_, _, _, _, _, _, _, _⟩ := r8 (hr.out.of_block (bel4.out.block w.heap.size (by omega))); obtain ⟨_, _, _⟩ := hcs.out _ (belw.out _ bel4.out); clear bw4)
        go_ret
        exact ⟨by rw [e3.out]; rfl, belw.out _ bel4.out⟩
set_option maxRecDepth 20000 in
set_option maxHeartbeats 8000000 in
theorem faultNo (w : World) (p : P) (m : M) (i : Int) (h : Rd w p m) (hs : Small m) (hf : hasF m i = false) :
    Calls Tryz.prog 8 #[.agg #[.slice p.a0 m.sigs.length p.c0, .slice p.a1 m.imps.length p.c1, .slice p.a2 m.fns.length p.c2, .int .i64 m.pages, .int .i64 m.most, .slice p.a3 m.gls.length p.c3, .slice p.a4 m.exs.length p.c4, .slice p.a5 m.dat.length p.c5], .int .i64 i] w fun e w' => e = .returned (.int .i64 (-2)) ∧ Below w.heap.size w w' := by
  have kF : Hid (∀ u : World, Below w.heap.size w u → Calls Tryz.prog 28 #[.agg #[.slice p.a0 m.sigs.length p.c0, .slice p.a1 m.imps.length p.c1, .slice p.a2 m.fns.length p.c2, .int .i64 m.pages, .int .i64 m.most, .slice p.a3 m.gls.length p.c3, .slice p.a4 m.exs.length p.c4, .slice p.a5 m.dat.length p.c5]] u fun e w' => e = .returned (.bool (formOk m)) ∧ Below u.heap.size u w') := fun u hu => FormSpec.spec_formOk u p m (h.later hu) hs
  have hr : Hid ((w.alloc (.cells #[.slice p.a0 m.sigs.length p.c0, .slice p.a1 m.imps.length p.c1, .slice p.a2 m.fns.length p.c2, .int .i64 m.pages, .int .i64 m.most, .slice p.a3 m.gls.length p.c3, .slice p.a4 m.exs.length p.c4, .slice p.a5 m.dat.length p.c5] 39)).rowIs w.heap.size 39 8 (R8 (.slice p.a0 m.sigs.length p.c0) (.slice p.a1 m.imps.length p.c1) (.slice p.a2 m.fns.length p.c2) (.int .i64 m.pages) (.int .i64 m.most) (.slice p.a3 m.gls.length p.c3) (.slice p.a4 m.exs.length p.c4) (.slice p.a5 m.dat.length p.c5))) := r8_made w (.slice p.a0 m.sigs.length p.c0) (.slice p.a1 m.imps.length p.c1) (.slice p.a2 m.fns.length p.c2) (.int .i64 m.pages) (.int .i64 m.most) (.slice p.a3 m.gls.length p.c3) (.slice p.a4 m.exs.length p.c4) (.slice p.a5 m.dat.length p.c5) 39
  have hcase : formOk m = false ∨ (formOk m = true ∧ i < 0) ∨ (formOk m = true ∧ ¬ i < 0 ∧ (m.fns.length : Int) ≤ i) := by
    unfold hasF at hf
    cases hA : formOk m with
    | false => exact .inl rfl
    | true =>
      rw [hA, Bool.true_and] at hf
      have := of_decide_eq_false (show decide (0 ≤ i ∧ i ≤ (m.fns.length : Int) - 1) = false from hf)
      by_cases hi : i < 0
      · exact .inr (.inl ⟨rfl, hi⟩)
      · exact .inr (.inr ⟨rfl, hi, by omega⟩)
  clear h hs hf
  rcases hcase with hA | ⟨hA, hi⟩ | ⟨hA, hi, hi2⟩
  · rw [hA] at kF
    clear hA
    generalize m.sigs.length = N0 at *
    generalize m.imps.length = N1 at *
    generalize m.fns.length = N2 at *
    generalize m.gls.length = N3 at *
    generalize m.exs.length = N4 at *
    generalize m.dat.length = N5 at *
    go_enter Tryz.func8, Tryz.ntmps8
    go_wp2_with (go_at_call 28; refine (kF.out _ ((Below.refl _ _).alloc (Nat.le_refl _) _)).mono ?_; rintro e w1 ⟨rfl, q1⟩; obtain ⟨_, _, _, _, _, _, _, _⟩ := r8 (row_later hr.out q1))
    go_ret
    exact ⟨rfl, belB q1⟩
  · rw [hA] at kF
    clear hA
    generalize m.sigs.length = N0 at *
    generalize m.imps.length = N1 at *
    generalize m.fns.length = N2 at *
    generalize m.gls.length = N3 at *
    generalize m.exs.length = N4 at *
    generalize m.dat.length = N5 at *
    go_enter Tryz.func8, Tryz.ntmps8
    go_wp2_with (go_at_call 28; refine (kF.out _ ((Below.refl _ _).alloc (Nat.le_refl _) _)).mono ?_; rintro e w1 ⟨rfl, q1⟩; obtain ⟨_, _, _, _, _, _, _, _⟩ := r8 (row_later hr.out q1))
    go_ret
    exact ⟨rfl, belB q1⟩
  · rw [hA] at kF
    have hd : decide (i < 0) = false := decide_eq_false hi
    clear hA
    generalize m.sigs.length = N0 at *
    generalize m.imps.length = N1 at *
    generalize m.fns.length = N2 at *
    generalize m.gls.length = N3 at *
    generalize m.exs.length = N4 at *
    generalize m.dat.length = N5 at *
    go_enter Tryz.func8, Tryz.ntmps8
    go_wp2_with (go_at_call 28; refine (kF.out _ ((Below.refl _ _).alloc (Nat.le_refl _) _)).mono ?_; rintro e w1 ⟨rfl, q1⟩; obtain ⟨_, _, _, _, _, _, _, _⟩ := r8 (row_later hr.out q1))
    go_ret
    exact ⟨rfl, belB q1⟩
theorem spec_faultAt (w : World) (p : P) (m : M) (i : Int) (h : Rd w p m) (hs : Small m) :
    Calls Tryz.prog 8 #[.agg #[.slice p.a0 m.sigs.length p.c0, .slice p.a1 m.imps.length p.c1, .slice p.a2 m.fns.length p.c2, .int .i64 m.pages, .int .i64 m.most, .slice p.a3 m.gls.length p.c3, .slice p.a4 m.exs.length p.c4, .slice p.a5 m.dat.length p.c5], .int .i64 i] w fun e w' => e = .returned (.int .i64 (faultAt m i)) ∧ Below w.heap.size w w' := by
  unfold faultAt
  cases hH : hasF m i with
  | false => exact faultNo w p m i h hs hH
  | true =>
    obtain ⟨hf, i0, i1⟩ := hasF_lt hH
    obtain ⟨j, rfl⟩ : ∃ j : Nat, i = j := ⟨i.toNat, by omega⟩
    exact faultYes w p m j h hs hf (by omega)
end Go.Proofs.YtdaffcbamnpjfaaGreatDoor.SFault
