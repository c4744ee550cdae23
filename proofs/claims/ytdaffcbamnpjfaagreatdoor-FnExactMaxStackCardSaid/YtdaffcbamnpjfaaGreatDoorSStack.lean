/-
  StackAt and MaxStack, as the specification answers them. (Written by my specstack.py.)
-/
import Derived.Test.YtdaffcbamnpjfaaGreatDoorSFault
namespace Go.Proofs.YtdaffcbamnpjfaaGreatDoor.SStack
open Go.RowKit PlainOps NameCalls PlainNum NumCalls InsCalls InsImpl PlainShape InsMem ShapeCalls FormCalls ModMem FormImpl PlainValid ValidCtx ValidStep ValidNext ValidWalk ValidHeights ValidFace ValidMax Piles Walks SPiles SWalks SIns SHas SFlow SStep SBegin SFault

theorem svGrown {B q : Nat} {w w' : World} {F : Nat → Value} {h : Int} {v : Value} {bad : Bool} {st : List Fr} {r : Option Nat} (b : SV B w q F h v bad st) (hg : w.grownBy w' r) (h1 : some q ≠ r) (h2 : ∀ k, v.ownBlock = some k → some k ≠ r) : SV B w' q F h v bad st := by
  refine ⟨b.box.of_block (hg.block q b.lt h1), ⟨b.own.1, ?_⟩, b.ne, b.le⟩
  rcases b.own.2 with h0 | ⟨g, cap, cur, hv, hgB, hh, rest⟩
  · exact .inl h0
  · exact .inr ⟨g, cap, cur, hv, hgB, (hg.block g (Array.getElem?_eq_some_iff.1 hh).1 (h2 g (by rw [hv]; rfl))).trans hh, rest⟩
set_option maxRecDepth 20000 in
set_option maxHeartbeats 16000000 in
theorem stackYes (w : World) (p : P) (m : M) (j : Nat) (L : List Int) (h : Rd w p m) (hs : Small m) (hH : hasF m (j : Int) = true) (hL : bodyOf m j = (L, -1)) :
    Calls Tryz.prog 14 #[.agg #[.slice p.a0 m.sigs.length p.c0, .slice p.a1 m.imps.length p.c1, .slice p.a2 m.fns.length p.c2, .int .i64 m.pages, .int .i64 m.most, .slice p.a3 m.gls.length p.c3, .slice p.a4 m.exs.length p.c4, .slice p.a5 m.dat.length p.c5], .int .i64 (j : Int)] w fun e w' => (∃ v, e = .returned (.tuple #[v, .bool true]) ∧ OwnS w.heap.size w' v L) ∧ Below w.heap.size w w' := by
  obtain ⟨i0, hi, hz0, hz1, hz2⟩ := info_parts info3
  obtain ⟨hf, _, hjj⟩ := hasF_lt hH
  have hj : j < m.fns.length := by omega
  have f := facts hf
  obtain ⟨f0, f1, f2, f3, f4⟩ := f.fn j hj
  have hC : Hid (OkC (ctxOf m (MemFunc.at1 m.fns j).sig (MemFunc.at1 m.fns j).loc)) := okC f f0 f1
  obtain ⟨b, off, ha, _, _, _⟩ := fn_cells h hj
  have kF : Hid (∀ u : World, Below w.heap.size w u → Calls Tryz.prog 8 #[.agg #[.slice p.a0 m.sigs.length p.c0, .slice p.a1 m.imps.length p.c1, .slice p.a2 m.fns.length p.c2, .int .i64 m.pages, .int .i64 m.most, .slice p.a3 m.gls.length p.c3, .slice p.a4 m.exs.length p.c4, .slice p.a5 m.dat.length p.c5], .int .i64 (j : Int)] u fun e w' => e = .returned (.int .i64 (-1)) ∧ Below u.heap.size u w') := fun u hu => by
    have := spec_faultAt u p m (j : Int) (h.later hu) hs
    rw [show faultAt m (j : Int) = -1 by unfold faultAt; rw [if_pos hH, show ((j : Int)).toNat = j by omega, hL]] at this
    exact this
  have kB : Hid (∀ u : World, Below w.heap.size w u → Calls Tryz.prog 29 #[.agg #[.slice p.a0 m.sigs.length p.c0, .slice p.a1 m.imps.length p.c1, .slice p.a2 m.fns.length p.c2, .int .i64 m.pages, .int .i64 m.most, .slice p.a3 m.gls.length p.c3, .slice p.a4 m.exs.length p.c4, .slice p.a5 m.dat.length p.c5], .int .i64 (j : Int)] u fun e w' => ∃ q g cap, e = .returned (.pointer (some ⟨q, 0, none⟩)) ∧ SV u.heap.size w' q (sF p m (ctxOf m (MemFunc.at1 m.fns j).sig (MemFunc.at1 m.fns j).loc).loc) 0 (.slice (some ⟨g, 0, none⟩) 1 cap) false [⟨2, (ctxOf m (MemFunc.at1 m.fns j).sig (MemFunc.at1 m.fns j).loc).own, 0, false⟩] ∧ Below u.heap.size u w') := fun u hu => SBegin.begin' p m j u (h.later hu) f hj
  have hbo : Hid (boOk (MemFunc.at1 m.fns j).body = true) := f4
  have hl : (MemFunc.at1 m.fns j).body.length ≤ 1500 := by
    unfold boOk at f4
    simp only [Bool.and_eq_true] at f4
    exact of_decide_eq_true f4.1
  have hr : Hid ((w.alloc (.cells #[.slice p.a0 m.sigs.length p.c0, .slice p.a1 m.imps.length p.c1, .slice p.a2 m.fns.length p.c2, .int .i64 m.pages, .int .i64 m.most, .slice p.a3 m.gls.length p.c3, .slice p.a4 m.exs.length p.c4, .slice p.a5 m.dat.length p.c5] 39)).rowIs w.heap.size 39 8 (R8 (.slice p.a0 m.sigs.length p.c0) (.slice p.a1 m.imps.length p.c1) (.slice p.a2 m.fns.length p.c2) (.int .i64 m.pages) (.int .i64 m.most) (.slice p.a3 m.gls.length p.c3) (.slice p.a4 m.exs.length p.c4) (.slice p.a5 m.dat.length p.c5))) := r8_made w (.slice p.a0 m.sigs.length p.c0) (.slice p.a1 m.imps.length p.c1) (.slice p.a2 m.fns.length p.c2) (.int .i64 m.pages) (.int .i64 m.most) (.slice p.a3 m.gls.length p.c3) (.slice p.a4 m.exs.length p.c4) (.slice p.a5 m.dat.length p.c5) 39
  have hcs : Hid (∀ u : World, Below w.heap.size w u → u.cell? ⟨b, off + j * 3 + 2, none⟩ = some (.slice (MemFunc.at1 m.fns j).ad (MemFunc.at1 m.fns j).body.length (MemFunc.at1 m.fns j).cp) ∧ RdI u (MemFunc.at1 m.fns j).ad (MemFunc.at1 m.fns j).body ∧ Rd u p m) := fun u hu => by
    have hr2 := h.later hu
    refine ⟨?_, ?_, hr2⟩
    · obtain ⟨b', off', ha', _, _, z⟩ := fn_cells hr2 hj
      rw [ha] at ha'
      simp only [Option.some.injEq, Addr.mk.injEq, and_true] at ha'
      obtain ⟨rfl, rfl⟩ := ha'
      exact z
    · obtain ⟨_, _, hF, _⟩ := hr2
      rcases hF with h0 | ⟨_, _, _, hc⟩
      · omega
      · exact (hc j hj).2.2.2
  have hsh : Hid (shpF (MemFunc.at1 m.fns j).body (MemFunc.at1 m.fns j).body.length 0 [] = true) := by
    have := hbo.out
    unfold boOk at this
    simp only [Bool.and_eq_true] at this
    exact this.2.2
  have hins : Hid (∀ k, k < (MemFunc.at1 m.fns j).body.length → InsF (oAt (MemFunc.at1 m.fns j).body k) (aAt (MemFunc.at1 m.fns j).body k)) := fun k hk => by
    have := hbo.out
    unfold boOk at this
    simp only [Bool.and_eq_true] at this
    exact insF (allF_at _ 0 this.2.1 k (by omega) (by omega))
  have hR' : Hid (walk (ctxOf m (MemFunc.at1 m.fns j).sig (MemFunc.at1 m.fns j).loc) (MemFunc.at1 m.fns j).body (MemFunc.at1 m.fns j).body.length 0 (PlainValid.start (ctxOf m (MemFunc.at1 m.fns j).sig (MemFunc.at1 m.fns j).loc)) [] = (L, -1)) := hL
  have hff : Hid (Facts m ∧ 0 ≤ (MemFunc.at1 m.fns j).sig ∧ (MemFunc.at1 m.fns j).sig < m.sigs.length) := ⟨f, f0, f1⟩
  have hj' : (j : Int) < (m.fns.length : Int) := by omega
  have hsz2 := hs.n2
  rw [ha] at kF kB hr ⊢
  clear hL h hf f f0 f1 f2 f3 f4 hs hj hH hjj
  go_enter Tryz.func14, Tryz.ntmps14
  go_wp2_with (first | (go_at_call 8; refine (kF.out _ ((Below.refl _ _).alloc (Nat.le_refl _) _)).mono ?_; rintro e w1 ⟨rfl, q1⟩; obtain ⟨_, _, _, _, _, _, _, _⟩ := r8 (row_later hr.out q1); have x1 : Hid (Below w.heap.size w w1) := belB q1) | (go_at_call 29; refine (kB.out _ x1.out).mono ?_; rintro e w2 ⟨q, g1, cap1, rfl, b2, q2⟩; have y2 : Hid (Below ((w.alloc (.cells #[.slice p.a0 m.sigs.length p.c0, .slice p.a1 m.imps.length p.c1, .slice (some ⟨b, off, none⟩) m.fns.length p.c2, .int .i64 m.pages, .int .i64 m.most, .slice p.a3 m.gls.length p.c3, .slice p.a4 m.exs.length p.c4, .slice p.a5 m.dat.length p.c5] 39))).heap.size ((w.alloc (.cells #[.slice p.a0 m.sigs.length p.c0, .slice p.a1 m.imps.length p.c1, .slice (some ⟨b, off, none⟩) m.fns.length p.c2, .int .i64 m.pages, .int .i64 m.most, .slice p.a3 m.gls.length p.c3, .slice p.a4 m.exs.length p.c4, .slice p.a5 m.dat.length p.c5] 39))) w2) := q1.trans (q2.mono q1.size); obtain ⟨_, _, _, _, _, _, _, _⟩ := r8 (row_later hr.out y2.out); obtain ⟨_, _, _⟩ := hcs.out _ (belB y2.out); have b2' : Hid (SV (w.heap.size + 1) w2 q (sF p m (ctxOf m (MemFunc.at1 m.fns j).sig (MemFunc.at1 m.fns j).loc).loc) 0 (.slice (some ⟨g1, 0, none⟩) 1 cap1) false [⟨2, (ctxOf m (MemFunc.at1 m.fns j).sig (MemFunc.at1 m.fns j).loc).own, 0, false⟩]) := svLow b2 (by have := q1.size; simp only [World.size_alloc] at this; exact this); have hqw2 := b2.lt; have hgw2 := World.block_lt_of_cell? w2 _ (b2.cells 0 (by simp)).1; have hbw2 : b < w2.heap.size := World.block_lt_of_cell? w2 _ (hcs.out _ (belB y2.out)).1; have hww2 : w.heap.size < w2.heap.size := (by have := y2.out.size; simp only [World.size_alloc] at this; omega); clear b2))
  go_loopw [7, 25] (fun vl vk wr => ∃ (k f : Nat) (acc : List Int) (h : Int) (v : Value) (st : List Fr) (sh : List Int), k + f = (MemFunc.at1 m.fns j).body.length ∧ vk = .int .i64 k ∧ OwnS (q + 1) wr vl acc ∧ acc.length = k ∧ SV (w.heap.size + 1) wr q (sF p m (ctxOf m (MemFunc.at1 m.fns j).sig (MemFunc.at1 m.fns j).loc).loc) h v false st ∧ (∀ ga, vl.ownBlock = some ga → v.ownBlock ≠ some ga) ∧ Bnd k (h, st) ∧ shpF (MemFunc.at1 m.fns j).body f k sh = true ∧ sh.length + 1 = st.length ∧ st.length ≤ k + 1 ∧ (st.getD 0 dF).res = (ctxOf m (MemFunc.at1 m.fns j).sig (MemFunc.at1 m.fns j).loc).own ∧ walk (ctxOf m (MemFunc.at1 m.fns j).sig (MemFunc.at1 m.fns j).loc) (MemFunc.at1 m.fns j).body f k (h, st) acc = (L, -1) ∧ Below (w.heap.size + 1) (w.alloc (.cells #[.slice p.a0 m.sigs.length p.c0, .slice p.a1 m.imps.length p.c1, .slice (some ⟨b, off, none⟩) m.fns.length p.c2, .int .i64 m.pages, .int .i64 m.most, .slice p.a3 m.gls.length p.c3, .slice p.a4 m.exs.length p.c4, .slice p.a5 m.dat.length p.c5] 39)) wr) (fun _ vk _ => (MemFunc.at1 m.fns j).body.length - (intOf vk).toNat)
  case atStart => exact ⟨0, (MemFunc.at1 m.fns j).body.length, [], 0, _, _, [], by omega, rfl, World.ownsRow_made w2 #[] 0 (by omega) (by decide) rfl, rfl, b2'.out.alloc _, fun ga e => by simp [Value.ownBlock] at e ⊢; omega, start_bnd hC.out, hsh.out, rfl, by simp, rfl, hR'.out, (y2.out.mono (by simp)).alloc (by omega) _⟩
  case round =>
    obtain ⟨k, f, acc, h, v, st, sh, hk, rfl, own, hacc, bw, hsep, hB, hsh1, hst, hle, hres, hw, bel⟩ := hrel
    obtain ⟨av, cv', hv⟩ := own.form0
    rw [hacc] at hv
    subst hv
    generalize hWF : (w.alloc (.cells #[.slice p.a0 m.sigs.length p.c0, .slice p.a1 m.imps.length p.c1, .slice (some ⟨b, off, none⟩) m.fns.length p.c2, .int .i64 m.pages, .int .i64 m.most, .slice p.a3 m.gls.length p.c3, .slice p.a4 m.exs.length p.c4, .slice p.a5 m.dat.length p.c5] 39)) = w0 at *
    have hw0s : w0.heap.size = w.heap.size + 1 := by rw [← hWF]; simp
    have hbx0 : Hid (Below w.heap.size w w0) := by rw [← hWF]; exact (Below.refl _ _).alloc (Nat.le_refl _) _
    clear hWF b2' hR' hsh y2
    have hw' : Hid (walk (ctxOf m (MemFunc.at1 m.fns j).sig (MemFunc.at1 m.fns j).loc) (MemFunc.at1 m.fns j).body f k (h, st) acc = (L, -1)) := hw
    have own' : Hid (wr.ownsRow (q + 1) 3 1 (.slice av k cv') k (acc.map fun z => .int .i64 z)) := by have := own; unfold OwnS at this; rw [hacc] at this; exact this
    have hacc' : Hid (acc.length = k) := hacc
    have bw' : Hid (SV (w.heap.size + 1) wr q (sF p m (ctxOf m (MemFunc.at1 m.fns j).sig (MemFunc.at1 m.fns j).loc).loc) h v false st) := bw
    have hsep' : Hid (∀ ga, (Value.slice av k cv').ownBlock = some ga → v.ownBlock ≠ some ga) := hsep
    have hB' : Hid (Bnd k (h, st)) := hB
    have bel' : Hid (Below (w.heap.size + 1) w0 wr) := bel
    have hres' : Hid ((st.getD 0 dF).res = (ctxOf m (MemFunc.at1 m.fns j).sig (MemFunc.at1 m.fns j).loc).own) := hres
    have hsz : w.heap.size + 1 ≤ wr.heap.size := by have := bel.size; omega
    have belw : Hid (∀ u : World, Below (w.heap.size + 1) w0 u → Below w.heap.size w u) := fun u hu => hbx0.out.trans (hu.mono (by omega))
    obtain ⟨n, hn⟩ : ∃ n, st.length = n + 1 := ⟨st.length - 1, by omega⟩
    obtain ⟨g, cap, hv, hqg, hgw, hcap⟩ := bw.form (by omega)
    rw [hn] at hv
    subst hv
    have hqw := bw.lt
    clear hw hB hres hsep hqw2 hgw2 hbw2 hww2
    by_cases hlt : k < (MemFunc.at1 m.fns j).body.length
    · have hlt' : (k : Int) < ((MemFunc.at1 m.fns j).body.length : Int) := by omega
      obtain ⟨f, rfl⟩ : ∃ i, f = i + 1 := ⟨f - 1, by omega⟩
      rcases (hcs.out _ (belw.out _ bel)).2.1 with h0 | ⟨bb, offb, hab, hc⟩
      · omega
      · obtain ⟨c0, c1, c2⟩ := hc k hlt
        have hbb : bb < wr.heap.size := World.block_lt_of_cell? wr _ c0
        have hIns := hins.out k hlt
        obtain ⟨s', hse⟩ : ∃ s', PlainValid.step (ctxOf m (MemFunc.at1 m.fns j).sig (MemFunc.at1 m.fns j).loc) (oAt (MemFunc.at1 m.fns j).body k) (aAt (MemFunc.at1 m.fns j).body k) (h, st) = some s' := by
          cases e : PlainValid.step (ctxOf m (MemFunc.at1 m.fns j).sig (MemFunc.at1 m.fns j).loc) (oAt (MemFunc.at1 m.fns j).body k) (aAt (MemFunc.at1 m.fns j).body k) (h, st) with
          | some s' => exact ⟨s', rfl⟩
          | none =>
            have := hw'.out
            rw [walk_no e] at this
            simp at this
        obtain ⟨h', st'⟩ := s'
        have hWn : Hid (walk (ctxOf m (MemFunc.at1 m.fns j).sig (MemFunc.at1 m.fns j).loc) (MemFunc.at1 m.fns j).body f (k + 1) (h', st') (acc ++ [PlainValid.told (h, st)]) = (L, -1)) := by show _ = _; rw [← walk_yes hse]; exact hw'.out
        obtain ⟨sh', hs1, hs2, hs3⟩ := shape_next hsh1
        have h11 : oAt (MemFunc.at1 m.fns j).body k = 11 → 2 ≤ st.length := fun e => by have := hs3 e; omega
        obtain ⟨nx1, nx2⟩ := step_next hC.out hIns hB'.out (by show st.length ≠ 0; omega) hse
        have nx3 := (step_own (by show st.length ≠ 0; omega) h11 hse).trans hres'.out
        have hNx : Hid (Bnd (k + 1) (h', st') ∧ st'.length = nOpen (oAt (MemFunc.at1 m.fns j).body k) st.length ∧ (st'.getD 0 dF).res = (ctxOf m (MemFunc.at1 m.fns j).sig (MemFunc.at1 m.fns j).loc).own) := ⟨nx1, nx2, nx3⟩
        have hSh : Hid (shpF (MemFunc.at1 m.fns j).body f (k + 1) sh' = true ∧ sh'.length + 1 = nOpen (oAt (MemFunc.at1 m.fns j).body k) st.length) := ⟨hs1, by rw [hs2, hst]⟩
        have kSt : Hid (∀ (u : World) (b0 : Int), SV (w.heap.size + 1) u q (sF p m (ctxOf m (MemFunc.at1 m.fns j).sig (MemFunc.at1 m.fns j).loc).loc) h (.slice (some ⟨g, 0, none⟩) (n + 1) cap) false st → Below (w.heap.size + 1) w0 u → Calls Tryz.prog 30 #[.pointer (some ⟨q, 0, none⟩), .agg #[.int .i64 (oAt (MemFunc.at1 m.fns j).body k), .int .i64 (aAt (MemFunc.at1 m.fns j).body k), .int .i64 b0]] u fun e w' => e = .returned (.tuple #[]) ∧ ∃ v4, SV (w.heap.size + 1) w' q (sF p m (ctxOf m (MemFunc.at1 m.fns j).sig (MemFunc.at1 m.fns j).loc).loc) h' v4 false st' ∧ Kp q u w' (.slice (some ⟨g, 0, none⟩) (n + 1) cap) v4) := fun u b0 hu hb => by
          have := stepS (w.heap.size + 1) q g n cap u p m (MemFunc.at1 m.fns j).sig (MemFunc.at1 m.fns j).loc h st _ _ b0 ⟨hu, (hcs.out u (belw.out u hb)).2.2, hff.out.1, hff.out.2.1, hff.out.2.2, by omega, hIns⟩ (hB'.out.mono (by omega)) hres'.out
          rw [hse] at this
          refine this.mono fun e w' ⟨z1, bad, h4, v4, st4, z2, z3, z4⟩ => ⟨z1, v4, ?_⟩
          cases bad with
          | false =>
            simp only [if_true, Option.some.injEq, Prod.mk.injEq] at z4
            obtain ⟨rfl, rfl⟩ := z4
            exact ⟨z2, z3⟩
          | true => simp at z4
        have htd : Hid (PlainValid.told (h, st) = if (st.getD n dF).dead = true then -1 else h) := by show _ = _; unfold PlainValid.told; rw [SFlow.top_is hn.symm]
        have lts := World.ownsRow.lt own'.out
        have hpile := bw.pile
        have hhgt := bw.hgt
        obtain ⟨d0, d1, d2, d3⟩ := bw.cells n (by omega)
        rw [hab]
        clear hc hw' hsh1 hs1 hs2 hs3 hst hIns bel own bw hacc h11 nx1 nx2 nx3 hse d0 d1 d2
        rw [htd.out] at hWn
        clear htd
        generalize oAt (MemFunc.at1 m.fns j).body k = o at *
        generalize aAt (MemFunc.at1 m.fns j).body k = i at *
        generalize bAt (MemFunc.at1 m.fns j).body k = b0 at *
        generalize (st.getD n dF).dead = fd at *
        have fin : Hid (∀ (nq : Nat) (tt : Int) (v' : Value) (w3 : World), w3.ownsRow (q + 1) 3 1 v' (k + 1) ((acc.map fun z => .int .i64 z) ++ [.int .i64 tt]) → (((wr.alloc (.cells #[.int .i64 o, .int .i64 i, .int .i64 b0] 62)).drewN nq).alloc (.cells #[.int .i64 tt] 3)).grownBy w3 (Value.slice av k cv').ownBlock → (v'.ownBlock = (Value.slice av k cv').ownBlock ∨ v'.ownBlock = some (wr.heap.size + 1 + 1)) → OwnS (q + 1) w3 v' (acc ++ [tt]) ∧ SV (w.heap.size + 1) w3 q (sF p m (ctxOf m (MemFunc.at1 m.fns j).sig (MemFunc.at1 m.fns j).loc).loc) h (.slice (some ⟨g, 0, none⟩) (n + 1) cap) false st ∧ (w3.cell? ⟨wr.heap.size, 0, none⟩ = some (.int .i64 o) ∧ w3.cell? ⟨wr.heap.size, 1, none⟩ = some (.int .i64 i) ∧ w3.cell? ⟨wr.heap.size, 2, none⟩ = some (.int .i64 b0)) ∧ Below (w.heap.size + 1) w0 w3 ∧ (∀ ga, v'.ownBlock = some ga → (Value.slice (some ⟨g, 0, none⟩) (n + 1) cap).ownBlock ≠ some ga) ∧ (∀ ga, v'.ownBlock = some ga → q + 1 ≤ ga ∧ ga < w3.heap.size) ∧ (∃ av3 cv3, v' = .slice av3 (k + 1) cv3)) := fun nq tt v' w3 hown1 hgrow hat => by
          have own3 : OwnS (q + 1) w3 v' (acc ++ [tt]) := own_snoc (by rw [hacc'.out]; exact hown1)
          refine ⟨own3, svGrown (((bw'.out.alloc (.cells #[.int .i64 o, .int .i64 i, .int .i64 b0] 62)).drewN nq).alloc (.cells #[.int .i64 tt] 3)) hgrow (fun e => by have := (lts q e.symm).1; omega) (fun k' e e' => hsep'.out k' e'.symm e), ?_, (((bel'.out.alloc hsz (.cells #[.int .i64 o, .int .i64 i, .int .i64 b0] 62)).trans ((below_dn _ nq).mono (by simp; omega))).alloc (by simp; omega) (.cells #[.int .i64 tt] 3)).grown hgrow (by simp; omega) (fun k' e => by have := (lts k' e).1; have := bw'.out.le; omega), ?_, World.ownsRow.lt own3, ?_⟩
          · refine ⟨?_, ?_, ?_⟩ <;> rw [grown_cell hgrow (by simp; omega) (fun e => by have := (lts _ e).2; omega)] <;> exact oldCell _ _ _ _ _ _ (by simp)
          · intro ga e
            rcases hat with z | z
            · exact hsep'.out ga (z.symm.trans e)
            · intro e2
              have := ownB_eq e2
              have h3 : ga = wr.heap.size + 1 + 1 := by rw [z] at e; injection e with e; exact e.symm
              omega
          · obtain ⟨av3, cv3, hv3⟩ := OwnS.form0 own3
            rw [List.length_append, List.length_singleton, hacc'.out] at hv3
            exact ⟨av3, cv3, hv3⟩
        cases fd with
        | true =>
          go_wp2_with fail
          go_quiet (fail)
          go_wp2_with (at_builtin; refine wpList_append_own_at _ rfl _ _ 45 rfl (q + 1) 3 i0 (.int .i64 0) 1 8 Tryz.underlying45 hi hz0 hz1 hz2 rfl (by decide) _ _ _ rfl (World.ownsRow.alloc (show ((wr.alloc (.cells #[.int .i64 o, .int .i64 i, .int .i64 b0] 62)).drewN nq).ownsRow (q + 1) 3 1 _ _ _ from World.ownsRow.alloc own'.out _) _) ⟨wr.heap.size + 1, 0, none⟩ 1 1 [Value.int .i64 (-1)] rfl rfl ?c1 ?c2 ?c3 ?c4 ?c5 ?_)
          case c1 =>
            intro j u hj
            match j, hj with
            | 0, hj => simp at hj; subst hj; exact newCell _ _ _ _ _
          case c2 => intro u hu; simp at hu; subst hu; rfl
          case c3 => unfold maxLen; omega
          case c4 => omega
          case c5 => simp; omega
          intro v' w3 hown1 hgrow _ hat
          obtain ⟨own3, bw3, ⟨ci0, ci1, ci2⟩, bel3, sep3, lt3, av3, cv3, rfl⟩ := fin.out _ _ _ _ hown1 hgrow hat
          have own3' : Hid (OwnS (q + 1) w3 (.slice av3 (k + 1) cv3) (acc ++ [-1])) := own3
          have bw3' : Hid (SV (w.heap.size + 1) w3 q (sF p m (ctxOf m (MemFunc.at1 m.fns j).sig (MemFunc.at1 m.fns j).loc).loc) h (.slice (some ⟨g, 0, none⟩) (n + 1) cap) false st) := bw3
          have bel3' : Hid (Below (w.heap.size + 1) w0 w3) := bel3
          have sep3' : Hid (∀ ga, (Value.slice av3 (k + 1) cv3).ownBlock = some ga → (Value.slice (some ⟨g, 0, none⟩) (n + 1) cap).ownBlock ≠ some ga) := sep3
          have lt3' : Hid (∀ ga, (Value.slice av3 (k + 1) cv3).ownBlock = some ga → q + 1 ≤ ga ∧ ga < w3.heap.size) := lt3
          clear hown1 hgrow hat own3 bw3 bel3 sep3 lt3
          go_wp2_with (go_at_call 30; refine (kSt.out _ _ bw3'.out bel3'.out).mono ?_; rintro e w4 ⟨rfl, v4, bw4, kp4⟩; have bw4' : Hid (SV (w.heap.size + 1) w4 q (sF p m (ctxOf m (MemFunc.at1 m.fns j).sig (MemFunc.at1 m.fns j).loc).loc) h' v4 false st') := bw4; have kp4' : Hid (Kp q w3 w4 (.slice (some ⟨g, 0, none⟩) (n + 1) cap) v4) := kp4; clear bw4 kp4)
          go_roundw
          case rel => exact ⟨k + 1, f, acc ++ [-1], h', v4, st', sh', by omega, by go_num, ownKp own3'.out kp4'.out (by omega) sep3'.out, by rw [List.length_append, List.length_singleton, hacc'.out], bw4'.out, sepKp kp4'.out (fun ga e => (lt3'.out ga e).2) sep3'.out, hNx.out.1, hSh.out.1, by rw [hSh.out.2]; exact hNx.out.2.1.symm, by rw [hNx.out.2.1]; unfold nOpen; split <;> (try split) <;> omega, hNx.out.2.2, hWn.out, bel3'.out.trans (svBelow bw3'.out kp4'.out)⟩
          case measure => simp [intOf]; omega
        | false =>
          go_wp2_with fail
          go_quiet (fail)
          go_wp2_with (at_builtin; refine wpList_append_own_at _ rfl _ _ 45 rfl (q + 1) 3 i0 (.int .i64 0) 1 8 Tryz.underlying45 hi hz0 hz1 hz2 rfl (by decide) _ _ _ rfl (World.ownsRow.alloc (show ((wr.alloc (.cells #[.int .i64 o, .int .i64 i, .int .i64 b0] 62)).drewN nq).ownsRow (q + 1) 3 1 _ _ _ from World.ownsRow.alloc own'.out _) _) ⟨wr.heap.size + 1, 0, none⟩ 1 1 [Value.int .i64 h] rfl rfl ?c1 ?c2 ?c3 ?c4 ?c5 ?_)
          case c1 =>
            intro j u hj
            match j, hj with
            | 0, hj => simp at hj; subst hj; exact newCell _ _ _ _ _
          case c2 => intro u hu; simp at hu; subst hu; rfl
          case c3 => unfold maxLen; omega
          case c4 => omega
          case c5 => simp; omega
          intro v' w3 hown1 hgrow _ hat
          obtain ⟨own3, bw3, ⟨ci0, ci1, ci2⟩, bel3, sep3, lt3, av3, cv3, rfl⟩ := fin.out _ _ _ _ hown1 hgrow hat
          have own3' : Hid (OwnS (q + 1) w3 (.slice av3 (k + 1) cv3) (acc ++ [h])) := own3
          have bw3' : Hid (SV (w.heap.size + 1) w3 q (sF p m (ctxOf m (MemFunc.at1 m.fns j).sig (MemFunc.at1 m.fns j).loc).loc) h (.slice (some ⟨g, 0, none⟩) (n + 1) cap) false st) := bw3
          have bel3' : Hid (Below (w.heap.size + 1) w0 w3) := bel3
          have sep3' : Hid (∀ ga, (Value.slice av3 (k + 1) cv3).ownBlock = some ga → (Value.slice (some ⟨g, 0, none⟩) (n + 1) cap).ownBlock ≠ some ga) := sep3
          have lt3' : Hid (∀ ga, (Value.slice av3 (k + 1) cv3).ownBlock = some ga → q + 1 ≤ ga ∧ ga < w3.heap.size) := lt3
          clear hown1 hgrow hat own3 bw3 bel3 sep3 lt3
          go_wp2_with (go_at_call 30; refine (kSt.out _ _ bw3'.out bel3'.out).mono ?_; rintro e w4 ⟨rfl, v4, bw4, kp4⟩; have bw4' : Hid (SV (w.heap.size + 1) w4 q (sF p m (ctxOf m (MemFunc.at1 m.fns j).sig (MemFunc.at1 m.fns j).loc).loc) h' v4 false st') := bw4; have kp4' : Hid (Kp q w3 w4 (.slice (some ⟨g, 0, none⟩) (n + 1) cap) v4) := kp4; clear bw4 kp4)
          go_roundw
          case rel => exact ⟨k + 1, f, acc ++ [h], h', v4, st', sh', by omega, by go_num, ownKp own3'.out kp4'.out (by omega) sep3'.out, by rw [List.length_append, List.length_singleton, hacc'.out], bw4'.out, sepKp kp4'.out (fun ga e => (lt3'.out ga e).2) sep3'.out, hNx.out.1, hSh.out.1, by rw [hSh.out.2]; exact hNx.out.2.1.symm, by rw [hNx.out.2.1]; unfold nOpen; split <;> (try split) <;> omega, hNx.out.2.2, hWn.out, bel3'.out.trans (svBelow bw3'.out kp4'.out)⟩
          case measure => simp [intOf]; omega
    · obtain rfl : k = (MemFunc.at1 m.fns j).body.length := by omega
      obtain rfl : f = 0 := by omega
      have e1 : Hid (acc = L) := by
        have := hw'.out
        rw [walk] at this
        split at this <;> simp at this
        · exact this
      have ownL : Hid (OwnS w.heap.size wr (.slice av (MemFunc.at1 m.fns j).body.length cv') L) := by
        rw [← e1.out]
        exact ownLow own (by have := bw'.out.le; omega)
      clear own bw hsh1 hst hle bel hw' hB'
      go_wp2_with fail
      go_ret2
      exact ⟨⟨_, rfl, ownL.out⟩, belw.out _ bel'.out⟩
set_option maxRecDepth 20000 in
set_option maxHeartbeats 8000000 in
theorem spec_stackAt (w : World) (p : P) (m : M) (i : Int) (h : Rd w p m) (hs : Small m) :
    Calls Tryz.prog 14 #[.agg #[.slice p.a0 m.sigs.length p.c0, .slice p.a1 m.imps.length p.c1, .slice p.a2 m.fns.length p.c2, .int .i64 m.pages, .int .i64 m.most, .slice p.a3 m.gls.length p.c3, .slice p.a4 m.exs.length p.c4, .slice p.a5 m.dat.length p.c5], .int .i64 i] w fun e w' => (match stackAt m i with
    | none => e = .returned (.tuple #[.slice none 0 0, .bool false])
    | some l => ∃ v, e = .returned (.tuple #[v, .bool true]) ∧ OwnS w.heap.size w' v l) ∧ Below w.heap.size w w' := by
  by_cases hF : faultAt m i = -1
  · have e1 : stackAt m i = some (bodyOf m i.toNat).1 := by unfold stackAt; rw [if_pos hF]
    rw [e1]
    have hH : hasF m i = true := by
      cases hH : hasF m i with
      | true => rfl
      | false => unfold faultAt at hF; rw [hH] at hF; simp at hF
    obtain ⟨_, i0, i1⟩ := hasF_lt hH
    obtain ⟨j, rfl⟩ : ∃ j : Nat, i = j := ⟨i.toNat, by omega⟩
    have hb : (bodyOf m j).2 = -1 := by unfold faultAt at hF; rw [if_pos hH] at hF; exact hF
    exact stackYes w p m j (bodyOf m j).1 h hs hH (by rw [← hb])
  · have e1 : stackAt m i = none := by unfold stackAt; rw [if_neg hF]
    rw [e1]
    have kF : Hid (∀ u : World, Below w.heap.size w u → Calls Tryz.prog 8 #[.agg #[.slice p.a0 m.sigs.length p.c0, .slice p.a1 m.imps.length p.c1, .slice p.a2 m.fns.length p.c2, .int .i64 m.pages, .int .i64 m.most, .slice p.a3 m.gls.length p.c3, .slice p.a4 m.exs.length p.c4, .slice p.a5 m.dat.length p.c5], .int .i64 i] u fun e w' => e = .returned (.int .i64 (faultAt m i)) ∧ Below u.heap.size u w') := fun u hu => spec_faultAt u p m i (h.later hu) hs
    clear h hs e1
    generalize faultAt m i = R at *
    have hR1 : (R == -1) = false := by simpa using hF
    have hR2 : (R != -1) = true := by simpa using hF
    clear hF
    generalize m.sigs.length = N0 at *
    generalize m.imps.length = N1 at *
    generalize m.fns.length = N2 at *
    generalize m.gls.length = N3 at *
    generalize m.exs.length = N4 at *
    generalize m.dat.length = N5 at *
    go_enter Tryz.func14, Tryz.ntmps14
    go_wp2_with (go_at_call 8; refine (kF.out _ ((Below.refl _ _).alloc (Nat.le_refl _) _)).mono ?_; rintro e w1 ⟨rfl, q1⟩)
    go_ret2
    exact ⟨rfl, belB q1⟩
set_option maxRecDepth 20000 in
set_option maxHeartbeats 8000000 in
theorem spec_maxStack (w : World) (p : P) (m : M) (i : Int) (h : Rd w p m) (hs : Small m) :
    Calls Tryz.prog 20 #[.agg #[.slice p.a0 m.sigs.length p.c0, .slice p.a1 m.imps.length p.c1, .slice p.a2 m.fns.length p.c2, .int .i64 m.pages, .int .i64 m.most, .slice p.a3 m.gls.length p.c3, .slice p.a4 m.exs.length p.c4, .slice p.a5 m.dat.length p.c5], .int .i64 i] w fun e w' => e = .returned (.int .i64 (maxStack m i)) ∧ Below w.heap.size w w' := by
  have kS : Hid (∀ u : World, Below w.heap.size w u → Calls Tryz.prog 14 #[.agg #[.slice p.a0 m.sigs.length p.c0, .slice p.a1 m.imps.length p.c1, .slice p.a2 m.fns.length p.c2, .int .i64 m.pages, .int .i64 m.most, .slice p.a3 m.gls.length p.c3, .slice p.a4 m.exs.length p.c4, .slice p.a5 m.dat.length p.c5], .int .i64 i] u fun e w' => (match stackAt m i with
    | none => e = .returned (.tuple #[.slice none 0 0, .bool false])
    | some l => ∃ v, e = .returned (.tuple #[v, .bool true]) ∧ OwnS u.heap.size w' v l) ∧ Below u.heap.size u w') := fun u hu => spec_stackAt u p m i (h.later hu) hs
  clear h hs
  cases hS : stackAt m i with
  | none =>
    rw [hS] at kS
    have e1 : Hid (maxStack m i = -1) := by show _ = _; unfold maxStack; rw [hS]
    rw [e1.out]
    clear hS e1
    generalize m.sigs.length = N0 at *
    generalize m.imps.length = N1 at *
    generalize m.fns.length = N2 at *
    generalize m.gls.length = N3 at *
    generalize m.exs.length = N4 at *
    generalize m.dat.length = N5 at *
    go_enter Tryz.func20, Tryz.ntmps20
    go_wp2_with (go_at_call 14; refine (kS.out _ ((Below.refl _ _).alloc (Nat.le_refl _) _)).mono ?_; rintro e w1 ⟨rfl, q1⟩)
    go_ret
    exact ⟨rfl, belB q1⟩
  | some l =>
    rw [hS] at kS
    have hl := stack_len hS
    obtain ⟨R, hR⟩ : ∃ R, maxL l 0 = R := ⟨_, rfl⟩
    have e1 : Hid (maxStack m i = R) := by show _ = _; unfold maxStack; rw [hS]; exact hR
    have hR' : Hid (maxL (l.drop 0) 0 = R) := hR
    rw [e1.out]
    clear hS e1 hR
    generalize m.sigs.length = N0 at *
    generalize m.imps.length = N1 at *
    generalize m.fns.length = N2 at *
    generalize m.gls.length = N3 at *
    generalize m.exs.length = N4 at *
    generalize m.dat.length = N5 at *
    go_enter Tryz.func20, Tryz.ntmps20
    go_wp2_with (go_at_call 14; refine (kS.out _ ((Below.refl _ _).alloc (Nat.le_refl _) _)).mono ?_; rintro e w1 ⟨⟨v, rfl, o1⟩, q1⟩; obtain ⟨av, cap, rfl, hrow⟩ := ownS_rows o1; have hrow' : Hid (l.length = 0 ∨ ∃ g, av = some ⟨g, 0, none⟩ ∧ ∀ j, j < l.length → w1.cell? ⟨g, j, none⟩ = some (.int .i64 (l.getD j 0))) := hrow; have b1 : Hid (Below w.heap.size w w1) := belB q1; clear o1 hrow)
    go_loop [7, 20] (fun vq vk => ∃ (k : Nat) (q : Int), k ≤ l.length ∧ vk = .int .i64 k ∧ vq = .int .i64 q ∧ maxL (l.drop k) q = R) (fun _ vk => l.length - (intOf vk).toNat)
    case atStart => exact ⟨0, 0, by omega, rfl, rfl, hR'.out⟩
    case round =>
      obtain ⟨k, q, hk, rfl, rfl, hm⟩ := hrel
      have hm' : Hid (maxL (l.drop k) q = R) := hm
      clear hm hR'
      by_cases hlt : k < l.length
      · have hlt' : (k : Int) < (l.length : Int) := by omega
        rcases hrow'.out with h0 | ⟨g, ha, hc⟩
        · omega
        · have c0 := hc k hlt
          subst ha
          clear hc
          have e2 : Hid (maxL (l.drop (k + 1)) (if q < l.getD k 0 then l.getD k 0 else q) = R) := by rw [← maxL_at hlt]; exact hm'.out
          generalize l.getD k 0 = z at *
          by_cases hz : q < z
          · rw [if_pos hz] at e2
            go_wp2_with fail
            exact ⟨⟨k + 1, z, by omega, by go_num, rfl, e2.out⟩, by simp [intOf]; omega⟩
          · rw [if_neg hz] at e2
            go_wp2_with fail
            exact ⟨⟨k + 1, q, by omega, by go_num, rfl, e2.out⟩, by simp [intOf]; omega⟩
      · obtain rfl : k = l.length := by omega
        have e2 : Hid (q = R) := by have := hm'.out; rw [List.drop_length] at this; exact this
        go_wp2_with fail
        go_ret
        exact ⟨by rw [← e2.out]; rfl, b1.out⟩
end Go.Proofs.YtdaffcbamnpjfaaGreatDoor.SStack
