/-
  The heights of a whole body, as the program tells them. (Written by my validheights.py.)
-/
import Derived.Test.YtajlkdidjelpeaaGreatDoorValidWalk
namespace Go.Proofs.YtajlkdidjelpeaaGreatDoor.ValidHeights
open Go.RowKit PlainOps NameCalls PlainNum NumCalls InsCalls InsImpl PlainShape InsMem PlainAll ShapeCalls FormCalls ModMem FormImpl PlainValid ValidCtx ValidMod Piles Walks Walks2 Walks3 Walks4 ValidIns ValidEff ValidStep ValidNext ValidWalk

theorem bwGrown {w w' : World} {p : Nat} {F : Nat → Value} {h : Int} {v : Value} {st : List Fr} {r : Option Nat} (b : BW w p F h v st) (hg : w.grownBy w' r) (h1 : some p ≠ r) (h2 : ∀ k, v.ownBlock = some k → some k ≠ r) : BW w' p F h v st := by
  refine ⟨b.box.of_block (hg.block p b.lt h1), b.own.1, ?_⟩
  rcases b.own.2 with h0 | ⟨g, cap, cur, hv, hgB, hh, rest⟩
  · exact .inl h0
  · exact .inr ⟨g, cap, cur, hv, hgB, (hg.block g (Array.getElem?_eq_some_iff.1 hh).1 (h2 g (by rw [hv]; rfl))).trans hh, rest⟩
theorem ownKp {B p : Nat} {w w' : World} {v v' vl : Value} {acc : List Int} (h : OwnS B w vl acc) (k : Kp p w w' v v') (hB : p < B) (hs : ∀ ga, vl.ownBlock = some ga → v.ownBlock ≠ some ga) : OwnS B w' vl acc := by
  refine ⟨h.1, ?_⟩
  rcases h.2 with h0 | ⟨g, cap, cur, hv, hg, hh, r⟩
  · exact .inl h0
  · exact .inr ⟨g, cap, cur, hv, hg, (k.block g (Array.getElem?_eq_some_iff.1 hh).1 (by omega) (fun e => hs g (by rw [hv]; rfl) e.symm)).trans hh, r⟩
theorem kpBelow {p B : Nat} {w w' : World} {v v' : Value} (k : Kp p w w' v v') (hB : B ≤ p) (hs : B ≤ w.heap.size) (hv : ∀ g, v.ownBlock = some g → B ≤ g) : Below B w w' :=
  ⟨k.os, k.tape, k.output, k.size, fun i hi => k.block i (by omega) (by omega) (fun e => by have := hv i e.symm; omega)⟩
theorem sepKp {p : Nat} {w w' : World} {v v' vl : Value} (k : Kp p w w' v v') (hl : ∀ ga, vl.ownBlock = some ga → ga < w.heap.size) (hs : ∀ ga, vl.ownBlock = some ga → v.ownBlock ≠ some ga) : ∀ ga, vl.ownBlock = some ga → v'.ownBlock ≠ some ga := fun ga h e => by
  rcases k.lies with a | a
  · exact hs ga h (a.symm.trans e)
  · have := a ga e
    have := hl ga h
    omega
theorem ownB_eq {g n cap g' : Nat} (h : (Value.slice (some ⟨g, 0, none⟩) n cap).ownBlock = some g') : g = g' := by simpa [Value.ownBlock] using h
theorem newCell (w : World) (o : Obj) (m : Nat) (x : Value) (t : TypeId) : (((w.alloc o).drewN m).alloc (.cells #[x] t)).cell? ⟨w.heap.size + 1, 0, none⟩ = some x := by
  have e : ((w.alloc o).drewN m).heap.size = w.heap.size + 1 := by show (w.alloc o).heap.size = _; simp
  have k : ∀ u : World, (u.alloc (.cells #[x] t)).cell? ⟨u.heap.size, 0, none⟩ = some x := fun u => by simp
  rw [← e]
  exact k _
theorem oldCell (w : World) (o o' : Obj) (m j : Nat) (x : Value) (h : (w.alloc o).cell? ⟨w.heap.size, j, none⟩ = some x) : (((w.alloc o).drewN m).alloc o').cell? ⟨w.heap.size, j, none⟩ = some x := by
  have hb : Below (w.alloc o).heap.size (w.alloc o) (((w.alloc o).drewN m).alloc o') := (below_dn _ m).alloc (Nat.le_refl _) _
  rw [hb.cell (by simp)]
  exact h
theorem ownLow {B B' : Nat} {w : World} {v : Value} {l : List Int} (h : OwnS B w v l) (hB : B' ≤ B) : OwnS B' w v l := by
  refine ⟨h.1, ?_⟩
  rcases h.2 with h0 | ⟨g, cap, cur, hv, hg, r⟩
  · exact .inl h0
  · exact .inr ⟨g, cap, cur, hv, Nat.le_trans hB hg, r⟩
set_option maxRecDepth 20000 in
set_option maxHeartbeats 16000000 in
theorem heights (p : P) (m : M) (s x : Int) (a : Option Addr) (l : List I3) (cb : Nat) (w : World) (h : Bod w p m s x a l) :
    Calls Tryz.prog 39 #[.agg #[.slice p.a0 m.sigs.length p.c0, .slice p.a1 m.imps.length p.c1, .slice p.a2 m.fns.length p.c2, .int .i64 m.pages, .int .i64 m.most, .slice p.a3 m.gls.length p.c3, .slice p.a4 m.exs.length p.c4, .slice p.a5 m.dat.length p.c5], .agg #[.int .i64 s, .int .i64 x, .slice a l.length cb]] w fun e w' => ∃ v, e = .returned (.tuple #[v, .int .i64 (body (ctxOf m s x) l).2]) ∧ OwnS w.heap.size w' v (body (ctxOf m s x) l).1 ∧ Below w.heap.size w w' := by
  obtain ⟨i0, hi, hz0, hz1, hz2⟩ := info_parts info3
  have hl := h.len
  have bF : Hid (Below w.heap.size w ((w.alloc (.cells #[.slice p.a0 m.sigs.length p.c0, .slice p.a1 m.imps.length p.c1, .slice p.a2 m.fns.length p.c2, .int .i64 m.pages, .int .i64 m.most, .slice p.a3 m.gls.length p.c3, .slice p.a4 m.exs.length p.c4, .slice p.a5 m.dat.length p.c5] 39)).alloc (.cells #[.int .i64 s, .int .i64 x, .slice a l.length cb] 60))) := ((Below.refl _ _).alloc (Nat.le_refl _) _).alloc (by simp) _
  have hA : Hid (Bod ((w.alloc (.cells #[.slice p.a0 m.sigs.length p.c0, .slice p.a1 m.imps.length p.c1, .slice p.a2 m.fns.length p.c2, .int .i64 m.pages, .int .i64 m.most, .slice p.a3 m.gls.length p.c3, .slice p.a4 m.exs.length p.c4, .slice p.a5 m.dat.length p.c5] 39)).alloc (.cells #[.int .i64 s, .int .i64 x, .slice a l.length cb] 60)) p m s x a l) := h.later bF.out
  have hC : Hid (OkC (ctxOf m s x)) := okC h.f h.h0 h.h1
  have kB : Hid (Calls Tryz.prog 78 #[.agg #[.slice p.a0 m.sigs.length p.c0, .slice p.a1 m.imps.length p.c1, .slice p.a2 m.fns.length p.c2, .int .i64 m.pages, .int .i64 m.most, .slice p.a3 m.gls.length p.c3, .slice p.a4 m.exs.length p.c4, .slice p.a5 m.dat.length p.c5], .agg #[.int .i64 s, .int .i64 x, .slice a l.length cb]] ((w.alloc (.cells #[.slice p.a0 m.sigs.length p.c0, .slice p.a1 m.imps.length p.c1, .slice p.a2 m.fns.length p.c2, .int .i64 m.pages, .int .i64 m.most, .slice p.a3 m.gls.length p.c3, .slice p.a4 m.exs.length p.c4, .slice p.a5 m.dat.length p.c5] 39)).alloc (.cells #[.int .i64 s, .int .i64 x, .slice a l.length cb] 60)) fun e w' => ∃ q g cap, e = .returned (.pointer (some ⟨q, 0, none⟩)) ∧ BW w' q (fF p m s x a l.length cb) 0 (.slice (some ⟨g, 0, none⟩) 1 cap) [⟨2, (ctxOf m s x).own, 0, false⟩] ∧ w.heap.size + 2 ≤ q ∧ Below (w.heap.size + 2) ((w.alloc (.cells #[.slice p.a0 m.sigs.length p.c0, .slice p.a1 m.imps.length p.c1, .slice p.a2 m.fns.length p.c2, .int .i64 m.pages, .int .i64 m.most, .slice p.a3 m.gls.length p.c3, .slice p.a4 m.exs.length p.c4, .slice p.a5 m.dat.length p.c5] 39)).alloc (.cells #[.int .i64 s, .int .i64 x, .slice a l.length cb] 60)) w') := by
    have := begin' p m s x a l cb ((w.alloc (.cells #[.slice p.a0 m.sigs.length p.c0, .slice p.a1 m.imps.length p.c1, .slice p.a2 m.fns.length p.c2, .int .i64 m.pages, .int .i64 m.most, .slice p.a3 m.gls.length p.c3, .slice p.a4 m.exs.length p.c4, .slice p.a5 m.dat.length p.c5] 39)).alloc (.cells #[.int .i64 s, .int .i64 x, .slice a l.length cb] 60)) hA.out
    simp only [World.size_alloc] at this
    exact this
  have hbx : Hid (∀ u : World, Below (w.heap.size + 2) ((w.alloc (.cells #[.slice p.a0 m.sigs.length p.c0, .slice p.a1 m.imps.length p.c1, .slice p.a2 m.fns.length p.c2, .int .i64 m.pages, .int .i64 m.most, .slice p.a3 m.gls.length p.c3, .slice p.a4 m.exs.length p.c4, .slice p.a5 m.dat.length p.c5] 39)).alloc (.cells #[.int .i64 s, .int .i64 x, .slice a l.length cb] 60)) u → u.cell? ⟨w.heap.size + 1, 2, none⟩ = some (.slice a l.length cb)) := fun u hu => by
    rw [hu.cell (by show w.heap.size + 1 < _; omega)]
    have := (MemFunc.r3 (MemFunc.r3_made (w.alloc (.cells #[.slice p.a0 m.sigs.length p.c0, .slice p.a1 m.imps.length p.c1, .slice p.a2 m.fns.length p.c2, .int .i64 m.pages, .int .i64 m.most, .slice p.a3 m.gls.length p.c3, .slice p.a4 m.exs.length p.c4, .slice p.a5 m.dat.length p.c5] 39)) (.int .i64 s) (.int .i64 x) (.slice a l.length cb) 60)).2.2.1
    simp only [World.size_alloc] at this
    exact this
  obtain ⟨R, hR⟩ : ∃ R, body (ctxOf m s x) l = R := ⟨_, rfl⟩
  have hR' : Hid (walk (ctxOf m s x) l l.length 0 (PlainValid.start (ctxOf m s x)) [] = R) := hR
  rw [hR]
  clear hR h
  go_enter Tryz.func39, Tryz.ntmps39
  go_wp2_with (go_at_call 78; refine kB.out.mono ?_; rintro e w1 ⟨q, g1, cap1, rfl, bw1, hq, bel1⟩; have bw1' : Hid (BW w1 q (fF p m s x a l.length cb) 0 (.slice (some ⟨g1, 0, none⟩) 1 cap1) [⟨2, (ctxOf m s x).own, 0, false⟩]) := bw1; have cB := hbx.out _ bel1; clear bw1)
  go_loopw [6, 16] (fun vl vk wr => ∃ (k f : Nat) (acc : List Int) (h : Int) (v : Value) (st : List Fr) (sh : List Int), k + f = l.length ∧ vk = .int .i64 k ∧ OwnS (q + 1) wr vl acc ∧ acc.length = k ∧ BW wr q (fF p m s x a l.length cb) h v st ∧ (∀ ga, vl.ownBlock = some ga → v.ownBlock ≠ some ga) ∧ Bnd k (h, st) ∧ shpF l f k sh = true ∧ sh.length + 1 = st.length ∧ st.length ≤ k + 1 ∧ walk (ctxOf m s x) l f k (h, st) acc = R ∧ Below (w.heap.size + 2) ((w.alloc (.cells #[.slice p.a0 m.sigs.length p.c0, .slice p.a1 m.imps.length p.c1, .slice p.a2 m.fns.length p.c2, .int .i64 m.pages, .int .i64 m.most, .slice p.a3 m.gls.length p.c3, .slice p.a4 m.exs.length p.c4, .slice p.a5 m.dat.length p.c5] 39)).alloc (.cells #[.int .i64 s, .int .i64 x, .slice a l.length cb] 60)) wr) (fun _ vk _ => l.length - (intOf vk).toNat)
  case atStart => exact ⟨0, l.length, [], 0, _, _, [], by omega, rfl, World.ownsRow_nil _ _ _ _, rfl, bw1'.out, fun ga e => by simp [Value.ownBlock] at e, start_bnd hC.out, hA.out.shape, rfl, by simp, hR'.out, bel1⟩
  case round =>
    obtain ⟨k, f, acc, h, v, st, sh, hk, rfl, own, hacc, bw, hsep, hB, hsh, hst, hle, hw, bel⟩ := hrel
    obtain ⟨av, cv', hv⟩ := own.form0
    rw [hacc] at hv
    subst hv
    generalize hWF : ((w.alloc (.cells #[.slice p.a0 m.sigs.length p.c0, .slice p.a1 m.imps.length p.c1, .slice p.a2 m.fns.length p.c2, .int .i64 m.pages, .int .i64 m.most, .slice p.a3 m.gls.length p.c3, .slice p.a4 m.exs.length p.c4, .slice p.a5 m.dat.length p.c5] 39)).alloc (.cells #[.int .i64 s, .int .i64 x, .slice a l.length cb] 60)) = w0 at *
    have hw0s : w0.heap.size = w.heap.size + 2 := by rw [← hWF]; simp
    have hbx0 : Hid (Below w.heap.size w w0) := bF.out
    clear hWF
    have hw' : Hid (walk (ctxOf m s x) l f k (h, st) acc = R) := hw
    have own' : Hid (wr.ownsRow (q + 1) 3 1 (.slice av k cv') k (acc.map fun z => .int .i64 z)) := by have := own; unfold OwnS at this; rw [hacc] at this; exact this
    have hacc' : Hid (acc.length = k) := hacc
    have bw' : Hid (BW wr q (fF p m s x a l.length cb) h v st) := bw
    have hsep' : Hid (∀ ga, (Value.slice av k cv').ownBlock = some ga → v.ownBlock ≠ some ga) := hsep
    have hB' : Hid (Bnd k (h, st)) := hB
    have bel' : Hid (Below (w.heap.size + 2) w0 wr) := bel
    have hsz : w.heap.size + 2 ≤ wr.heap.size := by have := bel.size; omega
    obtain ⟨n, hn⟩ : ∃ n, st.length = n + 1 := ⟨st.length - 1, by omega⟩
    obtain ⟨g, cap, hv, hqg, hgw, hcap⟩ := bw.form (by omega)
    rw [hn] at hv
    subst hv
    have hqw := bw.lt
    clear hw hB hsep bw1' cB hR'
    by_cases hlt : k < l.length
    · have hlt' : (k : Int) < (l.length : Int) := by omega
      obtain ⟨f, rfl⟩ : ∃ j, f = j + 1 := ⟨f - 1, by omega⟩
      have hBod : Hid (∀ u : World, Below (w.heap.size + 2) w0 u → Bod u p m s x a l) := fun u hu => hA.out.later (hu.mono (by omega))
      rcases (hBod.out _ bel).rl with h0 | ⟨b, off, ha, hc⟩
      · omega
      · obtain ⟨c0, c1, c2⟩ := hc k hlt
        have hbb : b < wr.heap.size := World.block_lt_of_cell? wr _ c0
        have hIns := hA.out.ins k hlt
        have hIns' : Hid (InsF (oAt l k) (aAt l k)) := hIns
        have hWn : Hid (∀ s', PlainValid.step (ctxOf m s x) (oAt l k) (aAt l k) (h, st) = some s' → walk (ctxOf m s x) l f (k + 1) s' (acc ++ [PlainValid.told (h, st)]) = R) := fun s' e => by rw [← walk_yes e]; exact hw'.out
        have hWf : Hid (PlainValid.step (ctxOf m s x) (oAt l k) (aAt l k) (h, st) = none → R = (acc ++ [PlainValid.told (h, st)], (k : Int))) := fun e => by rw [← hw'.out]; exact walk_no e
        have hNx : Hid (∀ s', PlainValid.step (ctxOf m s x) (oAt l k) (aAt l k) (h, st) = some s' → Bnd (k + 1) s' ∧ s'.2.length = nOpen (oAt l k) st.length) := fun s' e => step_next hC.out hIns hB'.out (by show st.length ≠ 0; omega) e
        obtain ⟨sh', hs1, hs2, hs3⟩ := shape_next hsh
        have hSh : Hid (shpF l f (k + 1) sh' = true ∧ sh'.length + 1 = nOpen (oAt l k) st.length) := ⟨hs1, by rw [hs2, hst]⟩
        have kTo : Hid (∀ u : World, BW u q (fF p m s x a l.length cb) h (.slice (some ⟨g, 0, none⟩) (n + 1) cap) st → Calls Tryz.prog 79 #[.pointer (some ⟨q, 0, none⟩)] u fun e w' => e = .returned (.int .i64 (PlainValid.told (h, st))) ∧ ∃ m, w' = u.drewN m) := fun u hu => by
          have := Walks3.told q g n cap u (fF p m s x a l.length cb) h st hu (by omega)
          unfold PlainValid.told
          simp only [top_is hn.symm]
          exact this
        have kSt : Hid (∀ (u : World) (b0 : Int), BW u q (fF p m s x a l.length cb) h (.slice (some ⟨g, 0, none⟩) (n + 1) cap) st → Below (w.heap.size + 2) w0 u → Calls Tryz.prog 80 #[.pointer (some ⟨q, 0, none⟩), .agg #[.int .i64 (oAt l k), .int .i64 (aAt l k), .int .i64 b0]] u (Res u q (fF p m s x a l.length cb) (.slice (some ⟨g, 0, none⟩) (n + 1) cap) (PlainValid.step (ctxOf m s x) (oAt l k) (aAt l k) (h, st)))) := fun u b0 hu hb => stepR q g n cap u p m s x a l.length cb h st _ _ b0 ⟨hu, (hBod.out u hb).rd, hA.out.f, hA.out.h0, hA.out.h1, hA.out.hx, by omega, hIns⟩ (hB'.out.mono (by omega))
        have hlen : Hid (sh.length + 1 = st.length) := hst
        subst ha
        clear hc hw' hsh hs1 hs2 hs3 hst hIns bel own bw hacc
        generalize PlainValid.step (ctxOf m s x) (oAt l k) (aAt l k) (h, st) = X at *
        generalize PlainValid.told (h, st) = tt at *
        generalize oAt l k = o at *
        generalize aAt l k = i at *
        generalize bAt l k = b0 at *
        have lts := World.ownsRow.lt own'.out
        have x1 : Hid (Below (w.heap.size + 2) w0 (wr.alloc (.cells #[.int .i64 o, .int .i64 i, .int .i64 b0] 62))) := bel'.out.alloc hsz _
        have kTo1 : Hid (Calls Tryz.prog 79 #[.pointer (some ⟨q, 0, none⟩)] (wr.alloc (.cells #[.int .i64 o, .int .i64 i, .int .i64 b0] 62)) fun e w' => e = .returned (.int .i64 tt) ∧ ∃ m, w' = (wr.alloc (.cells #[.int .i64 o, .int .i64 i, .int .i64 b0] 62)).drewN m) := kTo.out _ (bw'.out.alloc _)
        clear kTo
        go_wp2_with (first | (go_at_call 79; refine kTo1.out.mono ?_; rintro e w2 ⟨rfl, m2, rfl⟩) | (at_builtin; refine wpList_append_own_at _ rfl _ _ 45 rfl (q + 1) 3 i0 (.int .i64 0) 1 8 Tryz.underlying45 hi hz0 hz1 hz2 rfl (by decide) _ _ _ rfl (World.ownsRow.alloc (show ((wr.alloc (.cells #[.int .i64 o, .int .i64 i, .int .i64 b0] 62)).drewN m2).ownsRow (q + 1) 3 1 _ _ _ from World.ownsRow.alloc own'.out _) _) ⟨wr.heap.size + 1, 0, none⟩ 1 1 [Value.int .i64 tt] rfl rfl ?c1 ?c2 ?c3 ?c4 ?c5 ?_))
        case c1 =>
          intro j u hj
          match j, hj with
          | 0, hj => simp at hj; subst hj; exact newCell _ _ _ _ _
        case c2 => intro u hu; simp at hu; subst hu; rfl
        case c3 => unfold maxLen; omega
        case c4 => omega
        case c5 => simp; omega
        intro v' w3 hown1 hgrow _ hat
        have own3 : Hid (OwnS (q + 1) w3 v' (acc ++ [tt])) := own_snoc (by rw [hacc'.out]; exact hown1)
        have W3 := World.grownBy_alloc ((wr.alloc (.cells #[.int .i64 o, .int .i64 i, .int .i64 b0] 62)).drewN m2) (.cells #[.int .i64 tt] 3) none
        have bw3 : Hid (BW w3 q (fF p m s x (some ⟨b, off, none⟩) l.length cb) h (.slice (some ⟨g, 0, none⟩) (n + 1) cap) st) := bwGrown (((bw'.out.alloc (.cells #[.int .i64 o, .int .i64 i, .int .i64 b0] 62)).drewN m2).alloc (.cells #[.int .i64 tt] 3)) hgrow (fun e => by have := (lts q e.symm).1; omega) (fun k' e e' => hsep'.out k' e'.symm e)
        have ci : w3.cell? ⟨wr.heap.size, 0, none⟩ = some (.int .i64 o) ∧ w3.cell? ⟨wr.heap.size, 1, none⟩ = some (.int .i64 i) ∧ w3.cell? ⟨wr.heap.size, 2, none⟩ = some (.int .i64 b0) := by
          refine ⟨?_, ?_, ?_⟩ <;> rw [grown_cell hgrow (by simp; omega) (fun e => by have := (lts _ e).2; omega)] <;> exact oldCell _ _ _ _ _ _ (by simp)
        obtain ⟨ci0, ci1, ci2⟩ := ci
        have bel3 : Hid (Below (w.heap.size + 2) w0 w3) := (((bel'.out.alloc hsz (.cells #[.int .i64 o, .int .i64 i, .int .i64 b0] 62)).trans ((below_dn _ m2).mono (by simp; omega))).alloc (by simp; omega) (.cells #[.int .i64 tt] 3)).grown hgrow (by simp; omega) (fun k' e => by have := (lts k' e).1; omega)
        have sep3 : Hid (∀ ga, v'.ownBlock = some ga → (Value.slice (some ⟨g, 0, none⟩) (n + 1) cap).ownBlock ≠ some ga) := fun ga e => by
          rcases hat with z | z
          · exact hsep'.out ga (z.symm.trans e)
          · intro e2
            have : g = ga := by simpa [Value.ownBlock] using e2
            have h3 : ga = wr.heap.size + 1 + 1 := by rw [z] at e; simp at e; omega
            omega
        have lt3 : Hid (∀ ga, v'.ownBlock = some ga → q + 1 ≤ ga ∧ ga < w3.heap.size) := World.ownsRow.lt own3.out
        clear hown1 hgrow hat W3 x1 kTo1
        obtain ⟨av3, cv3, hv3⟩ := OwnS.form0 own3.out
        rw [List.length_append, List.length_singleton, hacc'.out] at hv3
        subst hv3
        go_wp2_with (go_at_call 80; refine (kSt.out _ _ bw3.out bel3.out).mono ?_; rintro e w4 ⟨ok, h4, v4, st4, rfl, bw4, kp4, hr⟩; have bw4' : Hid (BW w4 q (fF p m s x (some ⟨b, off, none⟩) l.length cb) h4 v4 st4) := bw4; have kp4' : Hid (Kp q w3 w4 (.slice (some ⟨g, 0, none⟩) (n + 1) cap) v4) := kp4; have hr' : Hid (X = if ok = true then some (h4, st4) else none) := hr; clear bw4 kp4 hr; cases ok)
        · have own4 := ownKp own3.out kp4'.out (by omega) sep3.out
          have e1 : Hid (R = (acc ++ [tt], (k : Int))) := hWf.out hr'.out
          have bel4 : Hid (Below w.heap.size w w4) := (hbx0.out.trans ((bel3.out.trans (kpBelow kp4'.out (B := w.heap.size + 2) hq (by have := bel3.out.size; omega) (fun g' e => by have := ownB_eq e; omega))).mono (by omega)))
          go_ret2
          rw [e1.out]
          exact ⟨_, rfl, ownLow own4 (by omega), bel4.out⟩
        · have own4 : Hid (OwnS (q + 1) w4 (.slice av3 (k + 1) cv3) (acc ++ [tt])) := ownKp own3.out kp4'.out (by omega) sep3.out
          have bel4 : Hid (Below (w.heap.size + 2) w0 w4) := bel3.out.trans (kpBelow kp4'.out (B := w.heap.size + 2) hq (by have := bel3.out.size; omega) (fun g' e => by have := ownB_eq e; omega))
          obtain ⟨nx1, nx2⟩ := hNx.out _ hr'.out
          have sep4 := sepKp kp4'.out (fun ga e => (lt3.out ga e).2) sep3.out
          go_roundw
          case rel => exact ⟨k + 1, f, acc ++ [tt], h4, v4, st4, sh', by omega, by go_num, own4.out, by rw [List.length_append, List.length_singleton, hacc'.out], bw4'.out, sep4, nx1, hSh.out.1, by rw [hSh.out.2]; exact nx2.symm, by rw [show st4.length = _ from nx2]; unfold nOpen; split <;> (try split) <;> omega, hWn.out _ hr'.out, bel4.out⟩
          case measure => simp [intOf]; omega
    · obtain rfl : k = l.length := by omega
      obtain rfl : f = 0 := by omega
      have hn0 : n = 0 := by
        have : shpF l 0 l.length sh = true := hsh
        have := of_decide_eq_true (show decide (sh.length = 0) = true from this)
        omega
      subst hn0
      have e1 : Hid (R = if closes (h, st) = true then (acc, -1) else (acc, (l.length : Int))) := hw'.out.symm
      obtain ⟨t0, t1, t2, t3⟩ := hB'.out.top (by show st.length ≠ 0; omega)
      have hlo := hB'.out.lo
      have hhi := hB'.out.hi
      simp only [top_is hn.symm] at t0 t1 t2 t3
      dsimp only at hlo hhi
      have kC : Hid (∀ u : World, BW u q (fF p m s x a l.length cb) h (.slice (some ⟨g, 0, none⟩) 1 cap) st → Calls Tryz.prog 81 #[.pointer (some ⟨q, 0, none⟩)] u fun e w' => e = .returned (.bool (closes (h, st))) ∧ Res u q (fF p m s x a l.length cb) (.slice (some ⟨g, 0, none⟩) 1 cap) (PlainValid.close (h, st)) e w') := fun u hu => closeR q g 0 cap u (fF p m s x a l.length cb) h st hu (by omega) (by omega) (by omega) (by omega) (by omega) (by omega)
      have lts := World.ownsRow.lt own'.out
      have cB := hbx.out _ bel
      clear own bw hsh hst hle hacc bel hw' hB' t0 t1 t2 t3 hlo hhi
      generalize closes (h, st) = C at *
      generalize PlainValid.close (h, st) = Y at *
      cases C with
      | true =>
        have e2 : Hid (R = (acc, -1)) := e1.out
        go_wp2_with (go_at_call 81; refine (kC.out _ bw'.out).mono ?_; rintro e w4 ⟨rfl, ok, h4, v4, st4, _, _, kp4, _⟩; have kp4' : Hid (Kp q wr w4 (.slice (some ⟨g, 0, none⟩) 1 cap) v4) := kp4; clear kp4)
        have own4 : Hid (w4.ownsRow (q + 1) 3 1 (.slice av l.length cv') l.length (acc.map fun z => .int .i64 z)) := by
          have := ownKp (vl := .slice av l.length cv') (acc := acc) (B := q + 1) (w := wr) (show wr.ownsRow _ _ _ _ _ _ by rw [hacc'.out]; exact own'.out) kp4'.out (by omega) hsep'.out
          unfold OwnS at this
          rw [hacc'.out] at this
          exact this
        have bel4 : Hid (Below w.heap.size w w4) := (hbx0.out.trans ((bel'.out.trans (kpBelow kp4'.out (B := w.heap.size + 2) hq (by omega) (fun g' e => by have := ownB_eq e; omega))).mono (by omega)))
        go_ret2
        rw [e2.out]
        refine ⟨_, rfl, ownLow (B := q + 1) ?_ (by omega), bel4.out⟩
        unfold OwnS
        rw [hacc'.out]
        exact own4.out
      | false =>
        have e2 : Hid (R = (acc, (l.length : Int))) := e1.out
        go_wp2_with (go_at_call 81; refine (kC.out _ bw'.out).mono ?_; rintro e w4 ⟨rfl, ok, h4, v4, st4, _, _, kp4, _⟩; have cB4 := kp4.cell cB (by omega) (by simp [Value.ownBlock]; omega); have kp4' : Hid (Kp q wr w4 (.slice (some ⟨g, 0, none⟩) 1 cap) v4) := kp4; clear kp4)
        have own4 : Hid (w4.ownsRow (q + 1) 3 1 (.slice av l.length cv') l.length (acc.map fun z => .int .i64 z)) := by
          have := ownKp (vl := .slice av l.length cv') (acc := acc) (B := q + 1) (w := wr) (show wr.ownsRow _ _ _ _ _ _ by rw [hacc'.out]; exact own'.out) kp4'.out (by omega) hsep'.out
          unfold OwnS at this
          rw [hacc'.out] at this
          exact this
        have bel4 : Hid (Below w.heap.size w w4) := (hbx0.out.trans ((bel'.out.trans (kpBelow kp4'.out (B := w.heap.size + 2) hq (by omega) (fun g' e => by have := ownB_eq e; omega))).mono (by omega)))
        go_quiet (fail)
        go_wp2_with fail
        go_ret2
        rw [e2.out]
        refine ⟨_, rfl, ownLow (B := q + 1) ?_ (by omega), bel4.out.trans ⟨rfl, rfl, rfl, Nat.le_refl _, fun _ _ => rfl⟩⟩
        unfold OwnS
        rw [hacc'.out]
        exact own4.out
end Go.Proofs.YtajlkdidjelpeaaGreatDoor.ValidHeights
