/-
  The heights of a whole body, as the program tells them. (Written by my validheights.py.)
  FaultAt, StackAt and MaxStack, as the program answers them. (Written by my validface.py.)
  MaxStack, as the program answers it. (Written by my validmax.py.)
-/
import Derived.Test.YtajlkdidjelpeaaGreatDoorPack17
namespace Go.Proofs.YtajlkdidjelpeaaGreatDoor.ValidHeights
open Go.RowKit PlainOps NameCalls PlainNum NumCalls InsCalls InsImpl PlainShape InsMem PlainAll ShapeCalls FormCalls ModMem FormImpl PlainValid ValidCtx ValidMod Piles Walks Walks2 Walks3 Walks4 ValidIns ValidEff ValidStep ValidNext ValidWalk

theorem bwGrown {w w' : World} {p : Nat} {F : Nat → Value} {h : Int} {v : Value} {st : List Fr} {r : Option Nat} (b : BW w p F h v st) (hg : w.grownBy w' r) (h1 : some p ≠ r) (h2 : ∀ k, v.ownBlock = some k → some k ≠ r) : BW w' p F h v st := by
  refine ⟨b.box.of_block (hg.block p b.lt h1), b.own.1, ?_⟩
  rcases b.own.2 with h0 | ⟨g, cap, cur, hv, hgB, hh, rest⟩
  · exact .inl h0
  · exact .inr ⟨g, cap, cur, hv, hgB, (hg.block g (Array.getElem?_eq_some_iff.1 hh).1 (h2 g (by rw [hv]; rfl))).trans hh, rest⟩
theorem ownKp {B p : Nat} {w w' : World} {v v' vl : Value} {acc : List Int} (h : OwnS B w vl acc) (k : Kp p w w' v v') (hB : p < B) (hs : ∀ ga, vl.ownBlock = some ga → v.ownBlock ≠ some ga) : OwnS B w' vl acc := by
  refine ⟨h.1, ?_⟩
  rcases h.2 with h0 | ⟨g, cap, cur, hv, hg, hh, r⟩
  · exact .inl h0
  · exact .inr ⟨g, cap, cur, hv, hg, (k.block g (Array.getElem?_eq_some_iff.1 hh).1 (by omega) (fun e => hs g (by rw [hv]; rfl) e.symm)).trans hh, r⟩
theorem kpBelow {p B : Nat} {w w' : World} {v v' : Value} (k : Kp p w w' v v') (hB : B ≤ p) (hs : B ≤ w.heap.size) (hv : ∀ g, v.ownBlock = some g → B ≤ g) : Below B w w' :=
  ⟨k.os, k.tape, k.output, k.size, fun i hi => k.block i (by omega) (by omega) (fun e => by have := hv i e.symm; omega)⟩
theorem sepKp {p : Nat} {w w' : World} {v v' vl : Value} (k : Kp p w w' v v') (hl : ∀ ga, vl.ownBlock = some ga → ga < w.heap.size) (hs : ∀ ga, vl.ownBlock = some ga → v.ownBlock ≠ some ga) : ∀ ga, vl.ownBlock = some ga → v'.ownBlock ≠ some ga := fun ga h e => by
  rcases k.lies with a | a
  · exact hs ga h (a.symm.trans e)
  · have := a ga e
    have := hl ga h
    omega
theorem ownB_eq {g n cap g' : Nat} (h : (Value.slice (some ⟨g, 0, none⟩) n cap).ownBlock = some g') : g = g' := by simpa [Value.ownBlock] using h
theorem newCell (w : World) (o : Obj) (m : Nat) (x : Value) (t : TypeId) : (((w.alloc o).drewN m).alloc (.cells #[x] t)).cell? ⟨w.heap.size + 1, 0, none⟩ = some x := by
  have e : ((w.alloc o).drewN m).heap.size = w.heap.size + 1 := by show (w.alloc o).heap.size = _; simp
  have k : ∀ u : World, (u.alloc (.cells #[x] t)).cell? ⟨u.heap.size, 0, none⟩ = some x := fun u => by simp
  rw [← e]
  exact k _
theorem oldCell (w : World) (o o' : Obj) (m j : Nat) (x : Value) (h : (w.alloc o).cell? ⟨w.heap.size, j, none⟩ = some x) : (((w.alloc o).drewN m).alloc o').cell? ⟨w.heap.size, j, none⟩ = some x := by
  have hb : Below (w.alloc o).heap.size (w.alloc o) (((w.alloc o).drewN m).alloc o') := (below_dn _ m).alloc (Nat.le_refl _) _
  rw [hb.cell (by simp)]
  exact h
theorem ownLow {B B' : Nat} {w : World} {v : Value} {l : List Int} (h : OwnS B w v l) (hB : B' ≤ B) : OwnS B' w v l := by
  refine ⟨h.1, ?_⟩
  rcases h.2 with h0 | ⟨g, cap, cur, hv, hg, r⟩
  · exact .inl h0
  · exact .inr ⟨g, cap, cur, hv, Nat.le_trans hB hg, r⟩
set_option maxRecDepth 20000 in
set_option maxHeartbeats 16000000 in
theorem heights (p : P) (m : M) (s x : Int) (a : Option Addr) (l : List I3) (cb : Nat) (w : World) (h : Bod w p m s x a l) :
    Calls Tryz.prog 39 #[.agg #[.slice p.a0 m.sigs.length p.c0, .slice p.a1 m.imps.length p.c1, .slice p.a2 m.fns.length p.c2, .int .i64 m.pages, .int .i64 m.most, .slice p.a3 m.gls.length p.c3, .slice p.a4 m.exs.length p.c4, .slice p.a5 m.dat.length p.c5], .agg #[.int .i64 s, .int .i64 x, .slice a l.length cb]] w fun e w' => ∃ v, e = .returned (.tuple #[v, .int .i64 (body (ctxOf m s x) l).2]) ∧ OwnS w.heap.size w' v (body (ctxOf m s x) l).1 ∧ Below w.heap.size w w' := by
  obtain ⟨i0, hi, hz0, hz1, hz2⟩ := info_parts info3
  have hl := h.len
  have bF : Hid (Below w.heap.size w ((w.alloc (.cells #[.slice p.a0 m.sigs.length p.c0, .slice p.a1 m.imps.length p.c1, .slice p.a2 m.fns.length p.c2, .int .i64 m.pages, .int .i64 m.most, .slice p.a3 m.gls.length p.c3, .slice p.a4 m.exs.length p.c4, .slice p.a5 m.dat.length p.c5] 39)).alloc (.cells #[.int .i64 s, .int .i64 x, .slice a l.length cb] 60))) := ((Below.refl _ _).alloc (Nat.le_refl _) _).alloc (by simp) _
  have hA : Hid (Bod ((w.alloc (.cells #[.slice p.a0 m.sigs.length p.c0, .slice p.a1 m.imps.length p.c1, .slice p.a2 m.fns.length p.c2, .int .i64 m.pages, .int .i64 m.most, .slice p.a3 m.gls.length p.c3, .slice p.a4 m.exs.length p.c4, .slice p.a5 m.dat.length p.c5] 39)).alloc (.cells #[.int .i64 s, .int .i64 x, .slice a l.length cb] 60)) p m s x a l) := h.later bF.out
  have hC : Hid (OkC (ctxOf m s x)) := okC h.f h.h0 h.h1
  have kB : Hid (Calls Tryz.prog 78 #[.agg #[.slice p.a0 m.sigs.length p.c0, .slice p.a1 m.imps.length p.c1, .slice p.a2 m.fns.length p.c2, .int .i64 m.pages, .int .i64 m.most, .slice p.a3 m.gls.length p.c3, .slice p.a4 m.exs.length p.c4, .slice p.a5 m.dat.length p.c5], .agg #[.int .i64 s, .int .i64 x, .slice a l.length cb]] ((w.alloc (.cells #[.slice p.a0 m.sigs.length p.c0, .slice p.a1 m.imps.length p.c1, .slice p.a2 m.fns.length p.c2, .int .i64 m.pages, .int .i64 m.most, .slice p.a3 m.gls.length p.c3, .slice p.a4 m.exs.length p.c4, .slice p.a5 m.dat.length p.c5] 39)).alloc (.cells #[.int .i64 s, .int .i64 x, .slice a l.length cb] 60)) fun e w' => ∃ q g cap, e = .returned (.pointer (some ⟨q, 0, none⟩)) ∧ BW w' q (fF p m s x a l.length cb) 0 (.slice (some ⟨g, 0, none⟩) 1 cap) [⟨2, (ctxOf m s x).own, 0, false⟩] ∧ w.heap.size + 2 ≤ q ∧ Below (w.heap.size + 2) ((w.alloc (.cells #[.slice p.a0 m.sigs.length p.c0, .slice p.a1 m.imps.length p.c1, .slice p.a2 m.fns.length p.c2, .int .i64 m.pages, .int .i64 m.most, .slice p.a3 m.gls.length p.c3, .slice p.a4 m.exs.length p.c4, .slice p.a5 m.dat.length p.c5] 39)).alloc (.cells #[.int .i64 s, .int .i64 x, .slice a l.length cb] 60)) w') := by
    have := begin' p m s x a l cb ((w.alloc (.cells #[.slice p.a0 m.sigs.length p.c0, .slice p.a1 m.imps.length p.c1, .slice p.a2 m.fns.length p.c2, .int .i64 m.pages, .int .i64 m.most, .slice p.a3 m.gls.length p.c3, .slice p.a4 m.exs.length p.c4, .slice p.a5 m.dat.length p.c5] 39)).alloc (.cells #[.int .i64 s, .int .i64 x, .slice a l.length cb] 60)) hA.out
    simp only [World.size_alloc] at this
    exact this
  have hbx : Hid (∀ u : World, Below (w.heap.size + 2) ((w.alloc (.cells #[.slice p.a0 m.sigs.length p.c0, .slice p.a1 m.imps.length p.c1, .slice p.a2 m.fns.length p.c2, .int .i64 m.pages, .int .i64 m.most, .slice p.a3 m.gls.length p.c3, .slice p.a4 m.exs.length p.c4, .slice p.a5 m.dat.length p.c5] 39)).alloc (.cells #[.int .i64 s, .int .i64 x, .slice a l.length cb] 60)) u → u.cell? ⟨w.heap.size + 1, 2, none⟩ = some (.slice a l.length cb)) := fun u hu => by
    rw [hu.cell (by show w.heap.size + 1 < _; omega)]
    have := (MemFunc.r3 (MemFunc.r3_made (w.alloc (.cells #[.slice p.a0 m.sigs.length p.c0, .slice p.a1 m.imps.length p.c1, .slice p.a2 m.fns.length p.c2, .int .i64 m.pages, .int .i64 m.most, .slice p.a3 m.gls.length p.c3, .slice p.a4 m.exs.length p.c4, .slice p.a5 m.dat.length p.c5] 39)) (.int .i64 s) (.int .i64 x) (.slice a l.length cb) 60)).2.2.1
    simp only [World.size_alloc] at this
    exact this
  obtain ⟨R, hR⟩ : ∃ R, body (ctxOf m s x) l = R := ⟨_, rfl⟩
  have hR' : Hid (walk (ctxOf m s x) l l.length 0 (PlainValid.start (ctxOf m s x)) [] = R) := hR
  rw [hR]
  clear hR h
  go_enter Tryz.func39, Tryz.ntmps39
  go_wp2_with (go_at_call 78; refine kB.out.mono ?_; rintro e w1 ⟨q, g1, cap1, rfl, bw1, hq, bel1⟩; have bw1' : Hid (BW w1 q (fF p m s x a l.length cb) 0 (.slice (some ⟨g1, 0, none⟩) 1 cap1) [⟨2, (ctxOf m s x).own, 0, false⟩]) := bw1; have cB := hbx.out _ bel1; clear bw1)
  go_loopw [6, 16] (fun vl vk wr => ∃ (k f : Nat) (acc : List Int) (h : Int) (v : Value) (st : List Fr) (sh : List Int), k + f = l.length ∧ vk = .int .i64 k ∧ OwnS (q + 1) wr vl acc ∧ acc.length = k ∧ BW wr q (fF p m s x a l.length cb) h v st ∧ (∀ ga, vl.ownBlock = some ga → v.ownBlock ≠ some ga) ∧ Bnd k (h, st) ∧ shpF l f k sh = true ∧ sh.length + 1 = st.length ∧ st.length ≤ k + 1 ∧ walk (ctxOf m s x) l f k (h, st) acc = R ∧ Below (w.heap.size + 2) ((w.alloc (.cells #[.slice p.a0 m.sigs.length p.c0, .slice p.a1 m.imps.length p.c1, .slice p.a2 m.fns.length p.c2, .int .i64 m.pages, .int .i64 m.most, .slice p.a3 m.gls.length p.c3, .slice p.a4 m.exs.length p.c4, .slice p.a5 m.dat.length p.c5] 39)).alloc (.cells #[.int .i64 s, .int .i64 x, .slice a l.length cb] 60)) wr) (fun _ vk _ => l.length - (intOf vk).toNat)
  case atStart => exact ⟨0, l.length, [], 0, _, _, [], by omega, rfl, World.ownsRow_nil _ _ _ _, rfl, bw1'.out, fun ga e => by simp [Value.ownBlock] at e, start_bnd hC.out, hA.out.shape, rfl, by simp, hR'.out, bel1⟩
  case round =>
    obtain ⟨k, f, acc, h, v, st, sh, hk, rfl, own, hacc, bw, hsep, hB, hsh, hst, hle, hw, bel⟩ := hrel
    obtain ⟨av, cv', hv⟩ := own.form0
    rw [hacc] at hv
    subst hv
    generalize hWF : ((w.alloc (.cells #[.slice p.a0 m.sigs.length p.c0, .slice p.a1 m.imps.length p.c1, .slice p.a2 m.fns.length p.c2, .int .i64 m.pages, .int .i64 m.most, .slice p.a3 m.gls.length p.c3, .slice p.a4 m.exs.length p.c4, .slice p.a5 m.dat.length p.c5] 39)).alloc (.cells #[.int .i64 s, .int .i64 x, .slice a l.length cb] 60)) = w0 at *
    have hw0s : w0.heap.size = w.heap.size + 2 := by rw [← hWF]; simp
    have hbx0 : Hid (Below w.heap.size w w0) := bF.out
    clear hWF
    have hw' : Hid (walk (ctxOf m s x) l f k (h, st) acc = R) := hw
    have own' : Hid (wr.ownsRow (q + 1) 3 1 (.slice av k cv') k (acc.map fun z => .int .i64 z)) := by have := own; unfold OwnS at this; rw [hacc] at this; exact this
    have hacc' : Hid (acc.length = k) := hacc
    have bw' : Hid (BW wr q (fF p m s x a l.length cb) h v st) := bw
    have hsep' : Hid (∀ ga, (Value.slice av k cv').ownBlock = some ga → v.ownBlock ≠ some ga) := hsep
    have hB' : Hid (Bnd k (h, st)) := hB
    have bel' : Hid (Below (w.heap.size + 2) w0 wr) := bel
    have hsz : w.heap.size + 2 ≤ wr.heap.size := by have := bel.size; omega
    obtain ⟨n, hn⟩ : ∃ n, st.length = n + 1 := ⟨st.length - 1, by omega⟩
    obtain ⟨g, cap, hv, hqg, hgw, hcap⟩ := bw.form (by omega)
    rw [hn] at hv
    subst hv
    have hqw := bw.lt
    clear hw hB hsep bw1' cB hR'
    by_cases hlt : k < l.length
    · have hlt' : (k : Int) < (l.length : Int) := by omega
      obtain ⟨f, rfl⟩ : ∃ j, f = j + 1 := ⟨f - 1, by omega⟩
      have hBod : Hid (∀ u : World, Below (w.heap.size + 2) w0 u → Bod u p m s x a l) := fun u hu => hA.out.later (hu.mono (by omega))
      rcases (hBod.out _ bel).rl with h0 | ⟨b, off, ha, hc⟩
      · omega
      · obtain ⟨c0, c1, c2⟩ := hc k hlt
        have hbb : b < wr.heap.size := World.block_lt_of_cell? wr _ c0
        have hIns := hA.out.ins k hlt
        have hIns' : Hid (InsF (oAt l k) (aAt l k)) := hIns
        have hWn : Hid (∀ s', PlainValid.step (ctxOf m s x) (oAt l k) (aAt l k) (h, st) = some s' → walk (ctxOf m s x) l f (k + 1) s' (acc ++ [PlainValid.told (h, st)]) = R) := fun s' e => by rw [← walk_yes e]; exact hw'.out
        have hWf : Hid (PlainValid.step (ctxOf m s x) (oAt l k) (aAt l k) (h, st) = none → R = (acc ++ [PlainValid.told (h, st)], (k : Int))) := fun e => by rw [← hw'.out]; exact walk_no e
        have hNx : Hid (∀ s', PlainValid.step (ctxOf m s x) (oAt l k) (aAt l k) (h, st) = some s' → Bnd (k + 1) s' ∧ s'.2.length = nOpen (oAt l k) st.length) := fun s' e => step_next hC.out hIns hB'.out (by show st.length ≠ 0; omega) e
        obtain ⟨sh', hs1, hs2, hs3⟩ := shape_next hsh
        have hSh : Hid (shpF l f (k + 1) sh' = true ∧ sh'.length + 1 = nOpen (oAt l k) st.length) := ⟨hs1, by rw [hs2, hst]⟩
        have kTo : Hid (∀ u : World, BW u q (fF p m s x a l.length cb) h (.slice (some ⟨g, 0, none⟩) (n + 1) cap) st → Calls Tryz.prog 79 #[.pointer (some ⟨q, 0, none⟩)] u fun e w' => e = .returned (.int .i64 (PlainValid.told (h, st))) ∧ ∃ m, w' = u.drewN m) := fun u hu => by
          have := Walks3.told q g n cap u (fF p m s x a l.length cb) h st hu (by omega)
          unfold PlainValid.told
          simp only [top_is hn.symm]
          exact this
        have kSt : Hid (∀ (u : World) (b0 : Int), BW u q (fF p m s x a l.length cb) h (.slice (some ⟨g, 0, none⟩) (n + 1) cap) st → Below (w.heap.size + 2) w0 u → Calls Tryz.prog 80 #[.pointer (some ⟨q, 0, none⟩), .agg #[.int .i64 (oAt l k), .int .i64 (aAt l k), .int .i64 b0]] u (Res u q (fF p m s x a l.length cb) (.slice (some ⟨g, 0, none⟩) (n + 1) cap) (PlainValid.step (ctxOf m s x) (oAt l k) (aAt l k) (h, st)))) := fun u b0 hu hb => stepR q g n cap u p m s x a l.length cb h st _ _ b0 ⟨hu, (hBod.out u hb).rd, hA.out.f, hA.out.h0, hA.out.h1, hA.out.hx, by omega, hIns⟩ (hB'.out.mono (by omega))
        have hlen : Hid (sh.length + 1 = st.length) := hst
        subst ha
        clear hc hw' hsh hs1 hs2 hs3 hst hIns bel own bw hacc
        generalize PlainValid.step (ctxOf m s x) (oAt l k) (aAt l k) (h, st) = X at *
        generalize PlainValid.told (h, st) = tt at *
        generalize oAt l k = o at *
        generalize aAt l k = i at *
        generalize bAt l k = b0 at *
        have lts := World.ownsRow.lt own'.out
        have x1 : Hid (Below (w.heap.size + 2) w0 (wr.alloc (.cells #[.int .i64 o, .int .i64 i, .int .i64 b0] 62))) := bel'.out.alloc hsz _
        have kTo1 : Hid (Calls Tryz.prog 79 #[.pointer (some ⟨q, 0, none⟩)] (wr.alloc (.cells #[.int .i64 o, .int .i64 i, .int .i64 b0] 62)) fun e w' => e = .returned (.int .i64 tt) ∧ ∃ m, w' = (wr.alloc (.cells #[.int .i64 o, .int .i64 i, .int .i64 b0] 62)).drewN m) := kTo.out _ (bw'.out.alloc _)
        clear kTo
        go_wp2_with (first | (go_at_call 79; refine kTo1.out.mono ?_; rintro e w2 ⟨rfl, m2, rfl⟩) | (at_builtin; refine wpList_append_own_at _ rfl _ _ 45 rfl (q + 1) 3 i0 (.int .i64 0) 1 8 Tryz.underlying45 hi hz0 hz1 hz2 rfl (by decide) _ _ _ rfl (World.ownsRow.alloc (show ((wr.alloc (.cells #[.int .i64 o, .int .i64 i, .int .i64 b0] 62)).drewN m2).ownsRow (q + 1) 3 1 _ _ _ from World.ownsRow.alloc own'.out _) _) ⟨wr.heap.size + 1, 0, none⟩ 1 1 [Value.int .i64 tt] rfl rfl ?c1 ?c2 ?c3 ?c4 ?c5 ?_))
        case c1 =>
          intro j u hj
          match j, hj with
          | 0, hj => simp at hj; subst hj; exact newCell _ _ _ _ _
        case c2 => intro u hu; simp at hu; subst hu; rfl
        case c3 => unfold maxLen; omega
        case c4 => omega
        case c5 => simp; omega
        intro v' w3 hown1 hgrow _ hat
        have own3 : Hid (OwnS (q + 1) w3 v' (acc ++ [tt])) := own_snoc (by rw [hacc'.out]; exact hown1)
        have W3 := World.grownBy_alloc ((wr.alloc (.cells #[.int .i64 o, .int .i64 i, .int .i64 b0] 62)).drewN m2) (.cells #[.int .i64 tt] 3) none
        have bw3 : Hid (BW w3 q (fF p m s x (some ⟨b, off, none⟩) l.length cb) h (.slice (some ⟨g, 0, none⟩) (n + 1) cap) st) := bwGrown (((bw'.out.alloc (.cells #[.int .i64 o, .int .i64 i, .int .i64 b0] 62)).drewN m2).alloc (.cells #[.int .i64 tt] 3)) hgrow (fun e => by have := (lts q e.symm).1; omega) (fun k' e e' => hsep'.out k' e'.symm e)
        have ci : w3.cell? ⟨wr.heap.size, 0, none⟩ = some (.int .i64 o) ∧ w3.cell? ⟨wr.heap.size, 1, none⟩ = some (.int .i64 i) ∧ w3.cell? ⟨wr.heap.size, 2, none⟩ = some (.int .i64 b0) := by
          refine ⟨?_, ?_, ?_⟩ <;> rw [grown_cell hgrow (by simp; omega) (fun e => by have := (lts _ e).2; omega)] <;> exact oldCell _ _ _ _ _ _ (by simp)
        obtain ⟨ci0, ci1, ci2⟩ := ci
        have bel3 : Hid (Below (w.heap.size + 2) w0 w3) := (((bel'.out.alloc hsz (.cells #[.int .i64 o, .int .i64 i, .int .i64 b0] 62)).trans ((below_dn _ m2).mono (by simp; omega))).alloc (by simp; omega) (.cells #[.int .i64 tt] 3)).grown hgrow (by simp; omega) (fun k' e => by have := (lts k' e).1; omega)
        have sep3 : Hid (∀ ga, v'.ownBlock = some ga → (Value.slice (some ⟨g, 0, none⟩) (n + 1) cap).ownBlock ≠ some ga) := fun ga e => by
          rcases hat with z | z
          · exact hsep'.out ga (z.symm.trans e)
          · intro e2
            have : g = ga := by simpa [Value.ownBlock] using e2
            have h3 : ga = wr.heap.size + 1 + 1 := by rw [z] at e; simp at e; omega
            omega
        have lt3 : Hid (∀ ga, v'.ownBlock = some ga → q + 1 ≤ ga ∧ ga < w3.heap.size) := World.ownsRow.lt own3.out
        clear hown1 hgrow hat W3 x1 kTo1
        obtain ⟨av3, cv3, hv3⟩ := OwnS.form0 own3.out
        rw [List.length_append, List.length_singleton, hacc'.out] at hv3
        subst hv3
        go_wp2_with (go_at_call 80; refine (kSt.out _ _ bw3.out bel3.out).mono ?_; rintro e w4 ⟨ok, h4, v4, st4, rfl, bw4, kp4, hr⟩; have bw4' : Hid (BW w4 q (fF p m s x (some ⟨b, off, none⟩) l.length cb) h4 v4 st4) := bw4; have kp4' : Hid (Kp q w3 w4 (.slice (some ⟨g, 0, none⟩) (n + 1) cap) v4) := kp4; have hr' : Hid (X = if ok = true then some (h4, st4) else none) := hr; clear bw4 kp4 hr; cases ok)
        · have own4 := ownKp own3.out kp4'.out (by omega) sep3.out
          have e1 : Hid (R = (acc ++ [tt], (k : Int))) := hWf.out hr'.out
          have bel4 : Hid (Below w.heap.size w w4) := (hbx0.out.trans ((bel3.out.trans (kpBelow kp4'.out (B := w.heap.size + 2) hq (by have := bel3.out.size; omega) (fun g' e => by have := ownB_eq e; omega))).mono (by omega)))
          go_ret2
          rw [e1.out]
          exact ⟨_, rfl, ownLow own4 (by omega), bel4.out⟩
        · have own4 : Hid (OwnS (q + 1) w4 (.slice av3 (k + 1) cv3) (acc ++ [tt])) := ownKp own3.out kp4'.out (by omega) sep3.out
          have bel4 : Hid (Below (w.heap.size + 2) w0 w4) := bel3.out.trans (kpBelow kp4'.out (B := w.heap.size + 2) hq (by have := bel3.out.size; omega) (fun g' e => by have := ownB_eq e; omega))
          obtain ⟨nx1, nx2⟩ := hNx.out _ hr'.out
          have sep4 := sepKp kp4'.out (fun ga e => (lt3.out ga e).2) sep3.out
          go_roundw
          case rel => exact ⟨k + 1, f, acc ++ [tt], h4, v4, st4, sh', by omega, by go_num, own4.out, by rw [List.length_append, List.length_singleton, hacc'.out], bw4'.out, sep4, nx1, hSh.out.1, by rw [hSh.out.2]; exact nx2.symm, by rw [show st4.length = _ from nx2]; unfold nOpen; split <;> (try split) <;> omega, hWn.out _ hr'.out, bel4.out⟩
          case measure => simp [intOf]; omega
    · obtain rfl : k = l.length := by omega
      obtain rfl : f = 0 := by omega
      have hn0 : n = 0 := by
        have : shpF l 0 l.length sh = true := hsh
        have := of_decide_eq_true (show decide (sh.length = 0) = true from this)
        omega
      subst hn0
      have e1 : Hid (R = if closes (h, st) = true then (acc, -1) else (acc, (l.length : Int))) := hw'.out.symm
      obtain ⟨t0, t1, t2, t3⟩ := hB'.out.top (by show st.length ≠ 0; omega)
      have hlo := hB'.out.lo
      have hhi := hB'.out.hi
      simp only [top_is hn.symm] at t0 t1 t2 t3
      dsimp only at hlo hhi
      have kC : Hid (∀ u : World, BW u q (fF p m s x a l.length cb) h (.slice (some ⟨g, 0, none⟩) 1 cap) st → Calls Tryz.prog 81 #[.pointer (some ⟨q, 0, none⟩)] u fun e w' => e = .returned (.bool (closes (h, st))) ∧ Res u q (fF p m s x a l.length cb) (.slice (some ⟨g, 0, none⟩) 1 cap) (PlainValid.close (h, st)) e w') := fun u hu => closeR q g 0 cap u (fF p m s x a l.length cb) h st hu (by omega) (by omega) (by omega) (by omega) (by omega) (by omega)
      have lts := World.ownsRow.lt own'.out
      have cB := hbx.out _ bel
      clear own bw hsh hst hle hacc bel hw' hB' t0 t1 t2 t3 hlo hhi
      generalize closes (h, st) = C at *
      generalize PlainValid.close (h, st) = Y at *
      cases C with
      | true =>
        have e2 : Hid (R = (acc, -1)) := e1.out
        go_wp2_with (go_at_call 81; refine (kC.out _ bw'.out).mono ?_; rintro e w4 ⟨rfl, ok, h4, v4, st4, _, _, kp4, _⟩; have kp4' : Hid (Kp q wr w4 (.slice (some ⟨g, 0, none⟩) 1 cap) v4) := kp4; clear kp4)
        have own4 : Hid (w4.ownsRow (q + 1) 3 1 (.slice av l.length cv') l.length (acc.map fun z => .int .i64 z)) := by
          have := ownKp (vl := .slice av l.length cv') (acc := acc) (B := q + 1) (w := wr) (show wr.ownsRow _ _ _ _ _ _ by rw [hacc'.out]; exact own'.out) kp4'.out (by omega) hsep'.out
          unfold OwnS at this
          rw [hacc'.out] at this
          exact this
        have bel4 : Hid (Below w.heap.size w w4) := (hbx0.out.trans ((bel'.out.trans (kpBelow kp4'.out (B := w.heap.size + 2) hq (by omega) (fun g' e => by have := ownB_eq e; omega))).mono (by omega)))
        go_ret2
        rw [e2.out]
        refine ⟨_, rfl, ownLow (B := q + 1) ?_ (by omega), bel4.out⟩
        unfold OwnS
        rw [hacc'.out]
        exact own4.out
      | false =>
        have e2 : Hid (R = (acc, (l.length : Int))) := e1.out
        go_wp2_with (go_at_call 81; refine (kC.out _ bw'.out).mono ?_; rintro e w4 ⟨rfl, ok, h4, v4, st4, _, _, kp4, _⟩; have cB4 := kp4.cell cB (by omega) (by simp [Value.ownBlock]; omega); have kp4' : Hid (Kp q wr w4 (.slice (some ⟨g, 0, none⟩) 1 cap) v4) := kp4; clear kp4)
        have own4 : Hid (w4.ownsRow (q + 1) 3 1 (.slice av l.length cv') l.length (acc.map fun z => .int .i64 z)) := by
          have := ownKp (vl := .slice av l.length cv') (acc := acc) (B := q + 1) (w := wr) (show wr.ownsRow _ _ _ _ _ _ by rw [hacc'.out]; exact own'.out) kp4'.out (by omega) hsep'.out
          unfold OwnS at this
          rw [hacc'.out] at this
          exact this
        have bel4 : Hid (Below w.heap.size w w4) := (hbx0.out.trans ((bel'.out.trans (kpBelow kp4'.out (B := w.heap.size + 2) hq (by omega) (fun g' e => by have := ownB_eq e; omega))).mono (by omega)))
        go_quiet (fail)
        go_wp2_with fail
        go_ret2
        rw [e2.out]
        refine ⟨_, rfl, ownLow (B := q + 1) ?_ (by omega), bel4.out.trans ⟨rfl, rfl, rfl, Nat.le_refl _, fun _ _ => rfl⟩⟩
        unfold OwnS
        rw [hacc'.out]
        exact own4.out
end Go.Proofs.YtajlkdidjelpeaaGreatDoor.ValidHeights
namespace Go.Proofs.YtajlkdidjelpeaaGreatDoor.ValidFace
open Go.RowKit PlainOps NameCalls PlainNum NumCalls InsCalls InsImpl PlainShape InsMem PlainAll ShapeCalls FormCalls ModMem FormImpl PlainValid ValidCtx ValidMod Piles ValidIns ValidStep ValidWalk ValidHeights

/-- There is such a function, in a module of right form. -/
def hasF (m : M) (i : Int) : Bool := formOk m && wi i 0 ((m.fns.length : Int) - 1)
def bodyOf (m : M) (j : Nat) : List Int × Int := body (ctxOf m (MemFunc.at1 m.fns j).sig (MemFunc.at1 m.fns j).loc) (MemFunc.at1 m.fns j).body
def faultAt (m : M) (i : Int) : Int := if hasF m i = true then (bodyOf m i.toNat).2 else -2
def stackAt (m : M) (i : Int) : Option (List Int) := if faultAt m i = -1 then some (bodyOf m i.toNat).1 else none
def maxL : List Int → Int → Int
  | [], q => q
  | x :: l, q => maxL l (if q < x then x else q)
def maxStack (m : M) (i : Int) : Int := match stackAt m i with
  | none => -1
  | some l => maxL l 0
theorem bodyOf_same {m m' : M} (s : Same m m') {j : Nat} (hj : j < m.fns.length) : bodyOf m' j = bodyOf m j := by
  obtain ⟨a, b, c⟩ := s.s2 j hj
  unfold bodyOf
  rw [a, b, c, ctx_same s]
theorem hasF_same {m m' : M} (s : Same m m') (i : Int) : hasF m' i = hasF m i := by unfold hasF; rw [formOk_same s, s.n2]
theorem hasF_lt {m : M} {i : Int} (h : hasF m i = true) : formOk m = true ∧ 0 ≤ i ∧ i < m.fns.length := by
  unfold hasF at h
  simp only [Bool.and_eq_true] at h
  have := wi_is h.2
  exact ⟨h.1, this.1, by omega⟩
theorem faultAt_same {m m' : M} (s : Same m m') (i : Int) : faultAt m' i = faultAt m i := by
  unfold faultAt
  rw [hasF_same s]
  split
  · rename_i h
    obtain ⟨_, h0, h1⟩ := hasF_lt h
    rw [bodyOf_same s (by omega)]
  · rfl
theorem stackAt_same {m m' : M} (s : Same m m') (i : Int) : stackAt m' i = stackAt m i := by
  unfold stackAt
  rw [faultAt_same s]
  split
  · rename_i h
    unfold faultAt at h
    split at h
    · rename_i h'
      obtain ⟨_, h0, h1⟩ := hasF_lt h'
      rw [bodyOf_same s (by omega)]
    · omega
  · rfl
theorem maxStack_same {m m' : M} (s : Same m m') (i : Int) : maxStack m' i = maxStack m i := by unfold maxStack; rw [stackAt_same s]
/-- What the face's functions want. -/
structure Mod (w : World) (p : P) (m : M) : Prop where
  rd : Rd w p m
  sm : Small m
  tab : Tab w
  utf : Utf w
theorem Mod.later {w u : World} {p : P} {m : M} (h : Mod w p m) (hb : Below w.heap.size w u) : Mod u p m := ⟨h.rd.later hb, h.sm, h.tab.later hb, UtfLaw.tabs_later h.utf hb⟩
set_option maxRecDepth 20000 in
set_option maxHeartbeats 4000000 in
theorem hasFunc (w : World) (p : P) (m : M) (i : Int) (h : Mod w p m) :
    Calls Tryz.prog 38 #[.agg #[.slice p.a0 m.sigs.length p.c0, .slice p.a1 m.imps.length p.c1, .slice p.a2 m.fns.length p.c2, .int .i64 m.pages, .int .i64 m.most, .slice p.a3 m.gls.length p.c3, .slice p.a4 m.exs.length p.c4, .slice p.a5 m.dat.length p.c5], .int .i64 i] w fun e w' => e = .returned (.bool (hasF m i)) ∧ Below w.heap.size w w' := by
  have kF : Hid (∀ u : World, Below w.heap.size w u → Calls Tryz.prog 47 #[.agg #[.slice p.a0 m.sigs.length p.c0, .slice p.a1 m.imps.length p.c1, .slice p.a2 m.fns.length p.c2, .int .i64 m.pages, .int .i64 m.most, .slice p.a3 m.gls.length p.c3, .slice p.a4 m.exs.length p.c4, .slice p.a5 m.dat.length p.c5]] u fun e w' => e = .returned (.bool (formOk m)) ∧ Below u.heap.size u w') := fun u hu => impl_formOk u p m (h.rd.later hu) h.sm (h.tab.later hu) (UtfLaw.tabs_later h.utf hu)
  have kW : Hid (∀ u : World, Calls Tryz.prog 77 #[.int .i64 i, .int .i64 0, .int .i64 ((m.fns.length : Int) - 1)] u fun e w' => e = .returned (.bool (wi i 0 ((m.fns.length : Int) - 1))) ∧ u = w') := fun u => impl_within _ _ _ u
  have hr : Hid ((w.alloc (.cells #[.slice p.a0 m.sigs.length p.c0, .slice p.a1 m.imps.length p.c1, .slice p.a2 m.fns.length p.c2, .int .i64 m.pages, .int .i64 m.most, .slice p.a3 m.gls.length p.c3, .slice p.a4 m.exs.length p.c4, .slice p.a5 m.dat.length p.c5] 39)).rowIs w.heap.size 39 8 (R8 (.slice p.a0 m.sigs.length p.c0) (.slice p.a1 m.imps.length p.c1) (.slice p.a2 m.fns.length p.c2) (.int .i64 m.pages) (.int .i64 m.most) (.slice p.a3 m.gls.length p.c3) (.slice p.a4 m.exs.length p.c4) (.slice p.a5 m.dat.length p.c5))) := r8_made w (.slice p.a0 m.sigs.length p.c0) (.slice p.a1 m.imps.length p.c1) (.slice p.a2 m.fns.length p.c2) (.int .i64 m.pages) (.int .i64 m.most) (.slice p.a3 m.gls.length p.c3) (.slice p.a4 m.exs.length p.c4) (.slice p.a5 m.dat.length p.c5) 39
  have hs := h.sm.n2
  unfold hasF
  generalize formOk m = A at *
  generalize wi i 0 ((m.fns.length : Int) - 1) = B at *
  clear h
  generalize m.sigs.length = N0 at *
  generalize m.imps.length = N1 at *
  generalize m.fns.length = N2 at *
  generalize m.gls.length = N3 at *
  generalize m.exs.length = N4 at *
  generalize m.dat.length = N5 at *
  cases A with
  | false =>
    go_enter Tryz.func38, Tryz.ntmps38
    go_wp2_with (go_at_call 47; refine (kF.out _ ((Below.refl _ _).alloc (Nat.le_refl _) _)).mono ?_; rintro e w1 ⟨rfl, q1⟩)
    go_ret
    exact ⟨rfl, belB q1⟩
  | true =>
    go_enter Tryz.func38, Tryz.ntmps38
    go_wp2_with (first | (go_at_call 47; refine (kF.out _ ((Below.refl _ _).alloc (Nat.le_refl _) _)).mono ?_; rintro e w1 ⟨rfl, q1⟩; obtain ⟨_, _, _, _, _, _, _, _⟩ := r8 (row_later hr.out q1)) | (go_at_call 77; refine (kW.out _).mono ?_; rintro e w2 ⟨rfl, rfl⟩))
    go_ret
    exact ⟨by cases B <;> rfl, belB q1⟩
theorem bod_of {w : World} {p : P} {m : M} {j : Nat} (h : Mod w p m) (hf : formOk m = true) (hj : j < m.fns.length) : Bod w p m (MemFunc.at1 m.fns j).sig (MemFunc.at1 m.fns j).loc (MemFunc.at1 m.fns j).ad (MemFunc.at1 m.fns j).body := by
  have f := facts hf
  obtain ⟨f0, f1, f2, f3, f4⟩ := f.fn j hj
  refine ⟨h.rd, f, f0, f1, ⟨f2, f3⟩, ?_, f4⟩
  obtain ⟨_, _, hF, _⟩ := h.rd
  rcases hF with h0 | ⟨b, off, _, hc⟩
  · omega
  · exact (hc j hj).2.2.2
theorem fn_cells {w : World} {p : P} {m : M} {j : Nat} (h : Rd w p m) (hj : j < m.fns.length) : ∃ b off, p.a2 = some ⟨b, off, none⟩ ∧ w.cell? ⟨b, off + j * 3, none⟩ = some (.int .i64 (MemFunc.at1 m.fns j).sig) ∧ w.cell? ⟨b, off + j * 3 + 1, none⟩ = some (.int .i64 (MemFunc.at1 m.fns j).loc) ∧ w.cell? ⟨b, off + j * 3 + 2, none⟩ = some (.slice (MemFunc.at1 m.fns j).ad (MemFunc.at1 m.fns j).body.length (MemFunc.at1 m.fns j).cp) := by
  obtain ⟨_, _, hF, _⟩ := h
  rcases hF with h0 | ⟨b, off, ha, hc⟩
  · omega
  · obtain ⟨x, y, z, _⟩ := hc j hj
    exact ⟨b, off, ha, x, y, z⟩
set_option maxRecDepth 20000 in
set_option maxHeartbeats 8000000 in
theorem impl_faultAt (w : World) (p : P) (m : M) (i : Int) (h : Mod w p m) :
    Calls Tryz.prog 10 #[.agg #[.slice p.a0 m.sigs.length p.c0, .slice p.a1 m.imps.length p.c1, .slice p.a2 m.fns.length p.c2, .int .i64 m.pages, .int .i64 m.most, .slice p.a3 m.gls.length p.c3, .slice p.a4 m.exs.length p.c4, .slice p.a5 m.dat.length p.c5], .int .i64 i] w fun e w' => e = .returned (.int .i64 (faultAt m i)) ∧ Below w.heap.size w w' := by
  have kF : Hid (∀ u : World, Below w.heap.size w u → Calls Tryz.prog 38 #[.agg #[.slice p.a0 m.sigs.length p.c0, .slice p.a1 m.imps.length p.c1, .slice p.a2 m.fns.length p.c2, .int .i64 m.pages, .int .i64 m.most, .slice p.a3 m.gls.length p.c3, .slice p.a4 m.exs.length p.c4, .slice p.a5 m.dat.length p.c5], .int .i64 i] u fun e w' => e = .returned (.bool (hasF m i)) ∧ Below u.heap.size u w') := fun u hu => hasFunc u p m i (h.later hu)
  have hr : Hid ((w.alloc (.cells #[.slice p.a0 m.sigs.length p.c0, .slice p.a1 m.imps.length p.c1, .slice p.a2 m.fns.length p.c2, .int .i64 m.pages, .int .i64 m.most, .slice p.a3 m.gls.length p.c3, .slice p.a4 m.exs.length p.c4, .slice p.a5 m.dat.length p.c5] 39)).rowIs w.heap.size 39 8 (R8 (.slice p.a0 m.sigs.length p.c0) (.slice p.a1 m.imps.length p.c1) (.slice p.a2 m.fns.length p.c2) (.int .i64 m.pages) (.int .i64 m.most) (.slice p.a3 m.gls.length p.c3) (.slice p.a4 m.exs.length p.c4) (.slice p.a5 m.dat.length p.c5))) := r8_made w (.slice p.a0 m.sigs.length p.c0) (.slice p.a1 m.imps.length p.c1) (.slice p.a2 m.fns.length p.c2) (.int .i64 m.pages) (.int .i64 m.most) (.slice p.a3 m.gls.length p.c3) (.slice p.a4 m.exs.length p.c4) (.slice p.a5 m.dat.length p.c5) 39
  cases hH : hasF m i with
  | false =>
    rw [hH] at kF
    have e1 : Hid (faultAt m i = -2) := by show _ = _; unfold faultAt; rw [hH]; rfl
    rw [e1.out]
    clear h hH e1
    generalize m.sigs.length = N0 at *
    generalize m.imps.length = N1 at *
    generalize m.fns.length = N2 at *
    generalize m.gls.length = N3 at *
    generalize m.exs.length = N4 at *
    generalize m.dat.length = N5 at *
    go_enter Tryz.func10, Tryz.ntmps10
    go_wp2_with (go_at_call 38; refine (kF.out _ ((Below.refl _ _).alloc (Nat.le_refl _) _)).mono ?_; rintro e w1 ⟨rfl, q1⟩)
    go_ret
    exact ⟨rfl, belB q1⟩
  | true =>
    rw [hH] at kF
    obtain ⟨hf, i0, i1⟩ := hasF_lt hH
    obtain ⟨j, rfl⟩ : ∃ j : Nat, i = j := ⟨i.toNat, by omega⟩
    have hj : j < m.fns.length := by omega
    have hj' : (j : Int) < (m.fns.length : Int) := i1
    obtain ⟨b, off, ha, _, _, _⟩ := fn_cells h.rd hj
    have hcs : Hid (∀ u : World, Below w.heap.size w u → u.cell? ⟨b, off + j * 3, none⟩ = some (.int .i64 (MemFunc.at1 m.fns j).sig) ∧ u.cell? ⟨b, off + j * 3 + 1, none⟩ = some (.int .i64 (MemFunc.at1 m.fns j).loc) ∧ u.cell? ⟨b, off + j * 3 + 2, none⟩ = some (.slice (MemFunc.at1 m.fns j).ad (MemFunc.at1 m.fns j).body.length (MemFunc.at1 m.fns j).cp)) := fun u hu => by
      obtain ⟨b', off', ha', x, y, z⟩ := fn_cells (h.rd.later hu) hj
      rw [ha] at ha'
      simp only [Option.some.injEq, Addr.mk.injEq, and_true] at ha'
      obtain ⟨rfl, rfl⟩ := ha'
      exact ⟨x, y, z⟩
    have kH : Hid (∀ u : World, Below w.heap.size w u → Calls Tryz.prog 39 #[.agg #[.slice p.a0 m.sigs.length p.c0, .slice p.a1 m.imps.length p.c1, .slice p.a2 m.fns.length p.c2, .int .i64 m.pages, .int .i64 m.most, .slice p.a3 m.gls.length p.c3, .slice p.a4 m.exs.length p.c4, .slice p.a5 m.dat.length p.c5], .agg #[.int .i64 (MemFunc.at1 m.fns j).sig, .int .i64 (MemFunc.at1 m.fns j).loc, .slice (MemFunc.at1 m.fns j).ad (MemFunc.at1 m.fns j).body.length (MemFunc.at1 m.fns j).cp]] u fun e w' => ∃ v, e = .returned (.tuple #[v, .int .i64 (bodyOf m j).2]) ∧ OwnS u.heap.size w' v (bodyOf m j).1 ∧ Below u.heap.size u w') := fun u hu => heights p m _ _ _ _ _ u (bod_of (h.later hu) hf hj)
    have e1 : Hid (faultAt m (j : Int) = (bodyOf m j).2) := by show _ = _; unfold faultAt; rw [if_pos hH]; rfl
    rw [e1.out]
    clear e1
    generalize (bodyOf m j).2 = R at *
    generalize (bodyOf m j).1 = L at *
    rw [ha] at kF kH hr ⊢
    clear h hH hf i0 i1 hj
    generalize (MemFunc.at1 m.fns j).sig = S at *
    generalize (MemFunc.at1 m.fns j).loc = X at *
    generalize (MemFunc.at1 m.fns j).ad = AD at *
    generalize (MemFunc.at1 m.fns j).body.length = NB at *
    generalize (MemFunc.at1 m.fns j).cp = CP at *
    generalize m.sigs.length = N0 at *
    generalize m.imps.length = N1 at *
    generalize m.fns.length = N2 at *
    generalize m.gls.length = N3 at *
    generalize m.exs.length = N4 at *
    generalize m.dat.length = N5 at *
    go_enter Tryz.func10, Tryz.ntmps10
    go_wp2_with (go_at_call 38; refine (kF.out _ ((Below.refl _ _).alloc (Nat.le_refl _) _)).mono ?_; rintro e w1 ⟨rfl, q1⟩; have b1 : Hid (Below w.heap.size w w1) := belB q1; obtain ⟨_, _, _, _, _, _, _, _⟩ := r8 (row_later hr.out q1); obtain ⟨_, _, _⟩ := hcs.out _ b1.out)
    go_region_with (go_at_call 39; refine (kH.out _ b1.out.drew).mono ?_; rintro e w2 ⟨vl, rfl, o2, q2⟩; have o2' : Hid (OwnS w1.heap.size w2 vl L) := o2; clear o2)
    all_goals
      go_wp2_with fail
      go_ret
      exact ⟨rfl, b1.out.drew.trans (q2.mono b1.out.size)⟩
set_option maxRecDepth 20000 in
set_option maxHeartbeats 8000000 in
theorem impl_stackAt (w : World) (p : P) (m : M) (i : Int) (h : Mod w p m) :
    Calls Tryz.prog 15 #[.agg #[.slice p.a0 m.sigs.length p.c0, .slice p.a1 m.imps.length p.c1, .slice p.a2 m.fns.length p.c2, .int .i64 m.pages, .int .i64 m.most, .slice p.a3 m.gls.length p.c3, .slice p.a4 m.exs.length p.c4, .slice p.a5 m.dat.length p.c5], .int .i64 i] w fun e w' => (match stackAt m i with
    | none => e = .returned (.tuple #[.slice none 0 0, .bool false])
    | some l => ∃ v, e = .returned (.tuple #[v, .bool true]) ∧ OwnS w.heap.size w' v l) ∧ Below w.heap.size w w' := by
  have kF : Hid (∀ u : World, Below w.heap.size w u → Calls Tryz.prog 38 #[.agg #[.slice p.a0 m.sigs.length p.c0, .slice p.a1 m.imps.length p.c1, .slice p.a2 m.fns.length p.c2, .int .i64 m.pages, .int .i64 m.most, .slice p.a3 m.gls.length p.c3, .slice p.a4 m.exs.length p.c4, .slice p.a5 m.dat.length p.c5], .int .i64 i] u fun e w' => e = .returned (.bool (hasF m i)) ∧ Below u.heap.size u w') := fun u hu => hasFunc u p m i (h.later hu)
  have hr : Hid ((w.alloc (.cells #[.slice p.a0 m.sigs.length p.c0, .slice p.a1 m.imps.length p.c1, .slice p.a2 m.fns.length p.c2, .int .i64 m.pages, .int .i64 m.most, .slice p.a3 m.gls.length p.c3, .slice p.a4 m.exs.length p.c4, .slice p.a5 m.dat.length p.c5] 39)).rowIs w.heap.size 39 8 (R8 (.slice p.a0 m.sigs.length p.c0) (.slice p.a1 m.imps.length p.c1) (.slice p.a2 m.fns.length p.c2) (.int .i64 m.pages) (.int .i64 m.most) (.slice p.a3 m.gls.length p.c3) (.slice p.a4 m.exs.length p.c4) (.slice p.a5 m.dat.length p.c5))) := r8_made w (.slice p.a0 m.sigs.length p.c0) (.slice p.a1 m.imps.length p.c1) (.slice p.a2 m.fns.length p.c2) (.int .i64 m.pages) (.int .i64 m.most) (.slice p.a3 m.gls.length p.c3) (.slice p.a4 m.exs.length p.c4) (.slice p.a5 m.dat.length p.c5) 39
  cases hH : hasF m i with
  | false =>
    rw [hH] at kF
    have e1 : Hid (stackAt m i = none) := by show _ = _; unfold stackAt faultAt; rw [hH]; rfl
    rw [e1.out]
    clear h hH e1
    generalize m.sigs.length = N0 at *
    generalize m.imps.length = N1 at *
    generalize m.fns.length = N2 at *
    generalize m.gls.length = N3 at *
    generalize m.exs.length = N4 at *
    generalize m.dat.length = N5 at *
    go_enter Tryz.func15, Tryz.ntmps15
    go_wp2_with (go_at_call 38; refine (kF.out _ ((Below.refl _ _).alloc (Nat.le_refl _) _)).mono ?_; rintro e w1 ⟨rfl, q1⟩)
    go_ret2
    exact ⟨rfl, belB q1⟩
  | true =>
    rw [hH] at kF
    obtain ⟨hf, i0, i1⟩ := hasF_lt hH
    obtain ⟨j, rfl⟩ : ∃ j : Nat, i = j := ⟨i.toNat, by omega⟩
    have hj : j < m.fns.length := by omega
    have hj' : (j : Int) < (m.fns.length : Int) := i1
    obtain ⟨b, off, ha, _, _, _⟩ := fn_cells h.rd hj
    have hcs : Hid (∀ u : World, Below w.heap.size w u → u.cell? ⟨b, off + j * 3, none⟩ = some (.int .i64 (MemFunc.at1 m.fns j).sig) ∧ u.cell? ⟨b, off + j * 3 + 1, none⟩ = some (.int .i64 (MemFunc.at1 m.fns j).loc) ∧ u.cell? ⟨b, off + j * 3 + 2, none⟩ = some (.slice (MemFunc.at1 m.fns j).ad (MemFunc.at1 m.fns j).body.length (MemFunc.at1 m.fns j).cp)) := fun u hu => by
      obtain ⟨b', off', ha', x, y, z⟩ := fn_cells (h.rd.later hu) hj
      rw [ha] at ha'
      simp only [Option.some.injEq, Addr.mk.injEq, and_true] at ha'
      obtain ⟨rfl, rfl⟩ := ha'
      exact ⟨x, y, z⟩
    have kH : Hid (∀ u : World, Below w.heap.size w u → Calls Tryz.prog 39 #[.agg #[.slice p.a0 m.sigs.length p.c0, .slice p.a1 m.imps.length p.c1, .slice p.a2 m.fns.length p.c2, .int .i64 m.pages, .int .i64 m.most, .slice p.a3 m.gls.length p.c3, .slice p.a4 m.exs.length p.c4, .slice p.a5 m.dat.length p.c5], .agg #[.int .i64 (MemFunc.at1 m.fns j).sig, .int .i64 (MemFunc.at1 m.fns j).loc, .slice (MemFunc.at1 m.fns j).ad (MemFunc.at1 m.fns j).body.length (MemFunc.at1 m.fns j).cp]] u fun e w' => ∃ v, e = .returned (.tuple #[v, .int .i64 (bodyOf m j).2]) ∧ OwnS u.heap.size w' v (bodyOf m j).1 ∧ Below u.heap.size u w') := fun u hu => heights p m _ _ _ _ _ u (bod_of (h.later hu) hf hj)
    have e0 : Hid (faultAt m (j : Int) = (bodyOf m j).2) := by show _ = _; unfold faultAt; rw [if_pos hH]; rfl
    have e1 : Hid (stackAt m (j : Int) = if (bodyOf m j).2 = -1 then some (bodyOf m j).1 else none) := by show _ = _; unfold stackAt; rw [e0.out]; rfl
    rw [e1.out]
    clear e1 e0
    generalize (bodyOf m j).2 = R at *
    generalize (bodyOf m j).1 = L at *
    rw [ha] at kF kH hr ⊢
    clear h hH hf i0 i1 hj
    generalize (MemFunc.at1 m.fns j).sig = S at *
    generalize (MemFunc.at1 m.fns j).loc = X at *
    generalize (MemFunc.at1 m.fns j).ad = AD at *
    generalize (MemFunc.at1 m.fns j).body.length = NB at *
    generalize (MemFunc.at1 m.fns j).cp = CP at *
    generalize m.sigs.length = N0 at *
    generalize m.imps.length = N1 at *
    generalize m.fns.length = N2 at *
    generalize m.gls.length = N3 at *
    generalize m.exs.length = N4 at *
    generalize m.dat.length = N5 at *
    by_cases hR : R = -1
    · subst hR
      rw [if_pos rfl]
      go_enter Tryz.func15, Tryz.ntmps15
      go_wp2_with (go_at_call 38; refine (kF.out _ ((Below.refl _ _).alloc (Nat.le_refl _) _)).mono ?_; rintro e w1 ⟨rfl, q1⟩; have b1 : Hid (Below w.heap.size w w1) := belB q1; obtain ⟨_, _, _, _, _, _, _, _⟩ := r8 (row_later hr.out q1); obtain ⟨_, _, _⟩ := hcs.out _ b1.out)
      go_region_with (go_at_call 39; refine (kH.out _ b1.out.drew).mono ?_; rintro e w2 ⟨vl, rfl, o2, q2⟩; have o2' : Hid (OwnS w1.heap.size w2 vl L) := o2; clear o2)
      all_goals
        go_wp2_with fail
        go_ret2
        exact ⟨⟨_, rfl, ownLow o2'.out b1.out.size⟩, b1.out.drew.trans (q2.mono b1.out.size)⟩
    · rw [if_neg hR]
      have hR1 : (R == -1) = false := by simpa using hR
      have hR2 : (R != -1) = true := by simpa using hR
      clear hR
      go_enter Tryz.func15, Tryz.ntmps15
      go_wp2_with (go_at_call 38; refine (kF.out _ ((Below.refl _ _).alloc (Nat.le_refl _) _)).mono ?_; rintro e w1 ⟨rfl, q1⟩; have b1 : Hid (Below w.heap.size w w1) := belB q1; obtain ⟨_, _, _, _, _, _, _, _⟩ := r8 (row_later hr.out q1); obtain ⟨_, _, _⟩ := hcs.out _ b1.out)
      go_region_with (go_at_call 39; refine (kH.out _ b1.out.drew).mono ?_; rintro e w2 ⟨vl, rfl, o2, q2⟩; have o2' : Hid (OwnS w1.heap.size w2 vl L) := o2; clear o2)
      all_goals
        go_wp2_with fail
        go_ret2
        exact ⟨rfl, b1.out.drew.trans (q2.mono b1.out.size)⟩
end Go.Proofs.YtajlkdidjelpeaaGreatDoor.ValidFace
namespace Go.Proofs.YtajlkdidjelpeaaGreatDoor.ValidMax
open Go.RowKit PlainOps NameCalls PlainNum NumCalls InsCalls InsImpl PlainShape InsMem PlainAll ShapeCalls FormCalls ModMem FormImpl PlainValid ValidCtx ValidMod Piles ValidIns ValidStep ValidWalk ValidHeights ValidFace

theorem maxL_at {l : List Int} {k : Nat} (hk : k < l.length) (q : Int) : maxL (l.drop k) q = maxL (l.drop (k + 1)) (if q < l.getD k 0 then l.getD k 0 else q) := by
  rw [List.drop_eq_getElem_cons hk, maxL]
  simp [List.getD, hk]
theorem ownS_rows {B : Nat} {w : World} {v : Value} {l : List Int} (h : OwnS B w v l) : ∃ a cap, v = .slice a l.length cap ∧ (l.length = 0 ∨ ∃ g, a = some ⟨g, 0, none⟩ ∧ ∀ j, j < l.length → w.cell? ⟨g, j, none⟩ = some (.int .i64 (l.getD j 0))) := by
  by_cases h0 : l.length = 0
  · obtain ⟨a, cap, hv⟩ := h.form0
    exact ⟨a, cap, hv, .inl h0⟩
  · obtain ⟨g, cap, hv, _, _, _⟩ := h.form h0
    subst hv
    exact ⟨_, cap, rfl, .inr ⟨g, rfl, fun j hj => h.cell j hj⟩⟩
theorem body_len (m : M) (j : Nat) : (bodyOf m j).1.length ≤ (MemFunc.at1 m.fns j).body.length := by
  have := (walk_len (ctxOf m (MemFunc.at1 m.fns j).sig (MemFunc.at1 m.fns j).loc) (MemFunc.at1 m.fns j).body (MemFunc.at1 m.fns j).body.length 0 (PlainValid.start (ctxOf m (MemFunc.at1 m.fns j).sig (MemFunc.at1 m.fns j).loc)) []).2
  unfold bodyOf body
  simpa using this
theorem stack_len {m : M} {i : Int} {l : List Int} (h : stackAt m i = some l) : l.length ≤ 1500 := by
  unfold stackAt at h
  split at h
  · rename_i hf
    unfold faultAt at hf
    split at hf
    · rename_i hh
      obtain ⟨h1, h2, h3⟩ := hasF_lt hh
      have := body_len m i.toNat
      have hb := ((facts h1).fn i.toNat (by omega)).2.2.2.2
      unfold boOk at hb
      simp only [Bool.and_eq_true] at hb
      have := of_decide_eq_true hb.1
      cases h
      omega
    · omega
  · cases h
set_option maxRecDepth 20000 in
set_option maxHeartbeats 8000000 in
theorem impl_maxStack (w : World) (p : P) (m : M) (i : Int) (h : Mod w p m) :
    Calls Tryz.prog 21 #[.agg #[.slice p.a0 m.sigs.length p.c0, .slice p.a1 m.imps.length p.c1, .slice p.a2 m.fns.length p.c2, .int .i64 m.pages, .int .i64 m.most, .slice p.a3 m.gls.length p.c3, .slice p.a4 m.exs.length p.c4, .slice p.a5 m.dat.length p.c5], .int .i64 i] w fun e w' => e = .returned (.int .i64 (maxStack m i)) ∧ Below w.heap.size w w' := by
  have kS : Hid (∀ u : World, Below w.heap.size w u → Calls Tryz.prog 15 #[.agg #[.slice p.a0 m.sigs.length p.c0, .slice p.a1 m.imps.length p.c1, .slice p.a2 m.fns.length p.c2, .int .i64 m.pages, .int .i64 m.most, .slice p.a3 m.gls.length p.c3, .slice p.a4 m.exs.length p.c4, .slice p.a5 m.dat.length p.c5], .int .i64 i] u fun e w' => (match stackAt m i with
    | none => e = .returned (.tuple #[.slice none 0 0, .bool false])
    | some l => ∃ v, e = .returned (.tuple #[v, .bool true]) ∧ OwnS u.heap.size w' v l) ∧ Below u.heap.size u w') := fun u hu => impl_stackAt u p m i (h.later hu)
  clear h
  cases hS : stackAt m i with
  | none =>
    rw [hS] at kS
    have e1 : Hid (maxStack m i = -1) := by show _ = _; unfold maxStack; rw [hS]
    rw [e1.out]
    clear hS e1
    generalize m.sigs.length = N0 at *
    generalize m.imps.length = N1 at *
    generalize m.fns.length = N2 at *
    generalize m.gls.length = N3 at *
    generalize m.exs.length = N4 at *
    generalize m.dat.length = N5 at *
    go_enter Tryz.func21, Tryz.ntmps21
    go_wp2_with (go_at_call 15; refine (kS.out _ ((Below.refl _ _).alloc (Nat.le_refl _) _)).mono ?_; rintro e w1 ⟨rfl, q1⟩)
    go_ret
    exact ⟨rfl, belB q1⟩
  | some l =>
    rw [hS] at kS
    have hl := stack_len hS
    obtain ⟨R, hR⟩ : ∃ R, maxL l 0 = R := ⟨_, rfl⟩
    have e1 : Hid (maxStack m i = R) := by show _ = _; unfold maxStack; rw [hS]; exact hR
    have hR' : Hid (maxL (l.drop 0) 0 = R) := hR
    rw [e1.out]
    clear hS e1 hR
    generalize m.sigs.length = N0 at *
    generalize m.imps.length = N1 at *
    generalize m.fns.length = N2 at *
    generalize m.gls.length = N3 at *
    generalize m.exs.length = N4 at *
    generalize m.dat.length = N5 at *
    go_enter Tryz.func21, Tryz.ntmps21
    go_wp2_with (go_at_call 15; refine (kS.out _ ((Below.refl _ _).alloc (Nat.le_refl _) _)).mono ?_; rintro e w1 ⟨⟨v, rfl, o1⟩, q1⟩; obtain ⟨av, cap, rfl, hrow⟩ := ownS_rows o1; have hrow' : Hid (l.length = 0 ∨ ∃ g, av = some ⟨g, 0, none⟩ ∧ ∀ j, j < l.length → w1.cell? ⟨g, j, none⟩ = some (.int .i64 (l.getD j 0))) := hrow; have b1 : Hid (Below w.heap.size w w1) := belB q1; clear o1 hrow)
    go_loop [7, 20] (fun vq vk => ∃ (k : Nat) (q : Int), k ≤ l.length ∧ vk = .int .i64 k ∧ vq = .int .i64 q ∧ maxL (l.drop k) q = R) (fun _ vk => l.length - (intOf vk).toNat)
    case atStart => exact ⟨0, 0, by omega, rfl, rfl, hR'.out⟩
    case round =>
      obtain ⟨k, q, hk, rfl, rfl, hm⟩ := hrel
      have hm' : Hid (maxL (l.drop k) q = R) := hm
      clear hm hR'
      by_cases hlt : k < l.length
      · have hlt' : (k : Int) < (l.length : Int) := by omega
        rcases hrow'.out with h0 | ⟨g, ha, hc⟩
        · omega
        · have c0 := hc k hlt
          subst ha
          clear hc
          have e2 : Hid (maxL (l.drop (k + 1)) (if q < l.getD k 0 then l.getD k 0 else q) = R) := by rw [← maxL_at hlt]; exact hm'.out
          generalize l.getD k 0 = z at *
          by_cases hz : q < z
          · rw [if_pos hz] at e2
            go_wp2_with fail
            exact ⟨⟨k + 1, z, by omega, by go_num, by rw [show max q z = z by omega], e2.out⟩, by simp [intOf]; omega⟩
          · rw [if_neg hz] at e2
            go_wp2_with fail
            exact ⟨⟨k + 1, q, by omega, by go_num, by rw [show max q z = q by omega], e2.out⟩, by simp [intOf]; omega⟩
      · obtain rfl : k = l.length := by omega
        have e2 : Hid (q = R) := by have := hm'.out; rw [List.drop_length] at this; exact this
        go_wp2_with fail
        go_ret
        exact ⟨by rw [← e2.out]; rfl, b1.out⟩
end Go.Proofs.YtajlkdidjelpeaaGreatDoor.ValidMax
