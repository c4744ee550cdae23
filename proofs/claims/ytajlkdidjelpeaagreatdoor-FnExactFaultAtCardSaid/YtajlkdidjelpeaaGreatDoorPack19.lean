/-
  The specification's walk begins. (Written by my specface.py.)
  FaultAt, as the specification answers it. (Written by my specfault.py.)
  The walk of the exact law of FaultAt. (Written by my validlaw.py.)
-/
import Derived.Test.YtajlkdidjelpeaaGreatDoorPack17
import Derived.Test.YtajlkdidjelpeaaGreatDoorPack18
import Derived.Test.YtajlkdidjelpeaaGreatDoorPack11
namespace Go.Proofs.YtajlkdidjelpeaaGreatDoor.SBegin
open Go.RowKit PlainOps NameCalls PlainNum NumCalls InsCalls InsImpl PlainShape InsMem ShapeCalls FormCalls ModMem FormImpl PlainValid ValidCtx ValidStep ValidNext ValidWalk ValidHeights ValidFace ValidMax Piles Walks SPiles SWalks SIns SHas SFlow SStep

theorem sv_new (w : World) (p : P) (m : M) (j : Nat) : SV w.heap.size (((((w.alloc (.cells #[.slice p.a0 m.sigs.length p.c0, .slice p.a1 m.imps.length p.c1, .slice p.a2 m.fns.length p.c2, .int .i64 m.pages, .int .i64 m.most, .slice p.a3 m.gls.length p.c3, .slice p.a4 m.exs.length p.c4, .slice p.a5 m.dat.length p.c5] 39)).alloc (.cells #[.int .i64 (MemFunc.at1 m.fns j).sig, .int .i64 (MemFunc.at1 m.fns j).loc, .slice (MemFunc.at1 m.fns j).ad (MemFunc.at1 m.fns j).body.length (MemFunc.at1 m.fns j).cp] 60)).alloc (.cells #[.int .i64 (MemSig.f0At m.sigs (MemFunc.at1 m.fns j).sig.toNat), .int .i64 (MemSig.f1At m.sigs (MemFunc.at1 m.fns j).sig.toNat)] 119)).alloc (.cells #[.int .i64 2, .int .i64 (MemSig.f1At m.sigs (MemFunc.at1 m.fns j).sig.toNat), .int .i64 0, .bool false] 93)).alloc (.cells #[.slice p.a0 m.sigs.length p.c0, .slice p.a1 m.imps.length p.c1, .slice p.a2 m.fns.length p.c2, .int .i64 m.pages, .int .i64 m.most, .slice p.a3 m.gls.length p.c3, .slice p.a4 m.exs.length p.c4, .slice p.a5 m.dat.length p.c5, .int .i64 (MemSig.f0At m.sigs (MemFunc.at1 m.fns j).sig.toNat + (MemFunc.at1 m.fns j).loc), .int .i64 0, .slice (some ⟨w.heap.size + 3, 0, none⟩) 1 1, .bool false] 66)) (w.heap.size + 4) (sF p m (ctxOf m (MemFunc.at1 m.fns j).sig (MemFunc.at1 m.fns j).loc).loc) 0 (.slice (some ⟨w.heap.size + 3, 0, none⟩) 1 1) false [⟨2, (ctxOf m (MemFunc.at1 m.fns j).sig (MemFunc.at1 m.fns j).loc).own, 0, false⟩] := by
  have r := World.rowIs_alloc ((((w.alloc (.cells #[.slice p.a0 m.sigs.length p.c0, .slice p.a1 m.imps.length p.c1, .slice p.a2 m.fns.length p.c2, .int .i64 m.pages, .int .i64 m.most, .slice p.a3 m.gls.length p.c3, .slice p.a4 m.exs.length p.c4, .slice p.a5 m.dat.length p.c5] 39)).alloc (.cells #[.int .i64 (MemFunc.at1 m.fns j).sig, .int .i64 (MemFunc.at1 m.fns j).loc, .slice (MemFunc.at1 m.fns j).ad (MemFunc.at1 m.fns j).body.length (MemFunc.at1 m.fns j).cp] 60)).alloc (.cells #[.int .i64 (MemSig.f0At m.sigs (MemFunc.at1 m.fns j).sig.toNat), .int .i64 (MemSig.f1At m.sigs (MemFunc.at1 m.fns j).sig.toNat)] 119)).alloc (.cells #[.int .i64 2, .int .i64 (MemSig.f1At m.sigs (MemFunc.at1 m.fns j).sig.toNat), .int .i64 0, .bool false] 93)) #[.slice p.a0 m.sigs.length p.c0, .slice p.a1 m.imps.length p.c1, .slice p.a2 m.fns.length p.c2, .int .i64 m.pages, .int .i64 m.most, .slice p.a3 m.gls.length p.c3, .slice p.a4 m.exs.length p.c4, .slice p.a5 m.dat.length p.c5, .int .i64 (MemSig.f0At m.sigs (MemFunc.at1 m.fns j).sig.toNat + (MemFunc.at1 m.fns j).loc), .int .i64 0, .slice (some ⟨w.heap.size + 3, 0, none⟩) 1 1, .bool false] 66 (svC (sF p m (ctxOf m (MemFunc.at1 m.fns j).sig (MemFunc.at1 m.fns j).loc).loc) 0 (.slice (some ⟨w.heap.size + 3, 0, none⟩) 1 1) false) (fun i hi => by
    match i, hi with
    | 0, _ => rfl
    | 1, _ => rfl
    | 2, _ => rfl
    | 3, _ => rfl
    | 4, _ => rfl
    | 5, _ => rfl
    | 6, _ => rfl
    | 7, _ => rfl
    | 8, _ => rfl
    | 9, _ => rfl
    | 10, _ => rfl
    | 11, _ => rfl)
  simp only [World.size_alloc] at r
  have r2 : ((((w.alloc (.cells #[.slice p.a0 m.sigs.length p.c0, .slice p.a1 m.imps.length p.c1, .slice p.a2 m.fns.length p.c2, .int .i64 m.pages, .int .i64 m.most, .slice p.a3 m.gls.length p.c3, .slice p.a4 m.exs.length p.c4, .slice p.a5 m.dat.length p.c5] 39)).alloc (.cells #[.int .i64 (MemFunc.at1 m.fns j).sig, .int .i64 (MemFunc.at1 m.fns j).loc, .slice (MemFunc.at1 m.fns j).ad (MemFunc.at1 m.fns j).body.length (MemFunc.at1 m.fns j).cp] 60)).alloc (.cells #[.int .i64 (MemSig.f0At m.sigs (MemFunc.at1 m.fns j).sig.toNat), .int .i64 (MemSig.f1At m.sigs (MemFunc.at1 m.fns j).sig.toNat)] 119)).alloc (.cells #[.int .i64 2, .int .i64 (MemSig.f1At m.sigs (MemFunc.at1 m.fns j).sig.toNat), .int .i64 0, .bool false] 93)).heap[w.heap.size + 3]? = some (.cells #[.int .i64 2, .int .i64 (MemSig.f1At m.sigs (MemFunc.at1 m.fns j).sig.toNat), .int .i64 0, .bool false] 93 (0, 0)) := by
    have := heap_alloc_new (((w.alloc (.cells #[.slice p.a0 m.sigs.length p.c0, .slice p.a1 m.imps.length p.c1, .slice p.a2 m.fns.length p.c2, .int .i64 m.pages, .int .i64 m.most, .slice p.a3 m.gls.length p.c3, .slice p.a4 m.exs.length p.c4, .slice p.a5 m.dat.length p.c5] 39)).alloc (.cells #[.int .i64 (MemFunc.at1 m.fns j).sig, .int .i64 (MemFunc.at1 m.fns j).loc, .slice (MemFunc.at1 m.fns j).ad (MemFunc.at1 m.fns j).body.length (MemFunc.at1 m.fns j).cp] 60)).alloc (.cells #[.int .i64 (MemSig.f0At m.sigs (MemFunc.at1 m.fns j).sig.toNat), .int .i64 (MemSig.f1At m.sigs (MemFunc.at1 m.fns j).sig.toNat)] 119)) (.cells #[.int .i64 2, .int .i64 (MemSig.f1At m.sigs (MemFunc.at1 m.fns j).sig.toNat), .int .i64 0, .bool false] 93)
    simp only [World.size_alloc] at this
    exact this
  have r3 : (((((w.alloc (.cells #[.slice p.a0 m.sigs.length p.c0, .slice p.a1 m.imps.length p.c1, .slice p.a2 m.fns.length p.c2, .int .i64 m.pages, .int .i64 m.most, .slice p.a3 m.gls.length p.c3, .slice p.a4 m.exs.length p.c4, .slice p.a5 m.dat.length p.c5] 39)).alloc (.cells #[.int .i64 (MemFunc.at1 m.fns j).sig, .int .i64 (MemFunc.at1 m.fns j).loc, .slice (MemFunc.at1 m.fns j).ad (MemFunc.at1 m.fns j).body.length (MemFunc.at1 m.fns j).cp] 60)).alloc (.cells #[.int .i64 (MemSig.f0At m.sigs (MemFunc.at1 m.fns j).sig.toNat), .int .i64 (MemSig.f1At m.sigs (MemFunc.at1 m.fns j).sig.toNat)] 119)).alloc (.cells #[.int .i64 2, .int .i64 (MemSig.f1At m.sigs (MemFunc.at1 m.fns j).sig.toNat), .int .i64 0, .bool false] 93)).alloc (.cells #[.slice p.a0 m.sigs.length p.c0, .slice p.a1 m.imps.length p.c1, .slice p.a2 m.fns.length p.c2, .int .i64 m.pages, .int .i64 m.most, .slice p.a3 m.gls.length p.c3, .slice p.a4 m.exs.length p.c4, .slice p.a5 m.dat.length p.c5, .int .i64 (MemSig.f0At m.sigs (MemFunc.at1 m.fns j).sig.toNat + (MemFunc.at1 m.fns j).loc), .int .i64 0, .slice (some ⟨w.heap.size + 3, 0, none⟩) 1 1, .bool false] 66)).heap[w.heap.size + 3]? = some (.cells #[.int .i64 2, .int .i64 (MemSig.f1At m.sigs (MemFunc.at1 m.fns j).sig.toNat), .int .i64 0, .bool false] 93 (0, 0)) := (Below.heap_alloc _ _ _ (by simp)).trans r2
  exact ⟨r, ⟨rfl, .inr ⟨w.heap.size + 3, 1, _, rfl, by omega, r3, Nat.le_refl _, by decide, rfl, rfl⟩⟩, by simp [Value.ownBlock], by omega⟩
set_option maxRecDepth 20000 in
set_option maxHeartbeats 8000000 in
theorem begin' (p : P) (m : M) (j : Nat) (w : World) (hR : Rd w p m) (f : Facts m) (hj : j < m.fns.length) :
    Calls Tryz.prog 29 #[.agg #[.slice p.a0 m.sigs.length p.c0, .slice p.a1 m.imps.length p.c1, .slice p.a2 m.fns.length p.c2, .int .i64 m.pages, .int .i64 m.most, .slice p.a3 m.gls.length p.c3, .slice p.a4 m.exs.length p.c4, .slice p.a5 m.dat.length p.c5], .int .i64 (j : Int)] w fun e w' => ∃ q g cap, e = .returned (.pointer (some ⟨q, 0, none⟩)) ∧ SV w.heap.size w' q (sF p m (ctxOf m (MemFunc.at1 m.fns j).sig (MemFunc.at1 m.fns j).loc).loc) 0 (.slice (some ⟨g, 0, none⟩) 1 cap) false [⟨2, (ctxOf m (MemFunc.at1 m.fns j).sig (MemFunc.at1 m.fns j).loc).own, 0, false⟩] ∧ Below w.heap.size w w' := by
  obtain ⟨b, off, ha, y0, y1, y2⟩ := fn_cells hR hj
  have hb : b < w.heap.size := World.block_lt_of_cell? w _ y0
  obtain ⟨f0, f1, f2, f3, _⟩ := f.fn j hj
  obtain ⟨g0, g1, g2, g3⟩ := f.sg (MemFunc.at1 m.fns j).sig.toNat (by omega)
  have hco := f.co
  have hB : Hid (SV w.heap.size (((((w.alloc (.cells #[.slice p.a0 m.sigs.length p.c0, .slice p.a1 m.imps.length p.c1, .slice p.a2 m.fns.length p.c2, .int .i64 m.pages, .int .i64 m.most, .slice p.a3 m.gls.length p.c3, .slice p.a4 m.exs.length p.c4, .slice p.a5 m.dat.length p.c5] 39)).alloc (.cells #[.int .i64 (MemFunc.at1 m.fns j).sig, .int .i64 (MemFunc.at1 m.fns j).loc, .slice (MemFunc.at1 m.fns j).ad (MemFunc.at1 m.fns j).body.length (MemFunc.at1 m.fns j).cp] 60)).alloc (.cells #[.int .i64 (MemSig.f0At m.sigs (MemFunc.at1 m.fns j).sig.toNat), .int .i64 (MemSig.f1At m.sigs (MemFunc.at1 m.fns j).sig.toNat)] 119)).alloc (.cells #[.int .i64 2, .int .i64 (MemSig.f1At m.sigs (MemFunc.at1 m.fns j).sig.toNat), .int .i64 0, .bool false] 93)).alloc (.cells #[.slice p.a0 m.sigs.length p.c0, .slice p.a1 m.imps.length p.c1, .slice p.a2 m.fns.length p.c2, .int .i64 m.pages, .int .i64 m.most, .slice p.a3 m.gls.length p.c3, .slice p.a4 m.exs.length p.c4, .slice p.a5 m.dat.length p.c5, .int .i64 (MemSig.f0At m.sigs (MemFunc.at1 m.fns j).sig.toNat + (MemFunc.at1 m.fns j).loc), .int .i64 0, .slice (some ⟨w.heap.size + 3, 0, none⟩) 1 1, .bool false] 66)) (w.heap.size + 4) (sF p m (ctxOf m (MemFunc.at1 m.fns j).sig (MemFunc.at1 m.fns j).loc).loc) 0 (.slice (some ⟨w.heap.size + 3, 0, none⟩) 1 1) false [⟨2, (ctxOf m (MemFunc.at1 m.fns j).sig (MemFunc.at1 m.fns j).loc).own, 0, false⟩]) := sv_new w p m j
  have bb : Hid (Below w.heap.size w (((((w.alloc (.cells #[.slice p.a0 m.sigs.length p.c0, .slice p.a1 m.imps.length p.c1, .slice p.a2 m.fns.length p.c2, .int .i64 m.pages, .int .i64 m.most, .slice p.a3 m.gls.length p.c3, .slice p.a4 m.exs.length p.c4, .slice p.a5 m.dat.length p.c5] 39)).alloc (.cells #[.int .i64 (MemFunc.at1 m.fns j).sig, .int .i64 (MemFunc.at1 m.fns j).loc, .slice (MemFunc.at1 m.fns j).ad (MemFunc.at1 m.fns j).body.length (MemFunc.at1 m.fns j).cp] 60)).alloc (.cells #[.int .i64 (MemSig.f0At m.sigs (MemFunc.at1 m.fns j).sig.toNat), .int .i64 (MemSig.f1At m.sigs (MemFunc.at1 m.fns j).sig.toNat)] 119)).alloc (.cells #[.int .i64 2, .int .i64 (MemSig.f1At m.sigs (MemFunc.at1 m.fns j).sig.toNat), .int .i64 0, .bool false] 93)).alloc (.cells #[.slice p.a0 m.sigs.length p.c0, .slice p.a1 m.imps.length p.c1, .slice p.a2 m.fns.length p.c2, .int .i64 m.pages, .int .i64 m.most, .slice p.a3 m.gls.length p.c3, .slice p.a4 m.exs.length p.c4, .slice p.a5 m.dat.length p.c5, .int .i64 (MemSig.f0At m.sigs (MemFunc.at1 m.fns j).sig.toNat + (MemFunc.at1 m.fns j).loc), .int .i64 0, .slice (some ⟨w.heap.size + 3, 0, none⟩) 1 1, .bool false] 66))) := (((((Below.refl _ _).alloc (Nat.le_refl _) _).alloc (by simp) _).alloc (by simp; omega) _).alloc (by simp; omega) _).alloc (by simp; omega) _
  obtain ⟨z, hz⟩ : ∃ z : Nat, (MemFunc.at1 m.fns j).sig = z := ⟨(MemFunc.at1 m.fns j).sig.toNat, by omega⟩
  have hz' : (z : Int) < (m.sigs.length : Int) := by omega
  obtain ⟨h0, _⟩ := hR
  rcases h0 with h0 | ⟨bs, os, has, hcs⟩
  · omega
  · obtain ⟨x0, x1⟩ := hcs z (by omega)
    have hbs : bs < w.heap.size := World.block_lt_of_cell? w _ x0
    have hj' : (j : Int) < (m.fns.length : Int) := by omega
    have hw : IntKind.i64.wrap (MemSig.f0At m.sigs (MemFunc.at1 m.fns j).sig.toNat + (MemFunc.at1 m.fns j).loc) = MemSig.f0At m.sigs (MemFunc.at1 m.fns j).sig.toNat + (MemFunc.at1 m.fns j).loc := IntWalk.i64_in _ (by omega)
    clear hcs f hj
    generalize (ctxOf m (MemFunc.at1 m.fns j).sig (MemFunc.at1 m.fns j).loc).own = co at *
    generalize (sF p m (ctxOf m (MemFunc.at1 m.fns j).sig (MemFunc.at1 m.fns j).loc).loc) = FF at *
    rw [hz] at hB bb y0 hw g0 g1 g2 g3
    rw [Int.toNat_natCast] at hB bb hw g0 g1 g2 g3
    rw [has, ha] at hB bb ⊢
    generalize MemSig.f0At m.sigs z = X0 at *
    generalize MemSig.f1At m.sigs z = X1 at *
    generalize (MemFunc.at1 m.fns j).loc = XL at *
    generalize (MemFunc.at1 m.fns j).ad = AD at *
    generalize (MemFunc.at1 m.fns j).body.length = NB at *
    generalize (MemFunc.at1 m.fns j).cp = CP at *
    clear hz ha has f0 f1
    generalize m.sigs.length = N0 at *
    generalize m.imps.length = N1 at *
    generalize m.fns.length = N2 at *
    generalize m.gls.length = N3 at *
    generalize m.exs.length = N4 at *
    generalize m.dat.length = N5 at *
    go_enter Tryz.func29, Tryz.ntmps29
    go_wp2_with fail
    go_ret
    exact ⟨w.heap.size + 4, w.heap.size + 3, 1, rfl, hB.out, bb.out⟩
end Go.Proofs.YtajlkdidjelpeaaGreatDoor.SBegin
namespace Go.Proofs.YtajlkdidjelpeaaGreatDoor.SFault
open Go.RowKit PlainOps NameCalls PlainNum NumCalls InsCalls InsImpl PlainShape InsMem ShapeCalls FormCalls ModMem FormImpl PlainValid ValidCtx ValidStep ValidNext ValidWalk ValidHeights ValidFace ValidMax Piles Walks SPiles SWalks SIns SHas SFlow SStep SBegin

theorem set_op {st : List Fr} {n : Nat} {f : Fr} (hf : (st.getD n dF).op ≠ 4 → f.op ≠ 4) (h : (st.getD 0 dF).op ≠ 4) : ((st.set n f).getD 0 dF).op ≠ 4 := by
  by_cases hn : n = 0
  · subst hn
    cases st with
    | nil => exact h
    | cons a l => exact hf h
  · rw [List.getD_eq_getElem?_getD, List.getElem?_set_ne hn, ← List.getD_eq_getElem?_getD]
    exact h
/-- The function itself is no if. -/
theorem step_op {c : Ctx} {o i : Int} {s s' : S2} (hn : s.2.length ≠ 0) (h11 : o = 11 → 2 ≤ s.2.length) (h4 : (s.2.getD 0 dF).op ≠ 4) (e : PlainValid.step c o i s = some s') : (s'.2.getD 0 dF).op ≠ 4 := by
  have hL : ∀ n s', PlainValid.leave n s = some s' → (s'.2.getD 0 dF).op ≠ 4 := fun n s' e => by
    unfold PlainValid.leave at e
    split at e
    · cases e; exact set_op (fun z => z) h4
    · cases e
  have hX : ∀ n p (s s' : S2), exch n p s = some s' → s'.2 = s.2 := fun n p s s' e => by
    unfold exch at e
    split at e
    · cases e; rfl
    · cases e
  unfold PlainValid.step at e
  split at e
  · cases e
  split at e
  · exact hL _ _ e
  split at e
  · rw [Option.map_eq_some_iff] at e
    obtain ⟨s1, e1, rfl⟩ := e
    have := hX _ _ _ _ e1
    unfold opens
    dsimp only
    rw [this, List.getD_eq_getElem?_getD, List.getElem?_append_left (by omega), ← List.getD_eq_getElem?_getD]
    exact h4
  split at e
  · unfold PlainValid.turn at e
    split at e
    · cases e; exact set_op (fun _ => (by decide : (5 : Int) ≠ 4)) h4
    · cases e
  split at e
  · rename_i ho
    have := h11 ho
    unfold PlainValid.close at e
    split at e
    · cases e
      show ((s.2.take (s.2.length - 1)).getD 0 dF).op ≠ 4
      rw [List.getD_eq_getElem?_getD, List.getElem?_take, if_pos (by omega), ← List.getD_eq_getElem?_getD]
      exact h4
    · cases e
  split at e
  · exact hL _ _ e
  split at e
  · unfold brIf at e
    rw [Option.bind_eq_some_iff] at e
    obtain ⟨s1, e1, e2⟩ := e
    rw [hX _ _ _ _ e2, hX _ _ _ _ e1]
    exact h4
  split at e
  · exact hL _ _ e
  · rw [hX _ _ _ _ e]
    exact h4
theorem svBelow {B q : Nat} {w w' : World} {F : Nat → Value} {h : Int} {v v' : Value} {bad : Bool} {st : List Fr} (b : SV B w q F h v bad st) (k : Kp q w w' v v') : Below B w w' :=
  kpBelow k b.le (by have := b.lt; have := b.le; omega) (fun g e => (World.ownsRow.lt b.own g e).1)
theorem svLow {B B' q : Nat} {w : World} {F : Nat → Value} {h : Int} {v : Value} {bad : Bool} {st : List Fr} (b : SV B w q F h v bad st) (hB : B' ≤ B) : SV B' w q F h v bad st := by
  refine ⟨b.box, ⟨b.own.1, ?_⟩, b.ne, Nat.le_trans hB b.le⟩
  rcases b.own.2 with h0 | ⟨g, cap, cur, hv, hg, r⟩
  · exact .inl h0
  · exact .inr ⟨g, cap, cur, hv, Nat.le_trans hB hg, r⟩
set_option maxRecDepth 20000 in
set_option maxHeartbeats 16000000 in
theorem faultYes (w : World) (p : P) (m : M) (j : Nat) (h : Rd w p m) (hs : Small m) (hf : formOk m = true) (hj : j < m.fns.length) :
    Calls Tryz.prog 8 #[.agg #[.slice p.a0 m.sigs.length p.c0, .slice p.a1 m.imps.length p.c1, .slice p.a2 m.fns.length p.c2, .int .i64 m.pages, .int .i64 m.most, .slice p.a3 m.gls.length p.c3, .slice p.a4 m.exs.length p.c4, .slice p.a5 m.dat.length p.c5], .int .i64 (j : Int)] w fun e w' => e = .returned (.int .i64 (bodyOf m j).2) ∧ Below w.heap.size w w' := by
  have f := facts hf
  obtain ⟨f0, f1, f2, f3, f4⟩ := f.fn j hj
  have hC : Hid (OkC (ctxOf m (MemFunc.at1 m.fns j).sig (MemFunc.at1 m.fns j).loc)) := okC f f0 f1
  obtain ⟨b, off, ha, _, _, _⟩ := fn_cells h hj
  have kF : Hid (∀ u : World, Below w.heap.size w u → Calls Tryz.prog 28 #[.agg #[.slice p.a0 m.sigs.length p.c0, .slice p.a1 m.imps.length p.c1, .slice p.a2 m.fns.length p.c2, .int .i64 m.pages, .int .i64 m.most, .slice p.a3 m.gls.length p.c3, .slice p.a4 m.exs.length p.c4, .slice p.a5 m.dat.length p.c5]] u fun e w' => e = .returned (.bool true) ∧ Below u.heap.size u w') := fun u hu => by
    have := FormSpec.spec_formOk u p m (h.later hu) hs
    rw [hf] at this
    exact this
  have kB : Hid (∀ u : World, Below w.heap.size w u → Calls Tryz.prog 29 #[.agg #[.slice p.a0 m.sigs.length p.c0, .slice p.a1 m.imps.length p.c1, .slice p.a2 m.fns.length p.c2, .int .i64 m.pages, .int .i64 m.most, .slice p.a3 m.gls.length p.c3, .slice p.a4 m.exs.length p.c4, .slice p.a5 m.dat.length p.c5], .int .i64 (j : Int)] u fun e w' => ∃ q g cap, e = .returned (.pointer (some ⟨q, 0, none⟩)) ∧ SV u.heap.size w' q (sF p m (ctxOf m (MemFunc.at1 m.fns j).sig (MemFunc.at1 m.fns j).loc).loc) 0 (.slice (some ⟨g, 0, none⟩) 1 cap) false [⟨2, (ctxOf m (MemFunc.at1 m.fns j).sig (MemFunc.at1 m.fns j).loc).own, 0, false⟩] ∧ Below u.heap.size u w') := fun u hu => SBegin.begin' p m j u (h.later hu) f hj
  have hbo : Hid (boOk (MemFunc.at1 m.fns j).body = true) := f4
  have hl : (MemFunc.at1 m.fns j).body.length ≤ 1500 := by
    unfold boOk at f4
    simp only [Bool.and_eq_true] at f4
    exact of_decide_eq_true f4.1
  have hr : Hid ((w.alloc (.cells #[.slice p.a0 m.sigs.length p.c0, .slice p.a1 m.imps.length p.c1, .slice p.a2 m.fns.length p.c2, .int .i64 m.pages, .int .i64 m.most, .slice p.a3 m.gls.length p.c3, .slice p.a4 m.exs.length p.c4, .slice p.a5 m.dat.length p.c5] 39)).rowIs w.heap.size 39 8 (R8 (.slice p.a0 m.sigs.length p.c0) (.slice p.a1 m.imps.length p.c1) (.slice p.a2 m.fns.length p.c2) (.int .i64 m.pages) (.int .i64 m.most) (.slice p.a3 m.gls.length p.c3) (.slice p.a4 m.exs.length p.c4) (.slice p.a5 m.dat.length p.c5))) := r8_made w (.slice p.a0 m.sigs.length p.c0) (.slice p.a1 m.imps.length p.c1) (.slice p.a2 m.fns.length p.c2) (.int .i64 m.pages) (.int .i64 m.most) (.slice p.a3 m.gls.length p.c3) (.slice p.a4 m.exs.length p.c4) (.slice p.a5 m.dat.length p.c5) 39
  have hcs : Hid (∀ u : World, Below w.heap.size w u → u.cell? ⟨b, off + j * 3 + 2, none⟩ = some (.slice (MemFunc.at1 m.fns j).ad (MemFunc.at1 m.fns j).body.length (MemFunc.at1 m.fns j).cp) ∧ RdI u (MemFunc.at1 m.fns j).ad (MemFunc.at1 m.fns j).body ∧ Rd u p m) := fun u hu => by
    have hr2 := h.later hu
    refine ⟨?_, ?_, hr2⟩
    · obtain ⟨b', off', ha', _, _, z⟩ := fn_cells hr2 hj
      rw [ha] at ha'
      simp only [Option.some.injEq, Addr.mk.injEq, and_true] at ha'
      obtain ⟨rfl, rfl⟩ := ha'
      exact z
    · obtain ⟨_, _, hF, _⟩ := hr2
      rcases hF with h0 | ⟨_, _, _, hc⟩
      · omega
      · exact (hc j hj).2.2.2
  have hsh : Hid (shpF (MemFunc.at1 m.fns j).body (MemFunc.at1 m.fns j).body.length 0 [] = true) := by
    have := hbo.out
    unfold boOk at this
    simp only [Bool.and_eq_true] at this
    exact this.2.2
  have hins : Hid (∀ k, k < (MemFunc.at1 m.fns j).body.length → InsF (oAt (MemFunc.at1 m.fns j).body k) (aAt (MemFunc.at1 m.fns j).body k)) := fun k hk => by
    have := hbo.out
    unfold boOk at this
    simp only [Bool.and_eq_true] at this
    exact insF (allF_at _ 0 this.2.1 k (by omega) (by omega))
  obtain ⟨R, hR⟩ : ∃ R, (bodyOf m j).2 = R := ⟨_, rfl⟩
  have hR' : Hid ((walk (ctxOf m (MemFunc.at1 m.fns j).sig (MemFunc.at1 m.fns j).loc) (MemFunc.at1 m.fns j).body (MemFunc.at1 m.fns j).body.length 0 (PlainValid.start (ctxOf m (MemFunc.at1 m.fns j).sig (MemFunc.at1 m.fns j).loc)) []).2 = R) := hR
  have hff : Hid (Facts m ∧ 0 ≤ (MemFunc.at1 m.fns j).sig ∧ (MemFunc.at1 m.fns j).sig < m.sigs.length) := ⟨f, f0, f1⟩
  have hj' : (j : Int) < (m.fns.length : Int) := by omega
  have hd0 : decide ((j : Int) < 0) = false := decide_eq_false (by omega)
  have hd1 : ¬ (j : Int) < 0 := by omega
  have hd2 : decide ((m.fns.length : Int) ≤ (j : Int)) = false := decide_eq_false (by omega)
  have hd3 : ¬ (m.fns.length : Int) ≤ (j : Int) := by omega
  have hsz2 := hs.n2
  rw [hR]
  rw [ha] at kF kB hr ⊢
  clear hR h hf f f0 f1 f2 f3 f4 hs hj
  go_enter Tryz.func8, Tryz.ntmps8
  go_wp2_with (first | (go_at_call 28; refine (kF.out _ ((Below.refl _ _).alloc (Nat.le_refl _) _)).mono ?_; rintro e w1 ⟨rfl, q1⟩; obtain ⟨_, _, _, _, _, _, _, _⟩ := r8 (row_later hr.out q1); have x1 : Hid (Below w.heap.size w w1) := belB q1) | (go_at_call 29; refine (kB.out _ x1.out).mono ?_; rintro e w2 ⟨q, g1, cap1, rfl, b2, q2⟩; have y2 : Hid (Below ((w.alloc (.cells #[.slice p.a0 m.sigs.length p.c0, .slice p.a1 m.imps.length p.c1, .slice (some ⟨b, off, none⟩) m.fns.length p.c2, .int .i64 m.pages, .int .i64 m.most, .slice p.a3 m.gls.length p.c3, .slice p.a4 m.exs.length p.c4, .slice p.a5 m.dat.length p.c5] 39))).heap.size ((w.alloc (.cells #[.slice p.a0 m.sigs.length p.c0, .slice p.a1 m.imps.length p.c1, .slice (some ⟨b, off, none⟩) m.fns.length p.c2, .int .i64 m.pages, .int .i64 m.most, .slice p.a3 m.gls.length p.c3, .slice p.a4 m.exs.length p.c4, .slice p.a5 m.dat.length p.c5] 39))) w2) := q1.trans (q2.mono q1.size); obtain ⟨_, _, _, _, _, _, _, _⟩ := r8 (row_later hr.out y2.out); obtain ⟨_, _, _⟩ := hcs.out _ (belB y2.out); have b2' : Hid (SV (w.heap.size + 1) w2 q (sF p m (ctxOf m (MemFunc.at1 m.fns j).sig (MemFunc.at1 m.fns j).loc).loc) 0 (.slice (some ⟨g1, 0, none⟩) 1 cap1) false [⟨2, (ctxOf m (MemFunc.at1 m.fns j).sig (MemFunc.at1 m.fns j).loc).own, 0, false⟩]) := svLow b2 (by have := q1.size; simp only [World.size_alloc] at this; exact this); clear b2))
  go_loopw [32] (fun vk wr => ∃ (k f : Nat) (acc : List Int) (h : Int) (v : Value) (st : List Fr) (sh : List Int), k + f = (MemFunc.at1 m.fns j).body.length ∧ vk = .int .i64 k ∧ SV (w.heap.size + 1) wr q (sF p m (ctxOf m (MemFunc.at1 m.fns j).sig (MemFunc.at1 m.fns j).loc).loc) h v false st ∧ Bnd k (h, st) ∧ shpF (MemFunc.at1 m.fns j).body f k sh = true ∧ sh.length + 1 = st.length ∧ st.length ≤ k + 1 ∧ (st.getD 0 dF).res = (ctxOf m (MemFunc.at1 m.fns j).sig (MemFunc.at1 m.fns j).loc).own ∧ (st.getD 0 dF).op ≠ 4 ∧ (walk (ctxOf m (MemFunc.at1 m.fns j).sig (MemFunc.at1 m.fns j).loc) (MemFunc.at1 m.fns j).body f k (h, st) acc).2 = R ∧ Below (w.heap.size + 1) (w.alloc (.cells #[.slice p.a0 m.sigs.length p.c0, .slice p.a1 m.imps.length p.c1, .slice (some ⟨b, off, none⟩) m.fns.length p.c2, .int .i64 m.pages, .int .i64 m.most, .slice p.a3 m.gls.length p.c3, .slice p.a4 m.exs.length p.c4, .slice p.a5 m.dat.length p.c5] 39)) wr) (fun vk _ => (MemFunc.at1 m.fns j).body.length - (intOf vk).toNat)
  case atStart => exact ⟨0, (MemFunc.at1 m.fns j).body.length, [], 0, _, _, [], by omega, rfl, b2'.out, start_bnd hC.out, hsh.out, rfl, by simp, rfl, by simp, hR'.out, y2.out.mono (by simp)⟩
  case round =>
    obtain ⟨k, f, acc, h, v, st, sh, hk, rfl, bw, hB, hsh1, hst, hle, hres, hop, hw, bel⟩ := hrel
    generalize hWF : (w.alloc (.cells #[.slice p.a0 m.sigs.length p.c0, .slice p.a1 m.imps.length p.c1, .slice (some ⟨b, off, none⟩) m.fns.length p.c2, .int .i64 m.pages, .int .i64 m.most, .slice p.a3 m.gls.length p.c3, .slice p.a4 m.exs.length p.c4, .slice p.a5 m.dat.length p.c5] 39)) = w0 at *
    have hw0s : w0.heap.size = w.heap.size + 1 := by rw [← hWF]; simp
    have hbx0 : Hid (Below w.heap.size w w0) := by rw [← hWF]; exact (Below.refl _ _).alloc (Nat.le_refl _) _
    clear hWF b2' hR' hsh y2
    have hw' : Hid ((walk (ctxOf m (MemFunc.at1 m.fns j).sig (MemFunc.at1 m.fns j).loc) (MemFunc.at1 m.fns j).body f k (h, st) acc).2 = R) := hw
    have bw' : Hid (SV (w.heap.size + 1) wr q (sF p m (ctxOf m (MemFunc.at1 m.fns j).sig (MemFunc.at1 m.fns j).loc).loc) h v false st) := bw
    have hB' : Hid (Bnd k (h, st)) := hB
    have bel' : Hid (Below (w.heap.size + 1) w0 wr) := bel
    have hres' : Hid ((st.getD 0 dF).res = (ctxOf m (MemFunc.at1 m.fns j).sig (MemFunc.at1 m.fns j).loc).own) := hres
    have hop' : Hid ((st.getD 0 dF).op ≠ 4) := hop
    have hsz : w.heap.size + 1 ≤ wr.heap.size := by have := bel.size; omega
    have belw : Hid (∀ u : World, Below (w.heap.size + 1) w0 u → Below w.heap.size w u) := fun u hu => hbx0.out.trans (hu.mono (by omega))
    obtain ⟨n, hn⟩ : ∃ n, st.length = n + 1 := ⟨st.length - 1, by omega⟩
    obtain ⟨g, cap, hv, hqg, hgw, hcap⟩ := bw.form (by omega)
    rw [hn] at hv
    subst hv
    have hqw := bw.lt
    clear hw hB hres hop
    by_cases hlt : k < (MemFunc.at1 m.fns j).body.length
    · have hlt' : (k : Int) < ((MemFunc.at1 m.fns j).body.length : Int) := by omega
      obtain ⟨f, rfl⟩ : ∃ i, f = i + 1 := ⟨f - 1, by omega⟩
      rcases (hcs.out _ (belw.out _ bel)).2.1 with h0 | ⟨bb, offb, hab, hc⟩
      · omega
      · obtain ⟨c0, c1, c2⟩ := hc k hlt
        have hbb : bb < wr.heap.size := World.block_lt_of_cell? wr _ c0
        have hIns := hins.out k hlt
        have hIns' : Hid (InsF (oAt (MemFunc.at1 m.fns j).body k) (aAt (MemFunc.at1 m.fns j).body k)) := hIns
        have hWn : Hid (∀ s', PlainValid.step (ctxOf m (MemFunc.at1 m.fns j).sig (MemFunc.at1 m.fns j).loc) (oAt (MemFunc.at1 m.fns j).body k) (aAt (MemFunc.at1 m.fns j).body k) (h, st) = some s' → (walk (ctxOf m (MemFunc.at1 m.fns j).sig (MemFunc.at1 m.fns j).loc) (MemFunc.at1 m.fns j).body f (k + 1) s' (acc ++ [PlainValid.told (h, st)])).2 = R) := fun s' e => by rw [← walk_yes e]; exact hw'.out
        have hWf : Hid (PlainValid.step (ctxOf m (MemFunc.at1 m.fns j).sig (MemFunc.at1 m.fns j).loc) (oAt (MemFunc.at1 m.fns j).body k) (aAt (MemFunc.at1 m.fns j).body k) (h, st) = none → R = (k : Int)) := fun e => by rw [← hw'.out, walk_no e]
        obtain ⟨sh', hs1, hs2, hs3⟩ := shape_next hsh1
        have h11 : oAt (MemFunc.at1 m.fns j).body k = 11 → 2 ≤ st.length := fun e => by have := hs3 e; omega
        have hNx : Hid (∀ s', PlainValid.step (ctxOf m (MemFunc.at1 m.fns j).sig (MemFunc.at1 m.fns j).loc) (oAt (MemFunc.at1 m.fns j).body k) (aAt (MemFunc.at1 m.fns j).body k) (h, st) = some s' → (Bnd (k + 1) s' ∧ s'.2.length = nOpen (oAt (MemFunc.at1 m.fns j).body k) st.length) ∧ (s'.2.getD 0 dF).res = (ctxOf m (MemFunc.at1 m.fns j).sig (MemFunc.at1 m.fns j).loc).own ∧ (s'.2.getD 0 dF).op ≠ 4) := fun s' e => ⟨step_next hC.out hIns hB'.out (by show st.length ≠ 0; omega) e, (step_own (by show st.length ≠ 0; omega) h11 e).trans hres'.out, step_op (by show st.length ≠ 0; omega) h11 hop'.out e⟩
        have hSh : Hid (shpF (MemFunc.at1 m.fns j).body f (k + 1) sh' = true ∧ sh'.length + 1 = nOpen (oAt (MemFunc.at1 m.fns j).body k) st.length) := ⟨hs1, by rw [hs2, hst]⟩
        have kSt : Hid (∀ (u : World) (b0 : Int), SV (w.heap.size + 1) u q (sF p m (ctxOf m (MemFunc.at1 m.fns j).sig (MemFunc.at1 m.fns j).loc).loc) h (.slice (some ⟨g, 0, none⟩) (n + 1) cap) false st → Below (w.heap.size + 1) w0 u → Calls Tryz.prog 30 #[.pointer (some ⟨q, 0, none⟩), .agg #[.int .i64 (oAt (MemFunc.at1 m.fns j).body k), .int .i64 (aAt (MemFunc.at1 m.fns j).body k), .int .i64 b0]] u fun e w' => e = .returned (.tuple #[]) ∧ SRes (w.heap.size + 1) u q (sF p m (ctxOf m (MemFunc.at1 m.fns j).sig (MemFunc.at1 m.fns j).loc).loc) (.slice (some ⟨g, 0, none⟩) (n + 1) cap) (PlainValid.step (ctxOf m (MemFunc.at1 m.fns j).sig (MemFunc.at1 m.fns j).loc) (oAt (MemFunc.at1 m.fns j).body k) (aAt (MemFunc.at1 m.fns j).body k) (h, st)) w') := fun u b0 hu hb => stepS (w.heap.size + 1) q g n cap u p m (MemFunc.at1 m.fns j).sig (MemFunc.at1 m.fns j).loc h st _ _ b0 ⟨hu, (hcs.out u (belw.out u hb)).2.2, hff.out.1, hff.out.2.1, hff.out.2.2, by omega, hIns⟩ (hB'.out.mono (by omega)) hres'.out
        rw [hab]
        clear hc hw' hsh1 hs1 hs2 hs3 hst hIns bel bw h11
        generalize PlainValid.step (ctxOf m (MemFunc.at1 m.fns j).sig (MemFunc.at1 m.fns j).loc) (oAt (MemFunc.at1 m.fns j).body k) (aAt (MemFunc.at1 m.fns j).body k) (h, st) = XX at *
        generalize PlainValid.told (h, st) = tt at *
        generalize oAt (MemFunc.at1 m.fns j).body k = o at *
        generalize aAt (MemFunc.at1 m.fns j).body k = i at *
        generalize bAt (MemFunc.at1 m.fns j).body k = b0 at *
        have bwA : Hid (SV (w.heap.size + 1) (wr.alloc (.cells #[.int .i64 o, .int .i64 i, .int .i64 b0] 62)) q (sF p m (ctxOf m (MemFunc.at1 m.fns j).sig (MemFunc.at1 m.fns j).loc).loc) h (.slice (some ⟨g, 0, none⟩) (n + 1) cap) false st) := bw'.out.alloc _
        have belA : Hid (Below (w.heap.size + 1) w0 (wr.alloc (.cells #[.int .i64 o, .int .i64 i, .int .i64 b0] 62))) := bel'.out.alloc hsz _
        go_wp2_with (go_at_call 30; refine (kSt.out _ _ bwA.out belA.out).mono ?_; rintro e w4 ⟨rfl, bad4, h4, v4, st4, bw4, kp4, hr4⟩; have z1 := bw4.isBad; have bw4' : Hid (SV (w.heap.size + 1) w4 q (sF p m (ctxOf m (MemFunc.at1 m.fns j).sig (MemFunc.at1 m.fns j).loc).loc) h4 v4 bad4 st4) := bw4; have kp4' : Hid (Kp q (wr.alloc (.cells #[.int .i64 o, .int .i64 i, .int .i64 b0] 62)) w4 (.slice (some ⟨g, 0, none⟩) (n + 1) cap) v4) := kp4; have hr' : Hid (XX = if bad4 = false then some (h4, st4) else none) := hr4; clear bw4 kp4 hr4; cases bad4)
        · have bel4 : Hid (Below (w.heap.size + 1) w0 w4) := belA.out.trans (svBelow bwA.out kp4'.out)
          obtain ⟨⟨nx1, nx2⟩, nx3, nx4⟩ := hNx.out _ hr'.out
          go_roundw
          case rel => exact ⟨k + 1, f, acc ++ [tt], h4, v4, st4, sh', by omega, by go_num, bw4'.out, nx1, hSh.out.1, by rw [hSh.out.2]; exact nx2.symm, by rw [show st4.length = _ from nx2]; unfold nOpen; split <;> (try split) <;> omega, nx3, nx4, hWn.out _ hr'.out, bel4.out⟩
          case measure => simp [intOf]; omega
        · have bel4 : Hid (Below (w.heap.size + 1) w0 w4) := belA.out.trans (svBelow bwA.out kp4'.out)
          have e1 : Hid (R = (k : Int)) := hWf.out hr'.out
          go_ret
          exact ⟨by rw [e1.out]; rfl, belw.out _ bel4.out⟩
    · obtain rfl : k = (MemFunc.at1 m.fns j).body.length := by omega
      obtain rfl : f = 0 := by omega
      have hn0 : n = 0 := by
        have := of_decide_eq_true (show decide (sh.length = 0) = true from hsh1)
        omega
      subst hn0
      have e1 : Hid (R = if closes (h, st) = true then -1 else ((MemFunc.at1 m.fns j).body.length : Int)) := by
        show _ = _
        rw [← hw'.out, walk]
        split <;> rfl
      obtain ⟨t0, t1, t2, t3⟩ := hB'.out.top (by show st.length ≠ 0; omega)
      have hlo := hB'.out.lo
      have hhi := hB'.out.hi
      simp only [SFlow.top_is hn.symm] at t0 t1 t2 t3
      dsimp only at hlo hhi
      have e2 : Hid (closes (h, st) = ((tk (st.getD 0 dF).res.toNat h (st.getD 0 dF).base (st.getD 0 dF).dead).2 && decide ((tk (st.getD 0 dF).res.toNat h (st.getD 0 dF).base (st.getD 0 dF).dead).1 = (st.getD 0 dF).base))) := by
        show _ = _
        unfold closes ends
        simp only [SFlow.top_is hn.symm]
        rw [decide_eq_true (Or.inl hop'.out : (st.getD 0 dF).op ≠ 4 ∨ (st.getD 0 dF).res = 0), Bool.and_true]
      have kC : Hid (∀ u : World, SV (w.heap.size + 1) u q (sF p m (ctxOf m (MemFunc.at1 m.fns j).sig (MemFunc.at1 m.fns j).loc).loc) h (.slice (some ⟨g, 0, none⟩) 1 cap) false st → Calls Tryz.prog 31 #[.pointer (some ⟨q, 0, none⟩)] u fun e w' => ∃ h', e = .returned (.tuple #[]) ∧ SV (w.heap.size + 1) w' q (sF p m (ctxOf m (MemFunc.at1 m.fns j).sig (MemFunc.at1 m.fns j).loc).loc) h' (.slice (some ⟨g, 0, none⟩) 1 cap) (!closes (h, st)) st ∧ Kp q u w' (.slice (some ⟨g, 0, none⟩) 1 cap) (.slice (some ⟨g, 0, none⟩) 1 cap)) := fun u hu => by
        rw [e2.out]
        exact (SWalks.closeUp (w.heap.size + 1) q g 0 cap u (sF p m (ctxOf m (MemFunc.at1 m.fns j).sig (MemFunc.at1 m.fns j).loc).loc) h false st hu (by omega) (by omega) (by omega) (by omega) (by omega) (by omega)).mono fun _ _ ⟨z1, z2, z3⟩ => ⟨_, z1, z2, z3⟩
      clear bw hsh1 hst hle bel hw' hB' t0 t1 t2 t3 hlo hhi e2
      generalize closes (h, st) = C at *
      cases C with
      | true =>
        have e3 : Hid (R = -1) := e1.out
        go_wp2_with (go_at_call 31; refine (kC.out _ bw'.out).mono ?_; rintro e w4 ⟨h4, rfl, bw4, kp4⟩; have z1 := bw4.isBad; have bel4 : Hid (Below (w.heap.size + 1) w0 w4) := bel'.out.trans (svBelow bw'.out kp4); clear bw4)
        go_ret
        exact ⟨by rw [e3.out]; rfl, belw.out _ bel4.out⟩
      | false =>
        have e3 : Hid (R = ((MemFunc.at1 m.fns j).body.length : Int)) := e1.out
        go_wp2_with (go_at_call 31; refine (kC.out _ bw'.out).mono ?_; rintro e w4 ⟨h4, rfl, bw4, kp4⟩; have z1 := bw4.isBad; have bel4 : Hid (Below (w.heap.size + 1) w0 w4) := bel'.out.trans (svBelow bw'.out kp4); obtain ⟨_, _, _, _, _, _, _, _⟩ := r8 (hr.out.of_block (bel4.out.block w.heap.size (by omega))); obtain ⟨_, _, _⟩ := hcs.out _ (belw.out _ bel4.out); clear bw4)
        go_ret
        exact ⟨by rw [e3.out]; rfl, belw.out _ bel4.out⟩
set_option maxRecDepth 20000 in
set_option maxHeartbeats 8000000 in
theorem faultNo (w : World) (p : P) (m : M) (i : Int) (h : Rd w p m) (hs : Small m) (hf : hasF m i = false) :
    Calls Tryz.prog 8 #[.agg #[.slice p.a0 m.sigs.length p.c0, .slice p.a1 m.imps.length p.c1, .slice p.a2 m.fns.length p.c2, .int .i64 m.pages, .int .i64 m.most, .slice p.a3 m.gls.length p.c3, .slice p.a4 m.exs.length p.c4, .slice p.a5 m.dat.length p.c5], .int .i64 i] w fun e w' => e = .returned (.int .i64 (-2)) ∧ Below w.heap.size w w' := by
  have kF : Hid (∀ u : World, Below w.heap.size w u → Calls Tryz.prog 28 #[.agg #[.slice p.a0 m.sigs.length p.c0, .slice p.a1 m.imps.length p.c1, .slice p.a2 m.fns.length p.c2, .int .i64 m.pages, .int .i64 m.most, .slice p.a3 m.gls.length p.c3, .slice p.a4 m.exs.length p.c4, .slice p.a5 m.dat.length p.c5]] u fun e w' => e = .returned (.bool (formOk m)) ∧ Below u.heap.size u w') := fun u hu => FormSpec.spec_formOk u p m (h.later hu) hs
  have hr : Hid ((w.alloc (.cells #[.slice p.a0 m.sigs.length p.c0, .slice p.a1 m.imps.length p.c1, .slice p.a2 m.fns.length p.c2, .int .i64 m.pages, .int .i64 m.most, .slice p.a3 m.gls.length p.c3, .slice p.a4 m.exs.length p.c4, .slice p.a5 m.dat.length p.c5] 39)).rowIs w.heap.size 39 8 (R8 (.slice p.a0 m.sigs.length p.c0) (.slice p.a1 m.imps.length p.c1) (.slice p.a2 m.fns.length p.c2) (.int .i64 m.pages) (.int .i64 m.most) (.slice p.a3 m.gls.length p.c3) (.slice p.a4 m.exs.length p.c4) (.slice p.a5 m.dat.length p.c5))) := r8_made w (.slice p.a0 m.sigs.length p.c0) (.slice p.a1 m.imps.length p.c1) (.slice p.a2 m.fns.length p.c2) (.int .i64 m.pages) (.int .i64 m.most) (.slice p.a3 m.gls.length p.c3) (.slice p.a4 m.exs.length p.c4) (.slice p.a5 m.dat.length p.c5) 39
  have hcase : formOk m = false ∨ (formOk m = true ∧ i < 0) ∨ (formOk m = true ∧ ¬ i < 0 ∧ (m.fns.length : Int) ≤ i) := by
    unfold hasF at hf
    cases hA : formOk m with
    | false => exact .inl rfl
    | true =>
      rw [hA, Bool.true_and] at hf
      have := of_decide_eq_false (show decide (0 ≤ i ∧ i ≤ (m.fns.length : Int) - 1) = false from hf)
      by_cases hi : i < 0
      · exact .inr (.inl ⟨rfl, hi⟩)
      · exact .inr (.inr ⟨rfl, hi, by omega⟩)
  clear h hs hf
  rcases hcase with hA | ⟨hA, hi⟩ | ⟨hA, hi, hi2⟩
  · rw [hA] at kF
    clear hA
    generalize m.sigs.length = N0 at *
    generalize m.imps.length = N1 at *
    generalize m.fns.length = N2 at *
    generalize m.gls.length = N3 at *
    generalize m.exs.length = N4 at *
    generalize m.dat.length = N5 at *
    go_enter Tryz.func8, Tryz.ntmps8
    go_wp2_with (go_at_call 28; refine (kF.out _ ((Below.refl _ _).alloc (Nat.le_refl _) _)).mono ?_; rintro e w1 ⟨rfl, q1⟩; obtain ⟨_, _, _, _, _, _, _, _⟩ := r8 (row_later hr.out q1))
    go_ret
    exact ⟨rfl, belB q1⟩
  · rw [hA] at kF
    clear hA
    generalize m.sigs.length = N0 at *
    generalize m.imps.length = N1 at *
    generalize m.fns.length = N2 at *
    generalize m.gls.length = N3 at *
    generalize m.exs.length = N4 at *
    generalize m.dat.length = N5 at *
    go_enter Tryz.func8, Tryz.ntmps8
    go_wp2_with (go_at_call 28; refine (kF.out _ ((Below.refl _ _).alloc (Nat.le_refl _) _)).mono ?_; rintro e w1 ⟨rfl, q1⟩; obtain ⟨_, _, _, _, _, _, _, _⟩ := r8 (row_later hr.out q1))
    go_ret
    exact ⟨rfl, belB q1⟩
  · rw [hA] at kF
    have hd : decide (i < 0) = false := decide_eq_false hi
    clear hA
    generalize m.sigs.length = N0 at *
    generalize m.imps.length = N1 at *
    generalize m.fns.length = N2 at *
    generalize m.gls.length = N3 at *
    generalize m.exs.length = N4 at *
    generalize m.dat.length = N5 at *
    go_enter Tryz.func8, Tryz.ntmps8
    go_wp2_with (go_at_call 28; refine (kF.out _ ((Below.refl _ _).alloc (Nat.le_refl _) _)).mono ?_; rintro e w1 ⟨rfl, q1⟩; obtain ⟨_, _, _, _, _, _, _, _⟩ := r8 (row_later hr.out q1))
    go_ret
    exact ⟨rfl, belB q1⟩
theorem spec_faultAt (w : World) (p : P) (m : M) (i : Int) (h : Rd w p m) (hs : Small m) :
    Calls Tryz.prog 8 #[.agg #[.slice p.a0 m.sigs.length p.c0, .slice p.a1 m.imps.length p.c1, .slice p.a2 m.fns.length p.c2, .int .i64 m.pages, .int .i64 m.most, .slice p.a3 m.gls.length p.c3, .slice p.a4 m.exs.length p.c4, .slice p.a5 m.dat.length p.c5], .int .i64 i] w fun e w' => e = .returned (.int .i64 (faultAt m i)) ∧ Below w.heap.size w w' := by
  unfold faultAt
  cases hH : hasF m i with
  | false => exact faultNo w p m i h hs hH
  | true =>
    obtain ⟨hf, i0, i1⟩ := hasF_lt hH
    obtain ⟨j, rfl⟩ : ∃ j : Nat, i = j := ⟨i.toNat, by omega⟩
    exact faultYes w p m j h hs hf (by omega)
end Go.Proofs.YtajlkdidjelpeaaGreatDoor.SFault
namespace Go.Proofs.YtajlkdidjelpeaaGreatDoor.FaultLaw
open Go.RowKit NameCalls InsMem FormCalls ModMem FormImpl FormLaw ValidFace ValidMax
set_option maxRecDepth 20000 in
set_option maxHeartbeats 4000000 in
theorem fnExactFaultAt (p : P) (m : M) (i : Int) (w : World) (h : Rd w p m) (hw : Wide m) (ht : Tab w) (hU : Utf w) :
    Calls Tryz.prog 3 #[val p m, .int .i64 i] w fun e w' => e = .returned (.bool true) ∧ Below w.heap.size w w' := by
  have ks : Hid (∀ u, Below w.heap.size w u → Calls Tryz.prog 7 #[val p m, .int .i64 1048576] u fun e w' => ∃ r : Int, e = .returned (.int .i64 r) ∧ r ≤ 1048576 ∧ -1 ≤ r ∧ (0 ≤ r → Small m) ∧ Below u.heap.size u w') := fun u hu => szM u p m 1048576 (h.later hu) hw (by omega) (by omega)
  have kc : Hid (∀ u, Small m → Below w.heap.size w u → Calls Tryz.prog 9 #[val p m] u fun e w' => ∃ xa0 xn0 xc0 xa1 xn1 xc1 xa2 xn2 xc2 xi3 xi4 xa5 xn5 xc5 xa6 xn6 xc6 xa7 xn7 xc7 p' m', e = .returned (.agg #[.slice xa0 xn0 xc0, .slice xa1 xn1 xc1, .slice xa2 xn2 xc2, .int .i64 xi3, .int .i64 xi4, .slice xa5 xn5 xc5, .slice xa6 xn6 xc6, .slice xa7 xn7 xc7]) ∧ Value.agg #[.slice xa0 xn0 xc0, .slice xa1 xn1 xc1, .slice xa2 xn2 xc2, .int .i64 xi3, .int .i64 xi4, .slice xa5 xn5 xc5, .slice xa6 xn6 xc6, .slice xa7 xn7 xc7] = val p' m' ∧ Rd w' p' m' ∧ Same m m' ∧ Below u.heap.size u w' ∧ Below w.heap.size w w') := fun u hs hb => copyM w u p m _ rfl h hs hb
  have kS : Hid (∀ u V p' m', V = val p' m' → Small m → Same m m' → Rd u p' m' → Calls Tryz.prog 8 #[V, .int .i64 i] u fun e w' => e = .returned (.int .i64 (faultAt m i)) ∧ Below u.heap.size u w') := fun u V p' m' hv hs s hr => by
    rw [← faultAt_same s i, hv]
    exact SFault.spec_faultAt u p' m' i hr (hs.same s)
  have kI : Hid (∀ u V p' m', V = val p' m' → Small m → Same m m' → Rd u p' m' → Below w.heap.size w u → Calls Tryz.prog 10 #[V, .int .i64 i] u fun e w' => e = .returned (.int .i64 (faultAt m i)) ∧ Below u.heap.size u w') := fun u V p' m' hv hs s hr hb => by
    rw [← faultAt_same s i, hv]
    exact impl_faultAt u p' m' i ⟨hr, hs.same s, ht.later hb, UtfLaw.tabs_later hU hb⟩
  have kE : Hid (∀ u V V' p p' m m', V = val p m → V' = val p' m' → Rd u p m → Rd u p' m' → Same m m' → Small m → Calls Tryz.prog 11 #[V, V'] u fun e w' => e = .returned (.bool true) ∧ Below u.heap.size u w') := fun u V V' p p' m m' hv hv' h h' s hs => by
    rw [hv, hv']
    exact eqM u p p' m m' h h' s hs
  clear h hw ht hU
  generalize faultAt m i = R at *
  obtain ⟨y0a0, y0n0, y0c0, y0a1, y0n1, y0c1, y0a2, y0n2, y0c2, y0i3, y0i4, y0a5, y0n5, y0c5, y0a6, y0n6, y0c6, y0a7, y0n7, y0c7, hv⟩ := val_agg p m
  rw [hv] at ks kc ⊢
  clear hv
  have T0 : Hid (TS w (w.alloc (.cells #[.slice y0a0 y0n0 y0c0, .slice y0a1 y0n1 y0c1, .slice y0a2 y0n2 y0c2, .int .i64 y0i3, .int .i64 y0i4, .slice y0a5 y0n5 y0c5, .slice y0a6 y0n6 y0c6, .slice y0a7 y0n7 y0c7] 29)) (.slice y0a0 y0n0 y0c0) (.slice y0a1 y0n1 y0c1) (.slice y0a2 y0n2 y0c2) (.int .i64 y0i3) (.int .i64 y0i4) (.slice y0a5 y0n5 y0c5) (.slice y0a6 y0n6 y0c6) (.slice y0a7 y0n7 y0c7)) := ⟨r8_made w (.slice y0a0 y0n0 y0c0) (.slice y0a1 y0n1 y0c1) (.slice y0a2 y0n2 y0c2) (.int .i64 y0i3) (.int .i64 y0i4) (.slice y0a5 y0n5 y0c5) (.slice y0a6 y0n6 y0c6) (.slice y0a7 y0n7 y0c7) 29, (Below.refl _ _).alloc (Nat.le_refl _) _⟩
  go_enter Tryz.func3, Tryz.ntmps3
  go_wp2_with (go_at_call 7; refine (ks.out _ T0.out.bl).mono ?_; rintro e w1 ⟨r, rfl, r1, r2, r3, q1⟩; have r3' : Hid (0 ≤ r → Small m) := r3; clear r3; have T1 : Hid (TS w w1 (.slice y0a0 y0n0 y0c0) (.slice y0a1 y0n1 y0c1) (.slice y0a2 y0n2 y0c2) (.int .i64 y0i3) (.int .i64 y0i4) (.slice y0a5 y0n5 y0c5) (.slice y0a6 y0n6 y0c6) (.slice y0a7 y0n7 y0c7)) := T0.out.call q1; obtain ⟨_, _, _, _, _, _, _, _⟩ := r8 T1.out.ra)
  · go_ret
    exact ⟨rfl, T1.out.bl⟩
  · have hs : Hid (Small m) := r3'.out (by omega)
    go_wp2_with (go_at_call 9; refine (kc.out _ hs.out T1.out.bl).mono ?_; rintro e w2 ⟨y2a0, y2n0, y2c0, y2a1, y2n1, y2c1, y2a2, y2n2, y2c2, y2i3, y2i4, y2a5, y2n5, y2c5, y2a6, y2n6, y2c6, y2a7, y2n7, y2c7, p2, m2, rfl, v2', h2', s2', q2, _⟩; have v2 : Hid (Value.agg #[.slice y2a0 y2n0 y2c0, .slice y2a1 y2n1 y2c1, .slice y2a2 y2n2 y2c2, .int .i64 y2i3, .int .i64 y2i4, .slice y2a5 y2n5 y2c5, .slice y2a6 y2n6 y2c6, .slice y2a7 y2n7 y2c7] = val p2 m2) := v2'; have h2 : Hid (Rd w2 p2 m2) := h2'; have s2 : Hid (Same m m2) := s2'; clear v2' h2' s2'; have T2 : Hid (TS w w2 (.slice y0a0 y0n0 y0c0) (.slice y0a1 y0n1 y0c1) (.slice y0a2 y0n2 y0c2) (.int .i64 y0i3) (.int .i64 y0i4) (.slice y0a5 y0n5 y0c5) (.slice y0a6 y0n6 y0c6) (.slice y0a7 y0n7 y0c7)) := T1.out.call q2)
    go_wp2_with (go_at_call 8; refine (kS.out _ _ p2 m2 v2.out hs.out s2.out h2.out).mono ?_; rintro e w3 ⟨rfl, q3⟩; have T3 : Hid (TS w w3 (.slice y0a0 y0n0 y0c0) (.slice y0a1 y0n1 y0c1) (.slice y0a2 y0n2 y0c2) (.int .i64 y0i3) (.int .i64 y0i4) (.slice y0a5 y0n5 y0c5) (.slice y0a6 y0n6 y0c6) (.slice y0a7 y0n7 y0c7)) := T2.out.call q3; obtain ⟨_, _, _, _, _, _, _, _⟩ := r8 T3.out.ra)
    go_wp2_with (go_at_call 9; refine (kc.out _ hs.out T3.out.bl).mono ?_; rintro e w4 ⟨y4a0, y4n0, y4c0, y4a1, y4n1, y4c1, y4a2, y4n2, y4c2, y4i3, y4i4, y4a5, y4n5, y4c5, y4a6, y4n6, y4c6, y4a7, y4n7, y4c7, p4, m4, rfl, v4', h4', s4', q4, _⟩; have v4 : Hid (Value.agg #[.slice y4a0 y4n0 y4c0, .slice y4a1 y4n1 y4c1, .slice y4a2 y4n2 y4c2, .int .i64 y4i3, .int .i64 y4i4, .slice y4a5 y4n5 y4c5, .slice y4a6 y4n6 y4c6, .slice y4a7 y4n7 y4c7] = val p4 m4) := v4'; have h4 : Hid (Rd w4 p4 m4) := h4'; have s4 : Hid (Same m m4) := s4'; clear v4' h4' s4'; have T4 : Hid (TS w w4 (.slice y0a0 y0n0 y0c0) (.slice y0a1 y0n1 y0c1) (.slice y0a2 y0n2 y0c2) (.int .i64 y0i3) (.int .i64 y0i4) (.slice y0a5 y0n5 y0c5) (.slice y0a6 y0n6 y0c6) (.slice y0a7 y0n7 y0c7)) := T3.out.call q4; have X4 : Hid ((w4.alloc (.cells #[.slice y4a0 y4n0 y4c0, .slice y4a1 y4n1 y4c1, .slice y4a2 y4n2 y4c2, .int .i64 y4i3, .int .i64 y4i4, .slice y4a5 y4n5 y4c5, .slice y4a6 y4n6 y4c6, .slice y4a7 y4n7 y4c7] 39)).rowIs w4.heap.size 39 8 (R8 (.slice y4a0 y4n0 y4c0) (.slice y4a1 y4n1 y4c1) (.slice y4a2 y4n2 y4c2) (.int .i64 y4i3) (.int .i64 y4i4) (.slice y4a5 y4n5 y4c5) (.slice y4a6 y4n6 y4c6) (.slice y4a7 y4n7 y4c7))) := r8_made w4 (.slice y4a0 y4n0 y4c0) (.slice y4a1 y4n1 y4c1) (.slice y4a2 y4n2 y4c2) (.int .i64 y4i3) (.int .i64 y4i4) (.slice y4a5 y4n5 y4c5) (.slice y4a6 y4n6 y4c6) (.slice y4a7 y4n7 y4c7) 39; have A4 : Hid (Below w4.heap.size w4 (w4.alloc (.cells #[.slice y4a0 y4n0 y4c0, .slice y4a1 y4n1 y4c1, .slice y4a2 y4n2 y4c2, .int .i64 y4i3, .int .i64 y4i4, .slice y4a5 y4n5 y4c5, .slice y4a6 y4n6 y4c6, .slice y4a7 y4n7 y4c7] 39))) := (Below.refl _ _).alloc (Nat.le_refl _) _)
    go_wp2_with (go_at_call 10; refine (kI.out _ _ p4 m4 v4.out hs.out s4.out (h4.out.later A4.out) (T4.out.call A4.out).bl).mono ?_; rintro e w5 ⟨rfl, q5⟩; have T5 : Hid (TS w w5 (.slice y0a0 y0n0 y0c0) (.slice y0a1 y0n1 y0c1) (.slice y0a2 y0n2 y0c2) (.int .i64 y0i3) (.int .i64 y0i4) (.slice y0a5 y0n5 y0c5) (.slice y0a6 y0n6 y0c6) (.slice y0a7 y0n7 y0c7)) := (T4.out.call A4.out).call q5; have X5 : Hid (w5.rowIs w4.heap.size 39 8 (R8 (.slice y4a0 y4n0 y4c0) (.slice y4a1 y4n1 y4c1) (.slice y4a2 y4n2 y4c2) (.int .i64 y4i3) (.int .i64 y4i4) (.slice y4a5 y4n5 y4c5) (.slice y4a6 y4n6 y4c6) (.slice y4a7 y4n7 y4c7))) := row_later X4.out q5; have h5 : Hid (Rd w5 p4 m4) := (h4.out.later A4.out).later q5; obtain ⟨_, _, _, _, _, _, _, _⟩ := r8 T5.out.ra; obtain ⟨_, _, _, _, _, _, _, _⟩ := r8 X5.out)
    have D5 : Hid (Below w5.heap.size w5 w5.drew) := (Below.refl _ _).drew
    have T5d : Hid (TS w w5.drew (.slice y0a0 y0n0 y0c0) (.slice y0a1 y0n1 y0c1) (.slice y0a2 y0n2 y0c2) (.int .i64 y0i3) (.int .i64 y0i4) (.slice y0a5 y0n5 y0c5) (.slice y0a6 y0n6 y0c6) (.slice y0a7 y0n7 y0c7)) := T5.out.call D5.out
    have X5d : Hid (w5.drew.rowIs w4.heap.size 39 8 (R8 (.slice y4a0 y4n0 y4c0) (.slice y4a1 y4n1 y4c1) (.slice y4a2 y4n2 y4c2) (.int .i64 y4i3) (.int .i64 y4i4) (.slice y4a5 y4n5 y4c5) (.slice y4a6 y4n6 y4c6) (.slice y4a7 y4n7 y4c7))) := row_later X5.out D5.out
    have h5d : Hid (Rd w5.drew p4 m4) := h5.out.later D5.out
    go_region_held (fun w' => w'.cell? ⟨w.heap.size, 0, none⟩ = some (.slice y0a0 y0n0 y0c0) ∧ w'.cell? ⟨w.heap.size, 1, none⟩ = some (.slice y0a1 y0n1 y0c1) ∧ w'.cell? ⟨w.heap.size, 2, none⟩ = some (.slice y0a2 y0n2 y0c2) ∧ w'.cell? ⟨w.heap.size, 3, none⟩ = some (.int .i64 y0i3) ∧ w'.cell? ⟨w.heap.size, 4, none⟩ = some (.int .i64 y0i4) ∧ w'.cell? ⟨w.heap.size, 5, none⟩ = some (.slice y0a5 y0n5 y0c5) ∧ w'.cell? ⟨w.heap.size, 6, none⟩ = some (.slice y0a6 y0n6 y0c6) ∧ w'.cell? ⟨w.heap.size, 7, none⟩ = some (.slice y0a7 y0n7 y0c7) ∧ w'.cell? ⟨w4.heap.size, 0, none⟩ = some (.slice y4a0 y4n0 y4c0) ∧ w'.cell? ⟨w4.heap.size, 1, none⟩ = some (.slice y4a1 y4n1 y4c1) ∧ w'.cell? ⟨w4.heap.size, 2, none⟩ = some (.slice y4a2 y4n2 y4c2) ∧ w'.cell? ⟨w4.heap.size, 3, none⟩ = some (.int .i64 y4i3) ∧ w'.cell? ⟨w4.heap.size, 4, none⟩ = some (.int .i64 y4i4) ∧ w'.cell? ⟨w4.heap.size, 5, none⟩ = some (.slice y4a5 y4n5 y4c5) ∧ w'.cell? ⟨w4.heap.size, 6, none⟩ = some (.slice y4a6 y4n6 y4c6) ∧ w'.cell? ⟨w4.heap.size, 7, none⟩ = some (.slice y4a7 y4n7 y4c7)) (go_keep)
      (first | (go_at_call 9; refine (kc.out _ hs.out T5d.out.bl).mono ?_; rintro e w6 ⟨y6a0, y6n0, y6c0, y6a1, y6n1, y6c1, y6a2, y6n2, y6c2, y6i3, y6i4, y6a5, y6n5, y6c5, y6a6, y6n6, y6c6, y6a7, y6n7, y6c7, p6, m6, rfl, v6', h6', s6', q6, _⟩; have v6 : Hid (Value.agg #[.slice y6a0 y6n0 y6c0, .slice y6a1 y6n1 y6c1, .slice y6a2 y6n2 y6c2, .int .i64 y6i3, .int .i64 y6i4, .slice y6a5 y6n5 y6c5, .slice y6a6 y6n6 y6c6, .slice y6a7 y6n7 y6c7] = val p6 m6) := v6'; have h6 : Hid (Rd w6 p6 m6) := h6'; have s6 : Hid (Same m m6) := s6'; clear v6' h6' s6'; have T6 : Hid (TS w w6 (.slice y0a0 y0n0 y0c0) (.slice y0a1 y0n1 y0c1) (.slice y0a2 y0n2 y0c2) (.int .i64 y0i3) (.int .i64 y0i4) (.slice y0a5 y0n5 y0c5) (.slice y0a6 y0n6 y0c6) (.slice y0a7 y0n7 y0c7)) := T5d.out.call q6; have X6 : Hid (w6.rowIs w4.heap.size 39 8 (R8 (.slice y4a0 y4n0 y4c0) (.slice y4a1 y4n1 y4c1) (.slice y4a2 y4n2 y4c2) (.int .i64 y4i3) (.int .i64 y4i4) (.slice y4a5 y4n5 y4c5) (.slice y4a6 y4n6 y4c6) (.slice y4a7 y4n7 y4c7))) := row_later X5d.out q6; obtain ⟨_, _, _, _, _, _, _, _⟩ := r8 X6.out; obtain ⟨_, _, _, _, _, _, _, _⟩ := r8 T6.out.ra) | (go_at_call 11; refine (kE.out _ _ _ p4 p6 m4 m6 v4.out v6.out (h5d.out.later q6) h6.out (s4.out.symm.trans s6.out) (hs.out.same s4.out)).mono ?_; rintro e w7 ⟨rfl, q7⟩; have X7 : Hid (w7.rowIs w4.heap.size 39 8 (R8 (.slice y4a0 y4n0 y4c0) (.slice y4a1 y4n1 y4c1) (.slice y4a2 y4n2 y4c2) (.int .i64 y4i3) (.int .i64 y4i4) (.slice y4a5 y4n5 y4c5) (.slice y4a6 y4n6 y4c6) (.slice y4a7 y4n7 y4c7))) := row_later X6.out q7; obtain ⟨_, _, _, _, _, _, _, _⟩ := r8 X7.out; have T7 : Hid (TS w w7 (.slice y0a0 y0n0 y0c0) (.slice y0a1 y0n1 y0c1) (.slice y0a2 y0n2 y0c2) (.int .i64 y0i3) (.int .i64 y0i4) (.slice y0a5 y0n5 y0c5) (.slice y0a6 y0n6 y0c6) (.slice y0a7 y0n7 y0c7)) := T6.out.call q7; obtain ⟨_, _, _, _, _, _, _, _⟩ := r8 T7.out.ra))
    go_wp2_with fail
    go_ret
    exact ⟨rfl, (T6.out.call q7).bl⟩
end Go.Proofs.YtajlkdidjelpeaaGreatDoor.FaultLaw
