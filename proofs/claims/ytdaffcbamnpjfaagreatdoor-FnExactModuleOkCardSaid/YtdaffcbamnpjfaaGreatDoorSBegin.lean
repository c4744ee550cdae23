/-
  The specification's walk begins. (Written by my specface.py.)
-/
import Derived.Test.YtdaffcbamnpjfaaGreatDoorSStep
import Derived.Test.YtdaffcbamnpjfaaGreatDoorValidAll
namespace Go.Proofs.YtdaffcbamnpjfaaGreatDoor.SBegin
open Go.RowKit PlainOps NameCalls PlainNum NumCalls InsCalls InsImpl PlainShape InsMem ShapeCalls FormCalls ModMem FormImpl PlainValid ValidCtx ValidStep ValidNext ValidWalk ValidHeights ValidFace ValidMax Piles Walks SPiles SWalks SIns SHas SFlow SStep

theorem sv_new (w : World) (p : P) (m : M) (j : Nat) : SV w.heap.size (((((w.alloc (.cells #[.slice p.a0 m.sigs.length p.c0, .slice p.a1 m.imps.length p.c1, .slice p.a2 m.fns.length p.c2, .int .i64 m.pages, .int .i64 m.most, .slice p.a3 m.gls.length p.c3, .slice p.a4 m.exs.length p.c4, .slice p.a5 m.dat.length p.c5] 39)).alloc (.cells #[.int .i64 (MemFunc.at1 m.fns j).sig, .int .i64 (MemFunc.at1 m.fns j).loc, .slice (MemFunc.at1 m.fns j).ad (MemFunc.at1 m.fns j).body.length (MemFunc.at1 m.fns j).cp] 60)).alloc (.cells #[.int .i64 (MemSig.f0At m.sigs (MemFunc.at1 m.fns j).sig.toNat), .int .i64 (MemSig.f1At m.sigs (MemFunc.at1 m.fns j).sig.toNat)] 119)).alloc (.cells #[.int .i64 2, .int .i64 (MemSig.f1At m.sigs (MemFunc.at1 m.fns j).sig.toNat), .int .i64 0, .bool false] 93)).alloc (.cells #[.slice p.a0 m.sigs.length p.c0, .slice p.a1 m.imps.length p.c1, .slice p.a2 m.fns.length p.c2, .int .i64 m.pages, .int .i64 m.most, .slice p.a3 m.gls.length p.c3, .slice p.a4 m.exs.length p.c4, .slice p.a5 m.dat.length p.c5, .int .i64 (MemSig.f0At m.sigs (MemFunc.at1 m.fns j).sig.toNat + (MemFunc.at1 m.fns j).loc), .int .i64 0, .slice (some ⟨w.heap.size + 3, 0, none⟩) 1 1, .bool false] 66)) (w.heap.size + 4) (sF p m (ctxOf m (MemFunc.at1 m.fns j).sig (MemFunc.at1 m.fns j).loc).loc) 0 (.slice (some ⟨w.heap.size + 3, 0, none⟩) 1 1) false [⟨2, (ctxOf m (MemFunc.at1 m.fns j).sig (MemFunc.at1 m.fns j).loc).own, 0, false⟩] := by
  have r := World.rowIs_alloc ((((w.alloc (.cells #[.slice p.a0 m.sigs.length p.c0, .slice p.a1 m.imps.length p.c1, .slice p.a2 m.fns.length p.c2, .int .i64 m.pages, .int .i64 m.most, .slice p.a3 m.gls.length p.c3, .slice p.a4 m.exs.length p.c4, .slice p.a5 m.dat.length p.c5] 39)).alloc (.cells #[.int .i64 (MemFunc.at1 m.fns j).sig, .int .i64 (MemFunc.at1 m.fns j).loc, .slice (MemFunc.at1 m.fns j).ad (MemFunc.at1 m.fns j).body.length (MemFunc.at1 m.fns j).cp] 60)).alloc (.cells #[.int .i64 (MemSig.f0At m.sigs (MemFunc.at1 m.fns j).sig.toNat), .int .i64 (MemSig.f1At m.sigs (MemFunc.at1 m.fns j).sig.toNat)] 119)).alloc (.cells #[.int .i64 2, .int .i64 (MemSig.f1At m.sigs (MemFunc.at1 m.fns j).sig.toNat), .int .i64 0, .bool false] 93)) #[.slice p.a0 m.sigs.length p.c0, .slice p.a1 m.imps.length p.c1, .slice p.a2 m.fns.length p.c2, .int .i64 m.pages, .int .i64 m.most, .slice p.a3 m.gls.length p.c3, .slice p.a4 m.exs.length p.c4, .slice p.a5 m.dat.length p.c5, .int .i64 (MemSig.f0At m.sigs (MemFunc.at1 m.fns j).sig.toNat + (MemFunc.at1 m.fns j).loc), .int .i64 0, .slice (some ⟨w.heap.size + 3, 0, none⟩) 1 1, .bool false] 66 (svC (sF p m (ctxOf m (MemFunc.at1 m.fns j).sig (MemFunc.at1 m.fns j).loc).loc) 0 (.slice (some ⟨w.heap.size + 3, 0, none⟩) 1 1) false) (fun i hi => by
    match i, hi with
    | 0, _ => rfl
    | 1, _ => rfl
    | 2, _ => rfl
    | 3, _ => rfl
    | 4, _ => rfl
    | 5, _ => rfl
    | 6, _ => rfl
    | 7, _ => rfl
    | 8, _ => rfl
    | 9, _ => rfl
    | 10, _ => rfl
    | 11, _ => rfl)
  simp only [World.size_alloc] at r
  have r2 : ((((w.alloc (.cells #[.slice p.a0 m.sigs.length p.c0, .slice p.a1 m.imps.length p.c1, .slice p.a2 m.fns.length p.c2, .int .i64 m.pages, .int .i64 m.most, .slice p.a3 m.gls.length p.c3, .slice p.a4 m.exs.length p.c4, .slice p.a5 m.dat.length p.c5] 39)).alloc (.cells #[.int .i64 (MemFunc.at1 m.fns j).sig, .int .i64 (MemFunc.at1 m.fns j).loc, .slice (MemFunc.at1 m.fns j).ad (MemFunc.at1 m.fns j).body.length (MemFunc.at1 m.fns j).cp] 60)).alloc (.cells #[.int .i64 (MemSig.f0At m.sigs (MemFunc.at1 m.fns j).sig.toNat), .int .i64 (MemSig.f1At m.sigs (MemFunc.at1 m.fns j).sig.toNat)] 119)).alloc (.cells #[.int .i64 2, .int .i64 (MemSig.f1At m.sigs (MemFunc.at1 m.fns j).sig.toNat), .int .i64 0, .bool false] 93)).heap[w.heap.size + 3]? = some (.cells #[.int .i64 2, .int .i64 (MemSig.f1At m.sigs (MemFunc.at1 m.fns j).sig.toNat), .int .i64 0, .bool false] 93 (0, 0)) := by
    have := heap_alloc_new (((w.alloc (.cells #[.slice p.a0 m.sigs.length p.c0, .slice p.a1 m.imps.length p.c1, .slice p.a2 m.fns.length p.c2, .int .i64 m.pages, .int .i64 m.most, .slice p.a3 m.gls.length p.c3, .slice p.a4 m.exs.length p.c4, .slice p.a5 m.dat.length p.c5] 39)).alloc (.cells #[.int .i64 (MemFunc.at1 m.fns j).sig, .int .i64 (MemFunc.at1 m.fns j).loc, .slice (MemFunc.at1 m.fns j).ad (MemFunc.at1 m.fns j).body.length (MemFunc.at1 m.fns j).cp] 60)).alloc (.cells #[.int .i64 (MemSig.f0At m.sigs (MemFunc.at1 m.fns j).sig.toNat), .int .i64 (MemSig.f1At m.sigs (MemFunc.at1 m.fns j).sig.toNat)] 119)) (.cells #[.int .i64 2, .int .i64 (MemSig.f1At m.sigs (MemFunc.at1 m.fns j).sig.toNat), .int .i64 0, .bool false] 93)
    simp only [World.size_alloc] at this
    exact this
  have r3 : (((((w.alloc (.cells #[.slice p.a0 m.sigs.length p.c0, .slice p.a1 m.imps.length p.c1, .slice p.a2 m.fns.length p.c2, .int .i64 m.pages, .int .i64 m.most, .slice p.a3 m.gls.length p.c3, .slice p.a4 m.exs.length p.c4, .slice p.a5 m.dat.length p.c5] 39)).alloc (.cells #[.int .i64 (MemFunc.at1 m.fns j).sig, .int .i64 (MemFunc.at1 m.fns j).loc, .slice (MemFunc.at1 m.fns j).ad (MemFunc.at1 m.fns j).body.length (MemFunc.at1 m.fns j).cp] 60)).alloc (.cells #[.int .i64 (MemSig.f0At m.sigs (MemFunc.at1 m.fns j).sig.toNat), .int .i64 (MemSig.f1At m.sigs (MemFunc.at1 m.fns j).sig.toNat)] 119)).alloc (.cells #[.int .i64 2, .int .i64 (MemSig.f1At m.sigs (MemFunc.at1 m.fns j).sig.toNat), .int .i64 0, .bool false] 93)).alloc (.cells #[.slice p.a0 m.sigs.length p.c0, .slice p.a1 m.imps.length p.c1, .slice p.a2 m.fns.length p.c2, .int .i64 m.pages, .int .i64 m.most, .slice p.a3 m.gls.length p.c3, .slice p.a4 m.exs.length p.c4, .slice p.a5 m.dat.length p.c5, .int .i64 (MemSig.f0At m.sigs (MemFunc.at1 m.fns j).sig.toNat + (MemFunc.at1 m.fns j).loc), .int .i64 0, .slice (some ⟨w.heap.size + 3, 0, none⟩) 1 1, .bool false] 66)).heap[w.heap.size + 3]? = some (.cells #[.int .i64 2, .int .i64 (MemSig.f1At m.sigs (MemFunc.at1 m.fns j).sig.toNat), .int .i64 0, .bool false] 93 (0, 0)) := (Below.heap_alloc _ _ _ (by simp)).trans r2
  exact ⟨r, ⟨rfl, .inr ⟨w.heap.size + 3, 1, _, rfl, by omega, r3, Nat.le_refl _, by decide, rfl, rfl⟩⟩, by simp [Value.ownBlock], by omega⟩
set_option maxRecDepth 20000 in
set_option maxHeartbeats 8000000 in
theorem begin' (p : P) (m : M) (j : Nat) (w : World) (hR : Rd w p m) (f : Facts m) (hj : j < m.fns.length) :
    Calls Tryz.prog 29 #[.agg #[.slice p.a0 m.sigs.length p.c0, .slice p.a1 m.imps.length p.c1, .slice p.a2 m.fns.length p.c2, .int .i64 m.pages, .int .i64 m.most, .slice p.a3 m.gls.length p.c3, .slice p.a4 m.exs.length p.c4, .slice p.a5 m.dat.length p.c5], .int .i64 (j : Int)] w fun e w' => ∃ q g cap, e = .returned (.pointer (some ⟨q, 0, none⟩)) ∧ SV w.heap.size w' q (sF p m (ctxOf m (MemFunc.at1 m.fns j).sig (MemFunc.at1 m.fns j).loc).loc) 0 (.slice (some ⟨g, 0, none⟩) 1 cap) false [⟨2, (ctxOf m (MemFunc.at1 m.fns j).sig (MemFunc.at1 m.fns j).loc).own, 0, false⟩] ∧ Below w.heap.size w w' := by
  obtain ⟨b, off, ha, y0, y1, y2⟩ := fn_cells hR hj
  have hb : b < w.heap.size := World.block_lt_of_cell? w _ y0
  obtain ⟨f0, f1, f2, f3, _⟩ := f.fn j hj
  obtain ⟨g0, g1, g2, g3⟩ := f.sg (MemFunc.at1 m.fns j).sig.toNat (by omega)
  have hco := f.co
  have hB : Hid (SV w.heap.size (((((w.alloc (.cells #[.slice p.a0 m.sigs.length p.c0, .slice p.a1 m.imps.length p.c1, .slice p.a2 m.fns.length p.c2, .int .i64 m.pages, .int .i64 m.most, .slice p.a3 m.gls.length p.c3, .slice p.a4 m.exs.length p.c4, .slice p.a5 m.dat.length p.c5] 39)).alloc (.cells #[.int .i64 (MemFunc.at1 m.fns j).sig, .int .i64 (MemFunc.at1 m.fns j).loc, .slice (MemFunc.at1 m.fns j).ad (MemFunc.at1 m.fns j).body.length (MemFunc.at1 m.fns j).cp] 60)).alloc (.cells #[.int .i64 (MemSig.f0At m.sigs (MemFunc.at1 m.fns j).sig.toNat), .int .i64 (MemSig.f1At m.sigs (MemFunc.at1 m.fns j).sig.toNat)] 119)).alloc (.cells #[.int .i64 2, .int .i64 (MemSig.f1At m.sigs (MemFunc.at1 m.fns j).sig.toNat), .int .i64 0, .bool false] 93)).alloc (.cells #[.slice p.a0 m.sigs.length p.c0, .slice p.a1 m.imps.length p.c1, .slice p.a2 m.fns.length p.c2, .int .i64 m.pages, .int .i64 m.most, .slice p.a3 m.gls.length p.c3, .slice p.a4 m.exs.length p.c4, .slice p.a5 m.dat.length p.c5, .int .i64 (MemSig.f0At m.sigs (MemFunc.at1 m.fns j).sig.toNat + (MemFunc.at1 m.fns j).loc), .int .i64 0, .slice (some ⟨w.heap.size + 3, 0, none⟩) 1 1, .bool false] 66)) (w.heap.size + 4) (sF p m (ctxOf m (MemFunc.at1 m.fns j).sig (MemFunc.at1 m.fns j).loc).loc) 0 (.slice (some ⟨w.heap.size + 3, 0, none⟩) 1 1) false [⟨2, (ctxOf m (MemFunc.at1 m.fns j).sig (MemFunc.at1 m.fns j).loc).own, 0, false⟩]) := sv_new w p m j
  have bb : Hid (Below w.heap.size w (((((w.alloc (.cells #[.slice p.a0 m.sigs.length p.c0, .slice p.a1 m.imps.length p.c1, .slice p.a2 m.fns.length p.c2, .int .i64 m.pages, .int .i64 m.most, .slice p.a3 m.gls.length p.c3, .slice p.a4 m.exs.length p.c4, .slice p.a5 m.dat.length p.c5] 39)).alloc (.cells #[.int .i64 (MemFunc.at1 m.fns j).sig, .int .i64 (MemFunc.at1 m.fns j).loc, .slice (MemFunc.at1 m.fns j).ad (MemFunc.at1 m.fns j).body.length (MemFunc.at1 m.fns j).cp] 60)).alloc (.cells #[.int .i64 (MemSig.f0At m.sigs (MemFunc.at1 m.fns j).sig.toNat), .int .i64 (MemSig.f1At m.sigs (MemFunc.at1 m.fns j).sig.toNat)] 119)).alloc (.cells #[.int .i64 2, .int .i64 (MemSig.f1At m.sigs (MemFunc.at1 m.fns j).sig.toNat), .int .i64 0, .bool false] 93)).alloc (.cells #[.slice p.a0 m.sigs.length p.c0, .slice p.a1 m.imps.length p.c1, .slice p.a2 m.fns.length p.c2, .int .i64 m.pages, .int .i64 m.most, .slice p.a3 m.gls.length p.c3, .slice p.a4 m.exs.length p.c4, .slice p.a5 m.dat.length p.c5, .int .i64 (MemSig.f0At m.sigs (MemFunc.at1 m.fns j).sig.toNat + (MemFunc.at1 m.fns j).loc), .int .i64 0, .slice (some ⟨w.heap.size + 3, 0, none⟩) 1 1, .bool false] 66))) := (((((Below.refl _ _).alloc (Nat.le_refl _) _).alloc (by simp) _).alloc (by simp; omega) _).alloc (by simp; omega) _).alloc (by simp; omega) _
  obtain ⟨z, hz⟩ : ∃ z : Nat, (MemFunc.at1 m.fns j).sig = z := ⟨(MemFunc.at1 m.fns j).sig.toNat, by omega⟩
  have hz' : (z : Int) < (m.sigs.length : Int) := by omega
  obtain ⟨h0, _⟩ := hR
  rcases h0 with h0 | ⟨bs, os, has, hcs⟩
  · omega
  · obtain ⟨x0, x1⟩ := hcs z (by omega)
    have hbs : bs < w.heap.size := World.block_lt_of_cell? w _ x0
    have hj' : (j : Int) < (m.fns.length : Int) := by omega
    have hw : IntKind.i64.wrap (MemSig.f0At m.sigs (MemFunc.at1 m.fns j).sig.toNat + (MemFunc.at1 m.fns j).loc) = MemSig.f0At m.sigs (MemFunc.at1 m.fns j).sig.toNat + (MemFunc.at1 m.fns j).loc := IntWalk.i64_in _ (by omega)
    clear hcs f hj
    generalize (ctxOf m (MemFunc.at1 m.fns j).sig (MemFunc.at1 m.fns j).loc).own = co at *
    generalize (sF p m (ctxOf m (MemFunc.at1 m.fns j).sig (MemFunc.at1 m.fns j).loc).loc) = FF at *
    rw [hz] at hB bb y0 hw g0 g1 g2 g3
    rw [Int.toNat_natCast] at hB bb hw g0 g1 g2 g3
    rw [has, ha] at hB bb ⊢
    generalize MemSig.f0At m.sigs z = X0 at *
    generalize MemSig.f1At m.sigs z = X1 at *
    generalize (MemFunc.at1 m.fns j).loc = XL at *
    generalize (MemFunc.at1 m.fns j).ad = AD at *
    generalize (MemFunc.at1 m.fns j).body.length = NB at *
    generalize (MemFunc.at1 m.fns j).cp = CP at *
    clear hz ha has f0 f1
    generalize m.sigs.length = N0 at *
    generalize m.imps.length = N1 at *
    generalize m.fns.length = N2 at *
    generalize m.gls.length = N3 at *
    generalize m.exs.length = N4 at *
    generalize m.dat.length = N5 at *
    go_enter Tryz.func29, Tryz.ntmps29
    go_wp2_with fail
    go_ret
    exact ⟨w.heap.size + 4, w.heap.size + 3, 1, rfl, hB.out, bb.out⟩
end Go.Proofs.YtdaffcbamnpjfaaGreatDoor.SBegin
