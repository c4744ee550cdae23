/-
  A whole body, as the program goes through it. (Written by my validwalk.py.)
-/
import Derived.Test.YtajlkdidjelpeaaGreatDoorValidNext
namespace Go.Proofs.YtajlkdidjelpeaaGreatDoor.ValidWalk
open Go.RowKit PlainOps NameCalls PlainNum NumCalls InsCalls InsImpl PlainShape InsMem PlainAll ShapeCalls FormCalls ModMem FormImpl PlainValid ValidCtx ValidMod Piles Walks Walks2 Walks3 Walks4 ValidIns ValidEff ValidStep ValidNext

/-- A body and what it stands in: what the walk wants. -/
structure Bod (w : World) (p : P) (m : M) (s x : Int) (a : Option Addr) (l : List I3) : Prop where
  rd : Rd w p m
  f : Facts m
  h0 : 0 ≤ s
  h1 : s < m.sigs.length
  hx : 0 ≤ x ∧ x ≤ 60
  rl : RdI w a l
  bo : boOk l = true
theorem Bod.later {w u : World} {p : P} {m : M} {s x : Int} {a : Option Addr} {l : List I3} (h : Bod w p m s x a l) (hb : Below w.heap.size w u) : Bod u p m s x a l := ⟨h.rd.later hb, h.f, h.h0, h.h1, h.hx, h.rl.later hb, h.bo⟩
theorem Bod.len {w : World} {p : P} {m : M} {s x : Int} {a : Option Addr} {l : List I3} (h : Bod w p m s x a l) : l.length ≤ 1500 := by
  have := h.bo
  unfold boOk at this
  simp only [Bool.and_eq_true] at this
  exact of_decide_eq_true this.1
theorem Bod.ins {w : World} {p : P} {m : M} {s x : Int} {a : Option Addr} {l : List I3} (h : Bod w p m s x a l) (k : Nat) (hk : k < l.length) : InsF (oAt l k) (aAt l k) := by
  have := h.bo
  unfold boOk at this
  simp only [Bool.and_eq_true] at this
  exact insF (allF_at _ 0 this.2.1 k (by omega) (by omega))
theorem Bod.shape {w : World} {p : P} {m : M} {s x : Int} {a : Option Addr} {l : List I3} (h : Bod w p m s x a l) : shpF l l.length 0 [] = true := by
  have := h.bo
  unfold boOk at this
  simp only [Bool.and_eq_true] at this
  exact this.2.2
theorem bw_new (w : World) (p : P) (m : M) (s x : Int) (a : Option Addr) (l : List I3) (cb : Nat) : BW (((w.alloc (.cells #[.slice p.a0 m.sigs.length p.c0, .slice p.a1 m.imps.length p.c1, .slice p.a2 m.fns.length p.c2, .int .i64 m.pages, .int .i64 m.most, .slice p.a3 m.gls.length p.c3, .slice p.a4 m.exs.length p.c4, .slice p.a5 m.dat.length p.c5] 39)).alloc (.cells #[.int .i64 s, .int .i64 x, .slice a l.length cb] 60)).alloc (.cells #[.slice p.a0 m.sigs.length p.c0, .slice p.a1 m.imps.length p.c1, .slice p.a2 m.fns.length p.c2, .int .i64 m.pages, .int .i64 m.most, .slice p.a3 m.gls.length p.c3, .slice p.a4 m.exs.length p.c4, .slice p.a5 m.dat.length p.c5, .int .i64 s, .int .i64 x, .slice a l.length cb, .int .i64 0, .slice none 0 0] 168)) (w.heap.size + 2) (fF p m s x a l.length cb) 0 (.slice none 0 0) [] := by
  have r := World.rowIs_alloc ((w.alloc (.cells #[.slice p.a0 m.sigs.length p.c0, .slice p.a1 m.imps.length p.c1, .slice p.a2 m.fns.length p.c2, .int .i64 m.pages, .int .i64 m.most, .slice p.a3 m.gls.length p.c3, .slice p.a4 m.exs.length p.c4, .slice p.a5 m.dat.length p.c5] 39)).alloc (.cells #[.int .i64 s, .int .i64 x, .slice a l.length cb] 60)) #[.slice p.a0 m.sigs.length p.c0, .slice p.a1 m.imps.length p.c1, .slice p.a2 m.fns.length p.c2, .int .i64 m.pages, .int .i64 m.most, .slice p.a3 m.gls.length p.c3, .slice p.a4 m.exs.length p.c4, .slice p.a5 m.dat.length p.c5, .int .i64 s, .int .i64 x, .slice a l.length cb, .int .i64 0, .slice none 0 0] 168 (bwC (fF p m s x a l.length cb) 0 (.slice none 0 0)) (fun i hi => by
    match i, hi with
    | 0, _ => rfl
    | 1, _ => rfl
    | 2, _ => rfl
    | 3, _ => rfl
    | 4, _ => rfl
    | 5, _ => rfl
    | 6, _ => rfl
    | 7, _ => rfl
    | 8, _ => rfl
    | 9, _ => rfl
    | 10, _ => rfl
    | 11, _ => rfl
    | 12, _ => rfl)
  simp only [World.size_alloc] at r
  exact ⟨r, World.ownsRow_nil _ _ _ _⟩
set_option maxRecDepth 20000 in
set_option maxHeartbeats 8000000 in
theorem begin' (p : P) (m : M) (s x : Int) (a : Option Addr) (l : List I3) (cb : Nat) (w : World) (h : Bod w p m s x a l) :
    Calls Tryz.prog 78 #[.agg #[.slice p.a0 m.sigs.length p.c0, .slice p.a1 m.imps.length p.c1, .slice p.a2 m.fns.length p.c2, .int .i64 m.pages, .int .i64 m.most, .slice p.a3 m.gls.length p.c3, .slice p.a4 m.exs.length p.c4, .slice p.a5 m.dat.length p.c5], .agg #[.int .i64 s, .int .i64 x, .slice a l.length cb]] w fun e w' => ∃ q g cap, e = .returned (.pointer (some ⟨q, 0, none⟩)) ∧ BW w' q (fF p m s x a l.length cb) 0 (.slice (some ⟨g, 0, none⟩) 1 cap) [⟨2, (ctxOf m s x).own, 0, false⟩] ∧ w.heap.size ≤ q ∧ Below w.heap.size w w' := by
  have hB : Hid (BW (((w.alloc (.cells #[.slice p.a0 m.sigs.length p.c0, .slice p.a1 m.imps.length p.c1, .slice p.a2 m.fns.length p.c2, .int .i64 m.pages, .int .i64 m.most, .slice p.a3 m.gls.length p.c3, .slice p.a4 m.exs.length p.c4, .slice p.a5 m.dat.length p.c5] 39)).alloc (.cells #[.int .i64 s, .int .i64 x, .slice a l.length cb] 60)).alloc (.cells #[.slice p.a0 m.sigs.length p.c0, .slice p.a1 m.imps.length p.c1, .slice p.a2 m.fns.length p.c2, .int .i64 m.pages, .int .i64 m.most, .slice p.a3 m.gls.length p.c3, .slice p.a4 m.exs.length p.c4, .slice p.a5 m.dat.length p.c5, .int .i64 s, .int .i64 x, .slice a l.length cb, .int .i64 0, .slice none 0 0] 168)) (w.heap.size + 2) (fF p m s x a l.length cb) 0 (.slice none 0 0) []) := bw_new w p m s x a l cb
  have bb : Hid (Below w.heap.size w (((w.alloc (.cells #[.slice p.a0 m.sigs.length p.c0, .slice p.a1 m.imps.length p.c1, .slice p.a2 m.fns.length p.c2, .int .i64 m.pages, .int .i64 m.most, .slice p.a3 m.gls.length p.c3, .slice p.a4 m.exs.length p.c4, .slice p.a5 m.dat.length p.c5] 39)).alloc (.cells #[.int .i64 s, .int .i64 x, .slice a l.length cb] 60)).alloc (.cells #[.slice p.a0 m.sigs.length p.c0, .slice p.a1 m.imps.length p.c1, .slice p.a2 m.fns.length p.c2, .int .i64 m.pages, .int .i64 m.most, .slice p.a3 m.gls.length p.c3, .slice p.a4 m.exs.length p.c4, .slice p.a5 m.dat.length p.c5, .int .i64 s, .int .i64 x, .slice a l.length cb, .int .i64 0, .slice none 0 0] 168))) := (((Below.refl _ _).alloc (Nat.le_refl _) _).alloc (by simp) _).alloc (by simp; omega) _
  have kO : Hid (∀ u : World, BW u (w.heap.size + 2) (fF p m s x a l.length cb) 0 (.slice none 0 0) [] → Below w.heap.size w u → Calls Tryz.prog 116 #[.pointer (some ⟨w.heap.size + 2, 0, none⟩)] u fun e w' => e = .returned (.agg #[.int .i64 (MemSig.f0At m.sigs s.toNat), .int .i64 (MemSig.f1At m.sigs s.toNat)]) ∧ Below u.heap.size u w') := fun u bu hu => ValidIns.own _ u p m s x a l.length cb 0 _ [] bu (h.rd.later hu) h.h0 h.h1
  have kU : Hid (∀ u : World, BW u (w.heap.size + 2) (fF p m s x a l.length cb) 0 (.slice none 0 0) [] → Calls Tryz.prog 115 #[.pointer (some ⟨w.heap.size + 2, 0, none⟩), .int .i64 2, .int .i64 (MemSig.f1At m.sigs s.toNat)] u fun e w' => e = .returned (.tuple #[]) ∧ ∃ g cap, BW w' (w.heap.size + 2) (fF p m s x a l.length cb) 0 (.slice (some ⟨g, 0, none⟩) 1 cap) [⟨2, (ctxOf m s x).own, 0, false⟩] ∧ Kp (w.heap.size + 2) u w' (.slice none 0 0) (.slice (some ⟨g, 0, none⟩) 1 cap)) := fun u bu => openUp _ u (fF p m s x a l.length cb) 0 _ [] 2 (MemSig.f1At m.sigs s.toNat) bu (by simp)
  have hrf := run_sig1
  clear h
  generalize (ctxOf m s x).own = co at *
  generalize MemSig.f0At m.sigs s.toNat = X0 at *
  generalize MemSig.f1At m.sigs s.toNat = X1 at *
  generalize (fF p m s x a l.length cb) = FF at *
  generalize l.length = NB at *
  generalize m.sigs.length = N0 at *
  generalize m.imps.length = N1 at *
  generalize m.fns.length = N2 at *
  generalize m.gls.length = N3 at *
  generalize m.exs.length = N4 at *
  generalize m.dat.length = N5 at *
  go_enter Tryz.func78, Tryz.ntmps78
  go_wp2_with (first | (go_at_call 116; refine (kO.out _ hB.out bb.out).mono ?_; rintro e w1 ⟨rfl, q1⟩) | (go_at_call 115; refine (kU.out _ (hB.out.later q1)).mono ?_; rintro e w2 ⟨rfl, g2, cap2, b2, k2⟩; have b2' : Hid (BW w2 (w.heap.size + 2) FF 0 (.slice (some ⟨g2, 0, none⟩) 1 cap2) [⟨2, co, 0, false⟩]) := b2; have k2' : Hid (Kp (w.heap.size + 2) w1 w2 (.slice none 0 0) (.slice (some ⟨g2, 0, none⟩) 1 cap2)) := k2; clear b2 k2))
  go_ret
  refine ⟨w.heap.size + 2, g2, cap2, rfl, b2'.out, by omega, ?_⟩
  have x1 := bb.out.trans (q1.mono bb.out.size)
  exact x1.trans ⟨k2'.out.os, k2'.out.tape, k2'.out.output, k2'.out.size, fun k hk => k2'.out.block k (Nat.lt_of_lt_of_le hk x1.size) (by omega) (by simp [Value.ownBlock])⟩
end Go.Proofs.YtajlkdidjelpeaaGreatDoor.ValidWalk
