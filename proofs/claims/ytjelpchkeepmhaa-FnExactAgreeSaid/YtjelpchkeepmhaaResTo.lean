/-
  Results are copied and compared.
-/
import Derived.Test.YtjelpchkeepmhaaResMem
namespace Go.Proofs.Ytjelpchkeepmhaa.ResTo
open Go.RowKit PlainNum NumCalls ByteMem NumMem2 ResMem

set_option maxRecDepth 20000 in
set_option maxHeartbeats 2000000 in
theorem toRes0 (w : World) (x0 x1 x2 x4 : Int) (p q : Option Addr) (n1 c n2 d : Nat) (Z1 Z2 : Nat → Int) (ho : RdN w p n1 Z1) (hg : RdN w q n2 Z2) (h1 : n1 ≤ 1048576) (h2 : n2 ≤ 1048576) :
    Calls Try.prog 6 #[.agg #[.int .i64 x0, .int .i64 x1, .int .i64 x2, .slice p n1 c, .int .i64 x4, .slice q n2 d]] w fun e w' => ∃ g1 g2 : Nat, e = .returned (.agg #[.int .i64 x0, .int .i64 x1, .int .i64 x2, .slice (some ⟨g1, 0, none⟩) n1 n1, .int .i64 x4, .slice (some ⟨g2, 0, none⟩) n2 n2]) ∧ RdN w' (some ⟨g1, 0, none⟩) n1 Z1 ∧ RdN w' (some ⟨g2, 0, none⟩) n2 Z2 ∧ Below w.heap.size w w' := by
  have T3 : Hid (TM w (((w.alloc (.cells #[.int .i64 x0, .int .i64 x1, .int .i64 x2, .slice p n1 c, .int .i64 x4, .slice q n2 d] 24)).alloc (.cells #[.int .i64 0, .int .i64 0, .int .i64 0, .slice none 0 0, .int .i64 0, .slice none 0 0] 27)).alloc (.cells #[.int .i64 x0, .int .i64 x1, .int .i64 x2, .slice none 0 0, .int .i64 0, .slice none 0 0] 27)) (.int .i64 x0) (.int .i64 x1) (.int .i64 x2) (.slice p n1 c) (.int .i64 x4) (.slice q n2 d) (.int .i64 x0) (.int .i64 x1) (.int .i64 x2) (.slice none 0 0) (.int .i64 0) (.slice none 0 0)) := ⟨by
    have := ((r6_made w (.int .i64 x0) (.int .i64 x1) (.int .i64 x2) (.slice p n1 c) (.int .i64 x4) (.slice q n2 d) 24).alloc (.cells #[.int .i64 0, .int .i64 0, .int .i64 0, .slice none 0 0, .int .i64 0, .slice none 0 0] 27)).alloc (.cells #[.int .i64 x0, .int .i64 x1, .int .i64 x2, .slice none 0 0, .int .i64 0, .slice none 0 0] 27)
    exact this, by
    have := (r6_made (w.alloc (.cells #[.int .i64 x0, .int .i64 x1, .int .i64 x2, .slice p n1 c, .int .i64 x4, .slice q n2 d] 24)) (.int .i64 0) (.int .i64 0) (.int .i64 0) (.slice none 0 0) (.int .i64 0) (.slice none 0 0) 27).alloc (.cells #[.int .i64 x0, .int .i64 x1, .int .i64 x2, .slice none 0 0, .int .i64 0, .slice none 0 0] 27)
    simp only [World.size_alloc] at this
    exact this, by
    have := r6_made ((w.alloc (.cells #[.int .i64 x0, .int .i64 x1, .int .i64 x2, .slice p n1 c, .int .i64 x4, .slice q n2 d] 24)).alloc (.cells #[.int .i64 0, .int .i64 0, .int .i64 0, .slice none 0 0, .int .i64 0, .slice none 0 0] 27)) (.int .i64 x0) (.int .i64 x1) (.int .i64 x2) (.slice none 0 0) (.int .i64 0) (.slice none 0 0) 27
    simp only [World.size_alloc] at this
    exact this, (((Below.refl _ _).alloc (Nat.le_refl _) _).alloc (by simp) _).alloc (by simp; omega) _⟩
  have k1 : Hid (∀ u, Below w.heap.size w u → _) := fun u hu => toIntS u p n1 c _ (ho.later hu) h1
  have k2 : Hid (∀ u, Below w.heap.size w u → _) := fun u hu => toIntS u q n2 d _ (hg.later hu) h2
  clear ho hg h1 h2
  go_enter Try.func6, Try.ntmps6
  go_wp2_with (go_at_call 12; refine (k1.out _ T3.out.bl).mono ?_; rintro e w1 ⟨g1, rfl, hg1, hr1, q1⟩; have T4 : Hid _ := T3.out.call q1; clear k1; obtain ⟨_, _, _, _, _, _⟩ := r6 T4.out.ro; have fz1 := T4.out.ro.frozen 3; obtain ⟨_, _, _, _, _, _⟩ := r6 (T4.out.set3 (.slice (some ⟨g1, 0, none⟩) n1 n1)).ra; obtain ⟨_, _, _, _, _, _⟩ := r6 (T4.out.set3 (.slice (some ⟨g1, 0, none⟩) n1 n1)).ro; have fz2 := (T4.out.set3 (.slice (some ⟨g1, 0, none⟩) n1 n1)).ro.frozen 4; obtain ⟨_, _, _, _, _, _⟩ := r6 ((T4.out.set3 (.slice (some ⟨g1, 0, none⟩) n1 n1)).set4 (.int .i64 x4)).ra)
  go_wp2_with (go_at_call 12; refine (k2.out _ ((T4.out.set3 (.slice (some ⟨g1, 0, none⟩) n1 n1)).set4 (.int .i64 x4)).bl).mono ?_; rintro e w2 ⟨g2, rfl, hg2, hr2, q2⟩; have T5 : Hid _ := ((T4.out.set3 (.slice (some ⟨g1, 0, none⟩) n1 n1)).set4 (.int .i64 x4)).call q2; obtain ⟨_, _, _, _, _, _⟩ := r6 T5.out.ro; have fz1 := T5.out.ro.frozen 5; obtain ⟨_, _, _, _, _, _⟩ := r6 (T5.out.set5 (.slice (some ⟨g2, 0, none⟩) n2 n2)).ra; obtain ⟨_, _, _, _, _, _⟩ := r6 (T5.out.set5 (.slice (some ⟨g2, 0, none⟩) n2 n2)).ro; obtain ⟨_, _, _, _, _, _⟩ := r6 (T5.out.set5 (.slice (some ⟨g2, 0, none⟩) n2 n2)).rr; have zf0 := (T5.out.set5 (.slice (some ⟨g2, 0, none⟩) n2 n2)).rr.frozen 0; have zf1 := (T5.out.set5 (.slice (some ⟨g2, 0, none⟩) n2 n2)).rr.frozen 1; have zf2 := (T5.out.set5 (.slice (some ⟨g2, 0, none⟩) n2 n2)).rr.frozen 2; have zf3 := (T5.out.set5 (.slice (some ⟨g2, 0, none⟩) n2 n2)).rr.frozen 3; have zf4 := (T5.out.set5 (.slice (some ⟨g2, 0, none⟩) n2 n2)).rr.frozen 4; have zf5 := (T5.out.set5 (.slice (some ⟨g2, 0, none⟩) n2 n2)).rr.frozen 5)
  have T6 : Hid _ := T5.out.set5 (.slice (some ⟨g2, 0, none⟩) n2 n2)
  have RR : Hid _ := r6_set5 (r6_set4 (r6_set3 (r6_set2 (r6_set1 (r6_set0 (T6.out.rr) (.int .i64 x0)) (.int .i64 x1)) (.int .i64 x2)) (.slice (some ⟨g1, 0, none⟩) n1 n1)) (.int .i64 x4)) (.slice (some ⟨g2, 0, none⟩) n2 n2)
  obtain ⟨e0, e1, e2, e3, e4, e5⟩ := r6 RR.out
  have G1 : w.heap.size + 3 ≤ g1 := Nat.le_trans T3.out.size hg1
  have G2 : w.heap.size + 3 ≤ g2 := Nat.le_trans ((T4.out.set3 (.slice (some ⟨g1, 0, none⟩) n1 n1)).set4 (.int .i64 x4)).size hg2
  have B1 : w1.heap.size ≤ w2.heap.size := Nat.le_trans (by simp) q2.size
  refine bodyPost_ret ?_ rfl ⟨g1, g2, rfl, ?_, ?_, ?_⟩
  · simp [results, go_sem, e0, e1, e2, e3, e4, e5]
  · refine rd_row ?_
    have a := (hr1.setOther (a := ⟨w.heap.size + 1 + 1, 3, none⟩) (by simp; omega) (.slice (some ⟨g1, 0, none⟩) n1 n1)).setOther (a := ⟨w.heap.size + 1 + 1, 4, none⟩) (by simp; omega) (.int .i64 x4)
    have b := row_later a q2
    have c := b.setOther (a := ⟨w.heap.size + 1 + 1, 5, none⟩) (by simp; omega) (.slice (some ⟨g2, 0, none⟩) n2 n2)
    exact (((((c.setOther (a := ⟨w.heap.size + 1, 0, none⟩) (by simp; omega) _).setOther (a := ⟨w.heap.size + 1, 1, none⟩) (by simp; omega) _).setOther (a := ⟨w.heap.size + 1, 2, none⟩) (by simp; omega) _).setOther (a := ⟨w.heap.size + 1, 3, none⟩) (by simp; omega) _).setOther (a := ⟨w.heap.size + 1, 4, none⟩) (by simp; omega) _).setOther (a := ⟨w.heap.size + 1, 5, none⟩) (by simp; omega) _
  · refine rd_row ?_
    have c := hr2.setOther (a := ⟨w.heap.size + 1 + 1, 5, none⟩) (by simp; omega) (.slice (some ⟨g2, 0, none⟩) n2 n2)
    exact (((((c.setOther (a := ⟨w.heap.size + 1, 0, none⟩) (by simp; omega) _).setOther (a := ⟨w.heap.size + 1, 1, none⟩) (by simp; omega) _).setOther (a := ⟨w.heap.size + 1, 2, none⟩) (by simp; omega) _).setOther (a := ⟨w.heap.size + 1, 3, none⟩) (by simp; omega) _).setOther (a := ⟨w.heap.size + 1, 4, none⟩) (by simp; omega) _).setOther (a := ⟨w.heap.size + 1, 5, none⟩) (by simp; omega) _
  · exact ((((((T6.out.bl).setCell (p := ⟨w.heap.size + 1, 0, none⟩) (by simp) _).setCell (p := ⟨w.heap.size + 1, 1, none⟩) (by simp) _).setCell (p := ⟨w.heap.size + 1, 2, none⟩) (by simp) _).setCell (p := ⟨w.heap.size + 1, 3, none⟩) (by simp) _).setCell (p := ⟨w.heap.size + 1, 4, none⟩) (by simp) _).setCell (p := ⟨w.heap.size + 1, 5, none⟩) (by simp) _
theorem toResult (w : World) (r : Rs) (p q : Option Addr) (c d : Nat) (h : Rd w r p q) (h1 : r.outs.length ≤ 1048576) (h2 : r.gls.length ≤ 1048576) :
    Calls Try.prog 6 #[val r p q c d] w fun e w' => ∃ g1 g2 : Nat, e = .returned (val r (some ⟨g1, 0, none⟩) (some ⟨g2, 0, none⟩) r.outs.length r.gls.length) ∧ Rd w' r (some ⟨g1, 0, none⟩) (some ⟨g2, 0, none⟩) ∧ Below w.heap.size w w' :=
  (toRes0 w r.fin r.why r.num r.steps p q _ c _ d _ _ h.outs h.gls h1 h2).mono fun _ _ ⟨g1, g2, he, a, b, k⟩ => ⟨g1, g2, he, ⟨a, b⟩, k⟩
structure TE (w u : World) (t t' : TypeId) (x0 x1 x2 x3 x4 x5 y0 y1 y2 y3 y4 y5 : Value) : Prop where
  ra : u.rowIs w.heap.size t 6 (R6 x0 x1 x2 x3 x4 x5)
  rb : u.rowIs (w.heap.size + 1) t' 6 (R6 y0 y1 y2 y3 y4 y5)
  bl : Below w.heap.size w u
theorem TE.call {w u u' : World} {t t' : TypeId} {x0 x1 x2 x3 x4 x5 y0 y1 y2 y3 y4 y5 : Value} (h : TE w u t t' x0 x1 x2 x3 x4 x5 y0 y1 y2 y3 y4 y5) (q : Below u.heap.size u u') : TE w u' t t' x0 x1 x2 x3 x4 x5 y0 y1 y2 y3 y4 y5 :=
  ⟨row_later h.ra q, row_later h.rb q, h.bl.trans (q.mono h.bl.size)⟩
theorem TE.made (w : World) (t t' : TypeId) (x0 x1 x2 x3 x4 x5 y0 y1 y2 y3 y4 y5 : Value) : TE w ((w.alloc (.cells #[x0, x1, x2, x3, x4, x5] t)).alloc (.cells #[y0, y1, y2, y3, y4, y5] t')) t t' x0 x1 x2 x3 x4 x5 y0 y1 y2 y3 y4 y5 :=
  ⟨by
    have := (r6_made w x0 x1 x2 x3 x4 x5 t).alloc (.cells #[y0, y1, y2, y3, y4, y5] t')
    exact this, by
    have := r6_made (w.alloc (.cells #[x0, x1, x2, x3, x4, x5] t)) y0 y1 y2 y3 y4 y5 t'
    simp only [World.size_alloc] at this
    exact this, ((Below.refl _ _).alloc (Nat.le_refl _) _).alloc (by simp) _⟩
set_option maxRecDepth 20000 in
set_option maxHeartbeats 2000000 in
theorem eqRes0 (w : World) (x0 x1 x2 x4 : Int) (p q p' q' : Option Addr) (n1 c c' n2 d d' : Nat) (Z1 Z2 : Nat → Int) (ho : RdN w p n1 Z1) (hg : RdN w q n2 Z2) (ho' : RdN w p' n1 Z1) (hg' : RdN w q' n2 Z2) (h1 : n1 ≤ 1048576) (h2 : n2 ≤ 1048576) :
    Calls Try.prog 8 #[.agg #[.int .i64 x0, .int .i64 x1, .int .i64 x2, .slice p n1 c, .int .i64 x4, .slice q n2 d], .agg #[.int .i64 x0, .int .i64 x1, .int .i64 x2, .slice p' n1 c', .int .i64 x4, .slice q' n2 d']] w fun e w' => e = .returned (.bool true) ∧ Below w.heap.size w w' := by
  have T0 : Hid _ := TE.made w 27 27 (.int .i64 x0) (.int .i64 x1) (.int .i64 x2) (.slice p n1 c) (.int .i64 x4) (.slice q n2 d) (.int .i64 x0) (.int .i64 x1) (.int .i64 x2) (.slice p' n1 c') (.int .i64 x4) (.slice q' n2 d')
  have k1 : Hid (∀ u, Below w.heap.size w u → _) := fun u hu => eqIntS u p p' n1 c c' _ (ho.later hu) (ho'.later hu) (by omega)
  have k2 : Hid (∀ u, Below w.heap.size w u → _) := fun u hu => eqIntS u q q' n2 d d' _ (hg.later hu) (hg'.later hu) (by omega)
  clear ho hg ho' hg' h1 h2
  go_enter Try.func8, Try.ntmps8
  go_wp2_with (go_at_call 15; refine (k1.out _ T0.out.bl).mono ?_; rintro e w1 ⟨rfl, m, rfl⟩; have T1 : Hid _ := T0.out.call (below_dn _ m); clear k1; obtain ⟨_, _, _, _, _, _⟩ := r6 T1.out.ra; obtain ⟨_, _, _, _, _, _⟩ := r6 T1.out.rb)
  go_wp2_with (go_at_call 15; refine (k2.out _ T1.out.bl).mono ?_; rintro e w1 ⟨rfl, m', rfl⟩; have T2 : Hid _ := T1.out.call (below_dn _ m'); clear k2)
  go_ret
  exact ⟨rfl, T0.out.bl.trans ((below_dn _ (m + m')).mono T0.out.bl.size)⟩
theorem eqResult (w : World) (r : Rs) (p q p' q' : Option Addr) (c d c' d' : Nat) (h : Rd w r p q) (h' : Rd w r p' q') (h1 : r.outs.length ≤ 1048576) (h2 : r.gls.length ≤ 1048576) :
    Calls Try.prog 8 #[val r p q c d, val r p' q' c' d'] w fun e w' => e = .returned (.bool true) ∧ Below w.heap.size w w' :=
  eqRes0 w r.fin r.why r.num r.steps p q p' q' _ c c' _ d d' _ _ h.outs h.gls h'.outs h'.gls h1 h2
end Go.Proofs.Ytjelpchkeepmhaa.ResTo
