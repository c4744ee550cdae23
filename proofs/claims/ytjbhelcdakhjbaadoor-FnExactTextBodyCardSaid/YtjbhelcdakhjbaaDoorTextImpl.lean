/-
  What the program's TextBody answers when it is called.
-/
import Derived.Test.YtjbhelcdakhjbaaDoorTextSt
namespace Go.Proofs.YtjbhelcdakhjbaaDoor.TextImpl
open Go.RowKit Go.Shelf PlainOps NameCalls InsCalls PlainShape PlainRead PlainCut SpecTextB OwnIns TextIns TextWalk RangeBox SplitSeq TextSt
attribute [local go_sem] Oper.semAt_some

/-- What lies there when a round has left. -/
structure Fx (b : Nat) (w W : World) : Prop where
  h0 : Boxed W b 22 (.slice none 0 0)
  h1 : Boxed W (b + 1) 4 (.bool false)
  bel : Below b w W
theorem Fx.own {b D : Nat} {w W W' : World} {row : Option Nat} (h : Fx b w W) (hD : b ≤ D) (hb : b ≤ W.heap.size) (hg : W.grownBy W' row) (hr : ∀ r, row = some r → D ≤ r ∧ ∃ o : Obj, W.heap[r]? = some o ∧ o.isCells = false) : Fx b w W' :=
  ⟨(grownBy_keeps_cells hg (fun r e => (hr r e).2) h.h0 rfl).trans h.h0, (grownBy_keeps_cells hg (fun r e => (hr r e).2) h.h1 rfl).trans h.h1, h.bel.grown hg hb (fun k e => by have := (hr k e).1; omega)⟩
set_option maxRecDepth 100000 in
set_option maxHeartbeats 8000000 in
theorem impl_textBody (l : List UInt8) (hl : l.length ≤ 1048576) (hne : l ≠ []) (w : World) (hT : Tb w) :
    Calls Tryd.prog 5 #[.string (tx l)] w fun e w' => ∃ v, e = .returned (.tuple #[v, .bool (okB l)]) ∧ OwnI w.heap.size w' v (SpecTextC.ansL l) ∧ Below w.heap.size w w' := by
  have hn0 : ¬ tx l = ⟨#[]⟩ := fun e => hne (by have := congrArg (fun b : ByteArray => b.data.toList) e; simpa [tx] using this)
  obtain ⟨n1, n2⟩ := str_nil hn0
  have hT' : Hid (Tb w) := hT
  clear hT hn0
  refine (callsIn_wide (n := 8)).1 ?_
  refine callsIn_of_wp_marks Tryd.func5 rfl trivial ?_ rfl
  simp only [Tryd.ntmps5, List.size_toArray, List.length_cons, List.length_nil, Nat.reduceAdd, Nat.reduceSub, Array.replicate_succ, Array.replicate_zero, List.push_toArray, List.append_toArray, List.nil_append, List.cons_append]
  gi_wp2_with (refine ⟨trivial, ?_⟩; gi_at_call 13; refine (callsIn_wide.2 (split_seq (tx l) _)).mono ?_; rintro e w1 ⟨rfl, rfl⟩)
  obtain ⟨W0, hW⟩ : ∃ W0, (((((w.alloc (.cells #[.slice none 0 0] 22)).alloc (.cells #[.bool false] 4)).alloc (.cells #[.slice none 0 0] 22)).alloc (.cells #[.string (tx l)] 9)).alloc (.cells #[.string ⟨#[59]⟩] 9)).alloc (.cells #[.int .i64 0] 3) = W0 := ⟨_, rfl⟩
  rw [hW]
  obtain ⟨⟨b0, b1, b2, b3, b4, b5⟩, hz, hbel⟩ := six w _ _ _ _ _ _ _ _ _ _ _ _ W0 hW
  simp only [Nat.add_assoc, Nat.reduceAdd]
  clear hW
  have hb' : Hid (Boxed W0 (w.heap.size + 3) 9 (.string (tx l)) ∧ Boxed W0 (w.heap.size + 4) 9 (.string ⟨#[59]⟩) ∧ Boxed W0 (w.heap.size + 5) 3 (.int .i64 0)) := ⟨b3, b4, b5⟩
  have st0 : St w.heap.size w W0 (.slice none 0 0) [] := ⟨b2, OwnI.nil _ _, b0, b1, by omega, hbel⟩
  clear b0 b1 b2 b3 b4 b5 hbel n1 n2
  refine range_box rfl (by omega) (gf := 33) (lb := #[.pointer (some ⟨w.heap.size + 4, 0, none⟩), .pointer (some ⟨w.heap.size + 3, 0, none⟩), .pointer (some ⟨w.heap.size + 5, 0, none⟩)]) rfl trivial (enters_of Tryd.func33 (by kernel_rfl) rfl)
    (seq1 (8 - 1) (by omega) (w.heap.size + 3) l hl W0 hb'.out.1 hb'.out.2.1 hb'.out.2.2) (by omega) (fun h k => h.trans k)
    (fun W L o hL => ⟨Nat.le_of_eq (by simp), fun k _ h2 => World.putObj_heap_other (by omega)⟩) (fun W o hW => ⟨by simp, fun k _ h2 => Below.heap_alloc W o k (by omega)⟩) (fun _ => rfl)
    (fun pre W => ∃ v, St w.heap.size w W v (pre.map fun x => rdI x.1) ∧ ∀ x ∈ pre, okI x.1 = true)
    (fun pre W => (Fx w.heap.size w W ∧ w.heap.size ≤ W.heap.size) ∧ ∃ x ∈ pre, okI x.1 = false)
    (fun s A B row h hg hr => by obtain ⟨v, h1, h2⟩ := h; exact ⟨v, h1.own (by omega) hg hr, h2⟩)
    (fun s W v h => by obtain ⟨u, h1, h2⟩ := h; exact ⟨u, h1.box v, h2⟩)
    (fun s A B row h hg hr => ⟨⟨h.1.1.own (by omega) h.1.2 hg hr, Nat.le_trans h.1.2 hg.size⟩, h.2⟩)
    ⟨_, st0, fun x hx => by cases hx⟩
    (fun x => { tmps := #[.string (tx l), undef, .pointer (some ⟨w.heap.size, 0, none⟩), .pointer (some ⟨w.heap.size + 1, 0, none⟩), .pointer (some ⟨w.heap.size + 2, 0, none⟩), .string (tx x.1), undef, undef, .string (tx l), .bool false, .string (tx l), .func (.func 33) #[] #[.pointer (some ⟨w.heap.size + 4, 0, none⟩), .pointer (some ⟨w.heap.size + 3, 0, none⟩), .pointer (some ⟨w.heap.size + 5, 0, none⟩)], .string (tx x.1), undef, undef, undef, undef, undef, undef, undef, undef, undef, undef, undef, undef], defers := [] }) ?assign ?body ?done ?stop
  case assign =>
    intro L x W K hK
    gi_wp2
    exact hK
  case body =>
    rintro L pre x W ⟨v, st, hall⟩ hlt
    obtain ⟨a, cap, N, rfl, hN⟩ := st.ho.form
    have st' : Hid (St w.heap.size w W (.slice a N cap) (pre.map fun x => rdI x.1)) := st
    have hti : Hid _ := fun u => impl_textIns x.1 x.2 u
    have hlc := cut_count 59 l
    cases hO : okI x.1 with
    | false =>
      rw [hO] at hti
      gi_wp2_with (refine ⟨trivial, ?_⟩; gi_at_call 14; refine (CallsIn.inRound L (callsIn_wide.2 (hti.out W (hT'.out.later st'.out.bel)))).mono ?_; rintro e w1 ⟨⟨i0, i1, i2, rfl, _⟩, q1⟩; have st1 : Hid (St w.heap.size w w1 (.slice a N cap) (pre.map fun x => rdI x.1)) := st'.out.call q1; have kp1 : Hid (Kept W0.heap.size w.heap.size W w1) := kept_call st'.out.sz q1; have st2 : St w.heap.size w (w1.alloc (.cells #[.int .i64 i0, .int .i64 i1, .int .i64 i2] 32)) (.slice a N cap) (pre.map fun x => rdI x.1) := st1.out.alloc _; have c0 := st2.h0.cell; have f0 := st2.h0.frozen; have c1 := (box_other (x := .slice none 0 0) st2.h1 (show w.heap.size + 1 ≠ w.heap.size by omega)).cell; have f1 := (box_other (x := .slice none 0 0) st2.h1 (show w.heap.size + 1 ≠ w.heap.size by omega)).frozen)
      have kp2 : Kept W0.heap.size w.heap.size w1 (w1.alloc (.cells #[.int .i64 i0, .int .i64 i1, .int .i64 i2] 32)) := kept_call st1.out.sz ((Below.refl _ _).alloc (Nat.le_refl _) _)
      have kp3 := ((kp1.out.trans kp2).trans (kept_set _ w.heap.size (.slice none 0 0) (by omega))).trans (kept_set _ (w.heap.size + 1) (.bool false) (by omega))
      have sz2 := st2.sz
      exact ⟨kp3.fr, ⟨⟨box_other (st2.h0.set _) (by omega), (box_other st2.h1 (by omega)).set _, (st2.bel.setCell (p := ⟨w.heap.size, 0, none⟩) (Nat.le_refl _) _).setCell (p := ⟨w.heap.size + 1, 0, none⟩) (by show w.heap.size ≤ w.heap.size + 1; omega) _⟩, by rw [World.size_setCell, World.size_setCell]; omega⟩, x, by simp, hO⟩
    | true =>
      rw [hO] at hti
      have hlen : (pre.map fun x => rdI x.1).length ≤ 10000000 := by rw [List.length_map]; omega
      gi_wp2_with (first
        | (refine ⟨trivial, ?_⟩; gi_at_call 14; refine (CallsIn.inRound L (callsIn_wide.2 (hti.out W (hT'.out.later st'.out.bel)))).mono ?_; rintro e w1 ⟨⟨i0, i1, i2, rfl, hrd⟩, q1⟩; have hrd' : Hid ((i0, i1, i2) = rdI x.1) := hrd rfl; have st1 : Hid (St w.heap.size w w1 (.slice a N cap) (pre.map fun x => rdI x.1)) := st'.out.call q1; have kp1 : Hid (Kept W0.heap.size w.heap.size W w1) := kept_call st'.out.sz q1; have st2 : Hid (St w.heap.size w (w1.alloc (.cells #[.int .i64 i0, .int .i64 i1, .int .i64 i2] 32)) (.slice a N cap) (pre.map fun x => rdI x.1)) := st1.out.alloc _; have c2 := st2.out.hv.cell; have f2 := st2.out.hv.frozen; clear hrd q1 hti)
        | (gi_at_builtin; refine wp_appI_in rfl _ _ rfl st2.out.ho st2.out.sz i0 i1 i2 hlen rfl _ _ (by simp) rfl ?_; intro g9 c9 N9 w9 hN9 o9 q9; obtain ⟨hv9, st9, kp9⟩ := (st2.out.alloc _).grown q9 o9; have d9 := hv9.cell; have e9 := hv9.frozen; clear o9 q9 hN9))
      have kp2 : Kept W0.heap.size w.heap.size w1 (w1.alloc (.cells #[.int .i64 i0, .int .i64 i1, .int .i64 i2] 32)) := kept_call st1.out.sz ((Below.refl _ _).alloc (Nat.le_refl _) _)
      have kp3 := ((kp1.out.trans kp2).trans (kept_call st2.out.sz ((Below.refl _ _).alloc (Nat.le_refl _) _))).trans (kp9 W0.heap.size)
      rw [hrd'.out] at st9
      refine ⟨kp3.fr, kp3.bx, _, by rw [List.map_append]; exact st9, fun y hy => ?_⟩
      rcases List.mem_append.1 hy with h | h
      · exact hall y h
      · rw [List.mem_singleton.1 h]; exact hO
  case done =>
    rintro D xs W hD hS ⟨v, st, hall⟩ hK
    obtain ⟨a, cap, N, rfl, hN⟩ := st.ho.form
    have hok : okB l = true := by unfold okB; rw [← hS, List.all_eq_true]; intro t ht; obtain ⟨x, hx, rfl⟩ := List.mem_map.1 ht; exact hall x hx
    have hans : SpecTextC.ansL l = xs.map fun x => rdI x.1 := by unfold SpecTextC.ansL rdB; rw [if_pos hok, ← hS, List.map_map]; rfl
    have c2 := st.hv.cell
    have c0 := st.h0.cell
    have f0 := st.h0.frozen
    have bx1 := box_other (x := .slice a N cap) st.h1 (show w.heap.size + 1 ≠ w.heap.size by omega)
    have c1 := bx1.cell
    have f1 := bx1.frozen
    gi_wp2
    have hK' := ((KeepsOthers.setCell W ⟨w.heap.size, 0, none⟩ (.slice a N cap)).trans (KeepsOthers.setCell _ ⟨w.heap.size + 1, 0, none⟩ (.bool true))).same D _ hK rfl
    have z0 := (box_other (x := .bool true) (st.h0.set (.slice a N cap)) (show w.heap.size ≠ w.heap.size + 1 by omega)).cell
    have z1 := (bx1.set (.bool true)).cell
    have y0 := cell_kept z0 (grownBy_putObj' _ D (.deferred none)) (fun r e => by cases e; exact ⟨_, hK', rfl⟩)
    have y1 := cell_kept z1 (grownBy_putObj' _ D (.deferred none)) (fun r e => by cases e; exact ⟨_, hK', rfl⟩)
    refine ⟨by simp, .inl ⟨_, _, rfl, run_takeDeferred hK', ?_⟩⟩
    have hb1 : Below w.heap.size w ((W.setCell ⟨w.heap.size, 0, none⟩ (.slice a N cap)).setCell ⟨w.heap.size + 1, 0, none⟩ (.bool true)) := (st.bel.setCell (p := ⟨w.heap.size, 0, none⟩) (Nat.le_refl _) _).setCell (p := ⟨w.heap.size + 1, 0, none⟩) (by show w.heap.size ≤ w.heap.size + 1; omega) _
    have hb2 : Below w.heap.size w (((W.setCell ⟨w.heap.size, 0, none⟩ (.slice a N cap)).setCell ⟨w.heap.size + 1, 0, none⟩ (.bool true)).putObj D (.deferred none)) := hb1.trans (belowK_b (w := w) (Nat.le_refl _) _ D _ _ (by omega) hK' rfl rfl)
    have ho2 : OwnI (w.heap.size + 6) (((W.setCell ⟨w.heap.size, 0, none⟩ (.slice a N cap)).setCell ⟨w.heap.size + 1, 0, none⟩ (.bool true)).putObj D (.deferred none)) (.slice a N cap) (xs.map fun x => rdI x.1) := own_keep st.ho (fun j e => by
      obtain ⟨hj, c, hc⟩ := own_row st.ho j e
      rw [World.putObj_heap_other (fun e' => by rw [e', hK] at hc; cases hc), Below.heap_setCell _ _ _ _ (by show j ≠ w.heap.size + 1; omega), Below.heap_setCell _ _ _ _ (by show j ≠ w.heap.size; omega)])
    refine ⟨.tuple #[.slice a N cap, .bool true], ?_, .slice a N cap, by rw [hok], by rw [hans]; exact own_lower ho2 (by omega), hb2⟩
    generalize (((W.setCell ⟨w.heap.size, 0, none⟩ (.slice a N cap)).setCell ⟨w.heap.size + 1, 0, none⟩ (.bool true)).putObj D (.deferred none)) = u at *
    simp [results, go_sem, y0, y1]
  case stop =>
    rintro D pre W hD hS ⟨⟨fx, _⟩, x, hx, hxo⟩ hK
    have hok : okB l = false := by
      cases h : okB l with
      | false => rfl
      | true =>
        unfold okB at h
        rw [List.all_eq_true] at h
        have := h x.1 (hS.subset (List.mem_map.2 ⟨x, hx, rfl⟩))
        rw [hxo] at this
        cases this
    have hans : SpecTextC.ansL l = [] := by unfold SpecTextC.ansL; rw [hok]; exact if_neg (by decide)
    have y0 := cell_kept fx.h0.cell (grownBy_putObj' _ D (.deferred none)) (fun r e => by cases e; exact ⟨_, hK, rfl⟩)
    have y1 := cell_kept fx.h1.cell (grownBy_putObj' _ D (.deferred none)) (fun r e => by cases e; exact ⟨_, hK, rfl⟩)
    gi_wp2
    refine ⟨by simp, .inl ⟨_, _, rfl, run_takeDeferred hK, ?_⟩⟩
    have hb2 : Below w.heap.size w (W.putObj D (.deferred none)) := fx.bel.trans (belowK_b (w := w) (Nat.le_refl _) _ D _ _ (by omega) hK rfl rfl)
    refine ⟨.tuple #[.slice none 0 0, .bool false], ?_, .slice none 0 0, by rw [hok], by rw [hans]; exact OwnI.nil _ _, hb2⟩
    generalize W.putObj D (.deferred none) = u at *
    simp [results, go_sem, y0, y1]
end Go.Proofs.YtjbhelcdakhjbaaDoor.TextImpl
