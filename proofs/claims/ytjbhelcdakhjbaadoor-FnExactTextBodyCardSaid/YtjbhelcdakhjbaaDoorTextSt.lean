/-
  What the program's TextBody holds between two rounds.
-/
import Derived.Test.YtjbhelcdakhjbaaDoorTextWalk
namespace Go.Proofs.YtjbhelcdakhjbaaDoor.TextSt
open Go.RowKit Go.Shelf PlainOps NameCalls InsCalls PlainShape PlainRead PlainCut SpecTextB OwnIns TextIns RangeBox SplitSeq

/-- The result's box, the answer's, the list's; the iterator's three boxes lie behind. -/
structure St (b : Nat) (w W : World) (v : Value) (l : List I3) : Prop where
  hv : Boxed W (b + 2) 22 v
  ho : OwnI (b + 6) W v l
  h0 : Boxed W b 22 (.slice none 0 0)
  h1 : Boxed W (b + 1) 4 (.bool false)
  sz : b + 6 ≤ W.heap.size
  bel : Below b w W
/-- What a round keeps. -/
structure Kept (D b : Nat) (W W' : World) : Prop where
  fr : KeepsFrom D W W'
  bx : Keep3 (b + 3) W W'
theorem Kept.trans {D b : Nat} {X Y Z : World} (h : Kept D b X Y) (k : Kept D b Y Z) : Kept D b X Z := ⟨h.fr.trans k.fr, h.bx.trans k.bx⟩
theorem kept_call {D b : Nat} {W W' : World} (hs : b + 6 ≤ W.heap.size) (q : Below W.heap.size W W') : Kept D b W W' :=
  ⟨⟨q.size, fun k o _ hk _ => (q.block k (Array.getElem?_eq_some_iff.1 hk).1).trans hk⟩, q.size, fun k _ h2 => q.block k (by omega)⟩
theorem kept_set {D b : Nat} (W : World) (c : Nat) (v : Value) (hc : c < b + 3) : Kept D b W (W.setCell ⟨c, 0, none⟩ v) :=
  ⟨(KeepsOthers.setCell _ _ _).from _, by rw [World.size_setCell]; exact Nat.le_refl _, fun k h1 _ => Below.heap_setCell _ _ _ _ (by show k ≠ c; omega)⟩
theorem boxed_below {W W' : World} {c : Nat} {t : TypeId} {v : Value} (h : Boxed W c t v) (q : Below W.heap.size W W') : Boxed W' c t v := (q.block _ h.lt).trans h
theorem St.call {b : Nat} {w W W' : World} {v : Value} {l : List I3} (h : St b w W v l) (q : Below W.heap.size W W') : St b w W' v l :=
  ⟨boxed_below h.hv q, SpecTextC.ownI_below h.ho q, boxed_below h.h0 q, boxed_below h.h1 q, Nat.le_trans h.sz q.size, h.bel.trans (q.mono (by have := h.sz; omega))⟩
theorem St.alloc {b : Nat} {w W : World} {v : Value} {l : List I3} (h : St b w W v l) (o : Obj) : St b w (W.alloc o) v l := h.call ((Below.refl _ _).alloc (Nat.le_refl _) _)
theorem own_row {B : Nat} {W : World} {v : Value} {l : List I3} (h : OwnI B W v l) : ∀ j, v.ownBlock = some j → B ≤ j ∧ ∃ c : Array Value, W.heap[j]? = some (.cells c 32 (0, 0)) := by
  intro j e
  rcases h.2 with ⟨h0, _⟩ | ⟨g, cap, cur, hv, hg, hh, _⟩
  · rw [h0] at e; simp [Value.ownBlock] at e
  · rw [hv] at e
    simp [Value.ownBlock] at e
    subst e
    exact ⟨hg, cur, hh⟩
theorem own_keep {B : Nat} {W W' : World} {v : Value} {l : List I3} (h : OwnI B W v l) (hk : ∀ j, v.ownBlock = some j → W'.heap[j]? = W.heap[j]?) : OwnI B W' v l := by
  refine ⟨h.1, ?_⟩
  rcases h.2 with h0 | ⟨g, cap, cur, hv, hg, hh, r⟩
  · exact .inl h0
  · exact .inr ⟨g, cap, cur, hv, hg, (hk g (by rw [hv]; simp [Value.ownBlock])).trans hh, r⟩
theorem St.own {b D : Nat} {w W W' : World} {row : Option Nat} {v : Value} {l : List I3} (h : St b w W v l) (hD : b ≤ D) (hg : W.grownBy W' row) (hr : ∀ r, row = some r → D ≤ r ∧ ∃ o : Obj, W.heap[r]? = some o ∧ o.isCells = false) : St b w W' v l := by
  have kc : ∀ {k : Nat} {o : Obj}, W.heap[k]? = some o → o.isCells = true → W'.heap[k]? = W.heap[k]? := fun hk hc => grownBy_keeps_cells hg (fun r e => (hr r e).2) hk hc
  refine ⟨(kc h.hv rfl).trans h.hv, own_keep h.ho (fun j e => ?_), (kc h.h0 rfl).trans h.h0, (kc h.h1 rfl).trans h.h1, Nat.le_trans h.sz hg.size, h.bel.grown hg (by have := h.sz; omega) (fun k e => by have := (hr k e).1; omega)⟩
  obtain ⟨_, c, hc⟩ := own_row h.ho j e
  exact kc hc rfl
theorem St.box {b : Nat} {w W : World} {v : Value} {l : List I3} (h : St b w W v l) (x : Value) : St b w (W.setCell ⟨b + 3, 0, none⟩ x) v l :=
  ⟨box_other h.hv (by omega), own_keep h.ho (fun j e => Below.heap_setCell _ _ _ _ (by have := (own_row h.ho j e).1; show j ≠ b + 3; omega)), box_other h.h0 (by omega), box_other h.h1 (by omega), by rw [World.size_setCell]; exact h.sz, h.bel.setCell (p := ⟨b + 3, 0, none⟩) (by show b ≤ b + 3; omega) _⟩
theorem St.grown {b : Nat} {w W W' : World} {v v' : Value} {l l' : List I3} (h : St b w W v l) (hg : W.grownBy W' v.ownBlock) (ho : OwnI (b + 6) W' v' l') :
    Boxed W' (b + 2) 22 v ∧ St b w (W'.setCell ⟨b + 2, 0, none⟩ v') v' l' ∧ ∀ D, Kept D b W (W'.setCell ⟨b + 2, 0, none⟩ v') := by
  have hne : ∀ j, v.ownBlock = some j → b + 6 ≤ j := fun j e => (own_row h.ho j e).1
  have hv' : Boxed W' (b + 2) 22 v := h.hv.kept hg (fun e => by have := hne _ e.symm; omega)
  have g0 : Boxed W' b 22 (.slice none 0 0) := h.h0.kept hg (fun e => by have := hne _ e.symm; omega)
  have g1 : Boxed W' (b + 1) 4 (.bool false) := h.h1.kept hg (fun e => by have := hne _ e.symm; omega)
  have hb' : Below b w W' := h.bel.grown hg (by have := h.sz; omega) (fun k e => by have := hne k e; omega)
  have hsz := hg.size
  refine ⟨hv', ⟨hv'.set v', own_keep ho (fun j e => Below.heap_setCell _ _ _ _ (by have := (own_row ho j e).1; show j ≠ b + 2; omega)), box_other g0 (by omega), box_other g1 (by omega), by rw [World.size_setCell]; exact Nat.le_trans h.sz hsz, hb'.setCell (p := ⟨b + 2, 0, none⟩) (by show b ≤ b + 2; omega) _⟩, fun D => ?_⟩
  refine Kept.trans ⟨(KeepsOthers.of_grownBy hg (fun j o e hj => ?_)).from _, hsz, fun k h1 h2 => ?_⟩ (kept_set _ _ _ (by omega))
  · obtain ⟨_, c, hc⟩ := own_row h.ho j e
    rw [hc] at hj
    cases hj
    rfl
  · exact hg.block k (by have := h.sz; omega) (fun e => by have := hne _ e.symm; omega)
theorem six (w : World) (x0 x1 x2 x3 x4 x5 : Value) (t0 t1 t2 t3 t4 t5 : TypeId) (W : World) (hW : (((((w.alloc (.cells #[x0] t0)).alloc (.cells #[x1] t1)).alloc (.cells #[x2] t2)).alloc (.cells #[x3] t3)).alloc (.cells #[x4] t4)).alloc (.cells #[x5] t5) = W) :
    (Boxed W w.heap.size t0 x0 ∧ Boxed W (w.heap.size + 1) t1 x1 ∧ Boxed W (w.heap.size + 2) t2 x2 ∧ Boxed W (w.heap.size + 3) t3 x3 ∧ Boxed W (w.heap.size + 4) t4 x4 ∧ Boxed W (w.heap.size + 5) t5 x5) ∧ W.heap.size = w.heap.size + 6 ∧ Below w.heap.size w W := by
  subst hW
  have a0 := Boxed.new w t0 x0
  have a1 := Boxed.new (w.alloc (.cells #[x0] t0)) t1 x1
  have a2 := Boxed.new ((w.alloc (.cells #[x0] t0)).alloc (.cells #[x1] t1)) t2 x2
  have a3 := Boxed.new (((w.alloc (.cells #[x0] t0)).alloc (.cells #[x1] t1)).alloc (.cells #[x2] t2)) t3 x3
  have a4 := Boxed.new ((((w.alloc (.cells #[x0] t0)).alloc (.cells #[x1] t1)).alloc (.cells #[x2] t2)).alloc (.cells #[x3] t3)) t4 x4
  have a5 := Boxed.new (((((w.alloc (.cells #[x0] t0)).alloc (.cells #[x1] t1)).alloc (.cells #[x2] t2)).alloc (.cells #[x3] t3)).alloc (.cells #[x4] t4)) t5 x5
  simp only [World.size_alloc] at a1 a2 a3 a4 a5
  refine ⟨⟨((((a0.alloc _).alloc _).alloc _).alloc _).alloc _, (((a1.alloc _).alloc _).alloc _).alloc _, ((a2.alloc _).alloc _).alloc _, (a3.alloc _).alloc _, a4.alloc _, a5⟩, by simp only [World.size_alloc], ?_⟩
  refine ((((((Below.refl _ _).alloc ?_ _).alloc ?_ _).alloc ?_ _).alloc ?_ _).alloc ?_ _).alloc ?_ _ <;> first | exact Nat.le_refl _ | (simp only [World.size_alloc]; omega)
theorem wp_appI_in {F : Fence} {n : Nat} {ops : Array Oper} {rest : List Oper} {o : Oper} {a : Act} {Q : Exit → Act → World → Prop} {B : Nat} {w : World} {v : Value} {l : List I3} (hg : o.guard = none) (s x : Operand)
    (ho : o.op = .call { callee := .builtin .append, args := #[s, x], argTypes := #[22, 22] }) (D : OwnI B w v l) (hB : B ≤ w.heap.size) (i1 i2 i3 : Int) (hl : l.length ≤ 10000000) (hs : a.eval s = v) (t : TypeId) (g : Nat) (hgs : g = w.heap.size)
    (hx : a.eval x = .slice (some ⟨g, 0, none⟩) 1 1)
    (h : ∀ g' cap' N w', N = (l ++ [(i1, i2, i3)]).length → OwnI B w' (.slice (some ⟨g', 0, none⟩) N cap') (l ++ [(i1, i2, i3)]) → (w.alloc (.cells #[.int .i64 i1, .int .i64 i2, .int .i64 i3] t)).grownBy w' v.ownBlock → wpListIn F n Tryd.prog ops Q rest (a.put o.dst (.slice (some ⟨g', 0, none⟩) N cap')) w') :
    wpListIn F n Tryd.prog ops Q (o :: rest) a (w.alloc (.cells #[.int .i64 i1, .int .i64 i2, .int .i64 i3] t)) := by
  obtain ⟨i0, hi, hz0, hz1, hz2⟩ := infoParts
  subst hgs
  refine wpListIn_append_own _ hg s x 22 ho B 32 i0 _ 3 24 Tryd.underlying22 hi hz0 hz1 hz2 rfl (by decide) v l.length (cellsI l) hs (World.ownsRow.alloc D _) ⟨w.heap.size, 0, none⟩ 1 1 (cellsI [(i1, i2, i3)]) hx rfl (news1 w i1 i2 i3 t) ?_ (by unfold maxLen; omega) (by omega) (by simp; omega) ?_
  · intro u hu
    simp only [cellsI, List.flatMap_cons, List.flatMap_nil, List.append_nil, List.mem_cons, List.not_mem_nil, or_false] at hu
    rcases hu with rfl | rfl | rfl <;> rfl
  · intro v' w' ho' hgr _
    have hown : OwnI B w' v' (l ++ [(i1, i2, i3)]) := by
      unfold OwnI
      rw [List.length_append, cellsI_append]
      exact ho'
    rcases hown.2 with ⟨_, h0⟩ | ⟨g', cap', cur, hv, _⟩
    · simp at h0
    · subst hv
      exact h g' cap' _ w' rfl hown hgr
end Go.Proofs.YtjbhelcdakhjbaaDoor.TextSt
