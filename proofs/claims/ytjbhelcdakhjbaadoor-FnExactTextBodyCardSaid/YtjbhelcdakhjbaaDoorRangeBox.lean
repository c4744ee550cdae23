/-
  A range over an iterator that keeps a text of its own in a box and writes it between two rounds: what the iterator owes, and what the caller has of it. The rounds' records are the library's; the box is what its laws do not reach.
-/
import Derived.Test.YtjbhelcdakhjbaaDoorTextIns
import Derived.RangeFuncNested
import Derived.RangeFuncBound
import Derived.RangeFuncCalls
import Derived.RangeFuncLeaves
import Derived.RangeFuncBox
import Derived.Shelf.Abstract
import Derived.Shelf.RegionOpen
import Derived.WalkKit
import Derived.OwnWalkIn
import Derived.TacticsInMore
import Derived.LoopNIn
import Derived.LoopIn
import Derived.Maps.AppendAt
namespace Go.Proofs.YtjbhelcdakhjbaaDoor.RangeBox
open Go.RowKit Go.Shelf

/-- What the iterator owes. -/
def SeqBox {α : Type} (F : Fence) (n : Nat) (g : Nat) (lb : Array Value) (enc : α → Array Value) (Kp : World → World → Prop) (Bx : Nat) (S Sp : List α → Prop) (N : Nat) (w : World) : Prop :=
  ∀ (l : Nat) (J Jx : List α → World → Prop) (W : World), Kp w W → (∀ s W v, J s W → J s (W.setCell ⟨Bx, 0, none⟩ v)) →
    (∀ pre x W1, J pre W1 → pre.length < N → YieldAt F (n - 1) Tryd.prog l (enc x) W1 fun e W' =>
      (e = .returned (.bool true) ∧ J (pre ++ [x]) W' ∧ Kp W1 W') ∨ (e = .returned (.bool false) ∧ Jx (pre ++ [x]) W')) →
    J [] W → CallsIn F n Tryd.prog g (#[.func (.yield l) #[] #[]] ++ lb) W fun e W' => (∃ v, e = .returned v) ∧ ((∃ xs, S xs ∧ J xs W') ∨ (∃ pre, Sp pre ∧ Jx pre W'))
/-- How a round's body may end. -/
def boxPost {α : Type} (B : Nat) (Kp : World → World → Prop) (I Ix : List α → World → Prop) (xs : List α) (W : World) : Exit → Act → World → Prop
  | .normal, _, W' => KeepsFrom B W W' ∧ Kp W W' ∧ I xs W'
  | .ret, _, W' => KeepsFrom B W W' ∧ Ix xs W'
  | _, _, _ => False
/-- The two records that a range lays: the deferred calls' and its own. -/
def Recs (D : Nat) (r : Loop) (W : World) : Prop := W.heap[D]? = some (.deferred (some [])) ∧ W.heap[D + 1]? = some (.loop r)
theorem Recs.box {D Bx : Nat} {r : Loop} {W : World} (h : Recs D r W) (hB : Bx < D) (v : Value) : Recs D r (W.setCell ⟨Bx, 0, none⟩ v) :=
  ⟨(Below.heap_setCell _ _ _ _ (by show D ≠ Bx; omega)).trans h.1, (Below.heap_setCell _ _ _ _ (by show D + 1 ≠ Bx; omega)).trans h.2⟩
theorem Recs.put {D : Nat} {r r' : Loop} {W : World} (h : Recs D r W) : Recs D r' (W.putObj (D + 1) (.loop r')) :=
  ⟨(World.putObj_heap_other (by omega)).trans h.1, World.putObj_heap_same (Array.getElem?_eq_some_iff.1 h.2).1⟩
theorem Recs.keep {D : Nat} {r : Loop} {W W' : World} (h : Recs D r W) (q : KeepsFrom D W W') : Recs D r W' :=
  ⟨q.same _ _ (Nat.le_refl _) h.1 rfl, q.same _ _ (by omega) h.2 rfl⟩
theorem range_box {F : Fence} {n : Nat} {α : Type} {g : Operand} {ps : Array Tmp} {assign body : Code} {Q : Exit → Act → World → Prop} {a : Act} {w : World}
    (hro : F.round = none) (hn : 1 ≤ n) {gf : Nat} {lb : Array Value} (hg : a.eval g = .func (.func gf) #[] lb) (hF : F.fn gf) (he : ∀ args w, (callFunc gf args).run Tryd.prog w = .ok (.enter gf args) w)
    {enc : α → Array Value} {Kp : World → World → Prop} {Bx : Nat} {S Sp : List α → Prop} {N : Nat} (hq : SeqBox F (n - 1) gf lb enc Kp Bx S Sp N w) (hB : Bx < w.heap.size)
    (kt : ∀ {A B C : World}, Kp A B → Kp B C → Kp A C) (kp : ∀ (W : World) (l : Nat) (o : Obj), w.heap.size ≤ l → Kp W (W.putObj l o)) (ka : ∀ (W : World) (o : Obj), w.heap.size ≤ W.heap.size → Kp W (W.alloc o)) (hps : ∀ x, (enc x).size = ps.size)
    (I Ix : List α → World → Prop) (hI : OwnFrom w.heap.size I) (hIb : ∀ s W v, I s W → I s (W.setCell ⟨Bx, 0, none⟩ v)) (hIx : OwnFrom w.heap.size Ix) (h0 : I [] w) (a1 : α → Act)
    (hassign : ∀ (l : Nat) (x : α) (W : World) (K : Act → World → Prop), K (a1 x) W →
      assign.wpIn (F.inRound l) (n - 1 - 1) Tryd.prog (Exit.then K (fun _ _ _ => False)) { tmps := (ps.zip (enc x)).foldl (fun t (p, v) => t.setIfInBounds p v) a.tmps, defers := [] } W)
    (hbody : ∀ (l : Nat) (pre : List α) (x : α) (W : World), I pre W → pre.length < N → body.wpIn (F.inRound l) (n - 1 - 1) Tryd.prog (boxPost w.heap.size Kp I Ix (pre ++ [x]) W) (a1 x) W)
    (hdone : ∀ (D : Nat) (xs : List α) (W : World), w.heap.size ≤ D → S xs → I xs W → W.heap[D]? = some (.deferred (some [])) → Q .normal { a with defers := { target := .collected D, args := #[] } :: a.defers } W)
    (hstop : ∀ (D : Nat) (pre : List α) (W : World), w.heap.size ≤ D → Sp pre → Ix pre W → W.heap[D]? = some (.deferred (some [])) → Code.ret.wpIn F n Tryd.prog Q { a with defers := { target := .collected D, args := #[] } :: a.defers } W) :
    (Code.rangeFunc g ps assign body).wpIn F n Tryd.prog Q a w := by
  refine wpIn_rangeFunc fun fn hfn => ?_
  rw [hro]
  let R : LoopState → Option Code → Loop := fun st pe => { state := st, pending := pe, fn, tmps := a.tmps, params := ps, assign, body, defers := w.heap.size }
  obtain ⟨W1, e1⟩ : ∃ W1, (w.alloc (.deferred (some []))).alloc (.loop (R .ready none)) = W1 := ⟨_, rfl⟩
  have hrec : Recs w.heap.size (R .ready none) W1 := by
    subst e1
    refine ⟨(Below.heap_alloc _ _ _ (by simp)).trans (World.alloc_heap_new w _), ?_⟩
    have := World.alloc_heap_new (w.alloc (.deferred (some []))) (.loop (R .ready none))
    rwa [World.size_alloc] at this
  have hi1 : I [] W1 := by subst e1; exact hI.alloc _ (hI.alloc _ h0)
  have hk1 : Kp w W1 := by subst e1; exact kt (ka _ _ (Nat.le_refl _)) (ka _ _ (by simp))
  refine ⟨w.heap.size + 1, [{ target := .collected w.heap.size, args := #[] }], W1, { target := .fn (.func gf) lb, args := #[.func (.yield (w.heap.size + 1)) #[] #[]] }, W1, gf,
    #[.func (.yield (w.heap.size + 1)) #[] #[]] ++ lb, W1, by rw [← e1]; exact run_enterLoop_outer _ _ _ _ _, by simp only [resolve, hg]; simp [go_sem], ?_, by simp [invoke, go_sem, he], fun _ => hn, ?_⟩
  · intro f hf; simp [Target.leads] at hf; subst hf; exact hF
  refine (hq (w.heap.size + 1) (fun pre W => I pre W ∧ Recs w.heap.size (R .ready none) W) (fun pre W => Ix pre W ∧ Recs w.heap.size (R .done (some .ret)) W) W1 hk1
    (fun s W v h => ⟨hIb s W v h.1, h.2.box hB v⟩) ?_ ⟨hi1, hrec⟩).mono ?_
  · rintro pre x W ⟨hi, hr⟩ hlen
    have hb : Recs w.heap.size (R .busy none) (W.putObj (w.heap.size + 1) (.loop (R .busy none))) := hr.put
    refine ⟨fn, _, assign, body, run_yield (P := Tryd.prog) (args := enc x) hr.2 (hps x), roundIn_of_wpIn hfn (hassign _ x W _ ⟨_, run_beginRound hr.2 rfl, ?_⟩)⟩
    refine wpIn_mono (hbody _ pre x _ (hI.putObj _ hi (by omega) hr.2 rfl) hlen) ?_
    rintro e a3 W3 hp
    cases e with
    | normal =>
      obtain ⟨k3, q3, i3⟩ := hp
      have r3 := hb.keep k3
      exact ⟨_, _, run_endRound (P := Tryd.prog) none r3.2, .inl ⟨rfl, ⟨hI.putObj _ i3 (by omega) r3.2 rfl, r3.put⟩, kt (kt (kp _ _ _ (by omega)) q3) (kp _ _ _ (by omega))⟩⟩
    | ret =>
      obtain ⟨k3, i3⟩ := hp
      have r3 := hb.keep k3
      exact ⟨_, _, run_endRound (P := Tryd.prog) (some .ret) r3.2, .inr ⟨rfl, hIx.putObj _ i3 (by omega) r3.2 rfl, r3.put⟩⟩
    | exit _ => exact hp.elim
    | goto _ => exact hp.elim
    | panic _ => exact hp.elim
    | outgrown => exact hp.elim
  · rintro e W2 ⟨⟨v, rfl⟩, ⟨xs, hS, hi, hr⟩ | ⟨pre, hS, hi, hr⟩⟩
    · exact ⟨none, _, run_endLoop (P := Tryd.prog) hr.2 (by simp [R]), hdone _ xs _ (Nat.le_refl _) hS (hI.putObj _ hi (by omega) hr.2 rfl) ((World.putObj_heap_other (by omega)).trans hr.1)⟩
    · exact ⟨some .ret, _, run_endLoop (P := Tryd.prog) hr.2 (by simp [R]), hstop _ pre _ (Nat.le_refl _) hS (hIx.putObj _ hi (by omega) hr.2 rfl) ((World.putObj_heap_other (by omega)).trans hr.1)⟩
end Go.Proofs.YtjbhelcdakhjbaaDoor.RangeBox
