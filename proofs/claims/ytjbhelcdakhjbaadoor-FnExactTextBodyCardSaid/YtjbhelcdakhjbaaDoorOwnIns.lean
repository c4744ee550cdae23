/-
  Lists of instructions in memory of one's own.
-/
import Derived.Test.YtjbhelcdakhjbaaDoorInsMem
import Derived.Maps.AppendAt
import Derived.OwnWalk
namespace Go.Proofs.YtjbhelcdakhjbaaDoor.OwnIns
open Go.RowKit PlainShape InsMem

def cellsI (l : List I3) : List Value := l.flatMap fun x => [.int .i64 x.1, .int .i64 x.2.1, .int .i64 x.2.2]
theorem cellsI_len : ∀ l : List I3, (cellsI l).length = l.length * 3
  | [] => rfl
  | x :: l => by
    have := cellsI_len l
    simp only [cellsI, List.flatMap_cons, List.length_append, List.length_cons, List.length_nil] at this ⊢
    omega
theorem cellsI_append (a b : List I3) : cellsI (a ++ b) = cellsI a ++ cellsI b := List.flatMap_append
/-- A list of instructions in new memory, of block B on. -/
def OwnI (B : Nat) (w : World) (v : Value) (l : List I3) : Prop := w.ownsRow B 32 3 v l.length (cellsI l)
theorem infoParts : ∃ i, Tryd.prog.info? 32 = some i ∧ i.zero = some (.agg #[.int .i64 0, .int .i64 0, .int .i64 0]) ∧ i.size = 3 ∧ i.bytes = 24 := info_parts infoI
theorem news1 (w : World) (o a b : Int) (t : TypeId) : ∀ j u, (cellsI [(o, a, b)])[j]? = some u → (w.alloc (.cells #[.int .i64 o, .int .i64 a, .int .i64 b] t)).cell? ((⟨w.heap.size, 0, none⟩ : Addr).add j) = some u := by
  intro j u hj
  match j, hj with
  | 0, hj => simp [cellsI] at hj; subst hj; simp [Addr.add]
  | 1, hj => simp [cellsI] at hj; subst hj; simp [Addr.add]
  | 2, hj => simp [cellsI] at hj; subst hj; simp [Addr.add]
/-- An instruction is appended. -/
theorem wp_appI {ops : Array Oper} {rest : List Oper} {o : Oper} {a : Act} {Q : Exit → Act → World → Prop} {B : Nat} {w : World} {v : Value} {l : List I3} (hg : o.guard = none) (s x : Operand)
    (ho : o.op = .call { callee := .builtin .append, args := #[s, x], argTypes := #[22, 22] }) (D : OwnI B w v l) (hB : B ≤ w.heap.size) (i1 i2 i3 : Int) (hl : l.length ≤ 10000000) (hs : a.eval s = v) (t : TypeId) (g : Nat) (hgs : g = w.heap.size)
    (hx : a.eval x = .slice (some ⟨g, 0, none⟩) 1 1)
    (h : ∀ g' cap' N w', N = (l ++ [(i1, i2, i3)]).length → OwnI B w' (.slice (some ⟨g', 0, none⟩) N cap') (l ++ [(i1, i2, i3)]) → (w.alloc (.cells #[.int .i64 i1, .int .i64 i2, .int .i64 i3] t)).grownBy w' v.ownBlock → wpList Tryd.prog ops Q rest (a.put o.dst (.slice (some ⟨g', 0, none⟩) N cap')) w') :
    wpList Tryd.prog ops Q (o :: rest) a (w.alloc (.cells #[.int .i64 i1, .int .i64 i2, .int .i64 i3] t)) := by
  obtain ⟨i0, hi, hz0, hz1, hz2⟩ := infoParts
  subst hgs
  refine wpList_append_own _ hg s x 22 ho B 32 i0 _ 3 24 Tryd.underlying22 hi hz0 hz1 hz2 rfl (by decide) v l.length (cellsI l) hs (World.ownsRow.alloc D _) ⟨w.heap.size, 0, none⟩ 1 1 (cellsI [(i1, i2, i3)]) hx rfl (news1 w i1 i2 i3 t) ?_ (by unfold maxLen; omega) (by omega) (by simp; omega) ?_
  · intro u hu
    simp only [cellsI, List.flatMap_cons, List.flatMap_nil, List.append_nil, List.mem_cons, List.not_mem_nil, or_false] at hu
    rcases hu with rfl | rfl | rfl <;> rfl
  · intro v' w' ho' hgr _
    have hown : OwnI B w' v' (l ++ [(i1, i2, i3)]) := by
      unfold OwnI
      rw [List.length_append, cellsI_append]
      exact ho'
    rcases hown.2 with ⟨_, h0⟩ | ⟨g', cap', cur, hv, _⟩
    · simp at h0
    · subst hv
      exact h g' cap' _ w' rfl hown hgr
theorem OwnI.kept {B : Nat} {w w' : World} {q : Option Nat} {v : Value} {l : List I3} (h : OwnI B w v l) (hg : w.grownBy w' q) (hq : ∀ k, q = some k → k < B) : OwnI B w' v l :=
  World.ownsRow.kept h hg (by
    rcases h.2 with ⟨e, _⟩ | ⟨g, cap, cur, e, hg, _⟩
    · exact .inl (by rw [e]; rfl)
    · exact .inr (fun e' => by rw [e] at e'; simp [Value.ownBlock] at e'; have := hq g e'.symm; omega))
theorem OwnI.form {B : Nat} {w : World} {v : Value} {l : List I3} (h : OwnI B w v l) : ∃ a cap N, v = .slice a N cap ∧ Hid (N = l.length) := by
  rcases h.2 with ⟨hv, h0⟩ | ⟨g, cap, cur, hv, _⟩
  · exact ⟨none, 0, 0, hv, h0.symm⟩
  · exact ⟨_, _, _, hv, rfl⟩
theorem OwnI.nil (B : Nat) (w : World) : OwnI B w (.slice none 0 0) [] := World.ownsRow_nil _ _ _ _
theorem own_lower {B B' : Nat} {w : World} {v : Value} {l : List I3} (h : OwnI B w v l) (hB : B' ≤ B) : OwnI B' w v l := by
  refine ⟨h.1, ?_⟩
  rcases h.2 with h0 | ⟨g, cap, cur, hv, hg, r⟩
  · exact .inl h0
  · exact .inr ⟨g, cap, cur, hv, Nat.le_trans hB hg, r⟩
theorem own_belowI {B : Nat} {w w' : World} {v : Value} {l : List I3} (h : OwnI B w v l) (hb : Below w.heap.size w w') : OwnI B w' v l := by
  refine ⟨h.1, ?_⟩
  rcases h.2 with h0 | ⟨g, cap, cur, hv, hg, hh, r⟩
  · exact .inl h0
  · exact .inr ⟨g, cap, cur, hv, hg, (hb.block g (Array.getElem?_eq_some_iff.1 hh).1).trans hh, r⟩
/-- Old memory behind an append to memory of one's own. -/
theorem grown_own {w0 w w' : World} {q row : Option Nat} {o : Obj} (h : w0.grownBy w q) (hg : (w.alloc o).grownBy w' row) (hrow : ∀ k, row = some k → w0.heap.size ≤ k) : w0.grownBy w' q := by
  have h1 := World.grownBy_alloc w o none
  refine ⟨hg.os.trans h.os, hg.tape.trans h.tape, hg.output.trans h.output, Nat.le_trans h.size (Nat.le_trans h1.size hg.size), fun k hk hne => ?_⟩
  have hs := h.size
  rw [hg.block k (by simp; omega) (fun e => by have := hrow k e.symm; omega), h1.block k (by omega) (by simp), h.block k hk hne]
end Go.Proofs.YtjbhelcdakhjbaaDoor.OwnIns
