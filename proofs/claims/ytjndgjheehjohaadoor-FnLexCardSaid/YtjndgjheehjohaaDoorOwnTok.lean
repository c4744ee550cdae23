/-
  Lists of tokens in memory of one's own.
-/
import Derived.Test.YtjndgjheehjohaaDoorPlainScan
import Derived.Test.YtjndgjheehjohaaDoorMemTok
import Derived.Maps.AppendAt
import Derived.OwnWalk
namespace Go.Proofs.YtjndgjheehjohaaDoor.OwnTok
open Go.RowKit PlainOps PlainLex PlainScan InsMem

def cellsT (l : List T4) : List Value := l.flatMap fun x => [.int .i64 x.1, .int .i64 x.2.1, .string (tx x.2.2.1), .int .i64 x.2.2.2]
theorem cellsT_len : ∀ l : List T4, (cellsT l).length = l.length * 4
  | [] => rfl
  | x :: l => by
    have := cellsT_len l
    simp only [cellsT, List.flatMap_cons, List.length_append, List.length_cons, List.length_nil] at this ⊢
    omega
theorem cellsT_append (a b : List T4) : cellsT (a ++ b) = cellsT a ++ cellsT b := List.flatMap_append
/-- A list of instructions in new memory, of block B on. -/
def OwnT (B : Nat) (w : World) (v : Value) (l : List T4) : Prop := w.ownsRow B 27 4 v l.length (cellsT l)
theorem infoParts : ∃ i, Tryd.prog.info? 27 = some i ∧ i.zero = some (.agg #[.int .i64 0, .int .i64 0, .string ⟨#[]⟩, .int .i64 0]) ∧ i.size = 4 ∧ i.bytes = 40 := info_parts MemTok.info
theorem news1 (w : World) (o a : Int) (s : List UInt8) (b : Int) (t : TypeId) : ∀ j u, (cellsT [(o, a, s, b)])[j]? = some u → (w.alloc (.cells #[.int .i64 o, .int .i64 a, .string (tx s), .int .i64 b] t)).cell? ((⟨w.heap.size, 0, none⟩ : Addr).add j) = some u := by
  intro j u hj
  match j, hj with
  | 0, hj => simp [cellsT] at hj; subst hj; simp [Addr.add]
  | 1, hj => simp [cellsT] at hj; subst hj; simp [Addr.add]
  | 2, hj => simp [cellsT] at hj; subst hj; simp [Addr.add]
  | 3, hj => simp [cellsT] at hj; subst hj; simp [Addr.add]
/-- A token is appended. -/
theorem wp_appT {ops : Array Oper} {rest : List Oper} {o : Oper} {a : Act} {Q : Exit → Act → World → Prop} {B : Nat} {w : World} {v : Value} {l : List T4} (hg : o.guard = none) (s x : Operand)
    (ho : o.op = .call { callee := .builtin .append, args := #[s, x], argTypes := #[33, 33] }) (D : OwnT B w v l) (hB : B ≤ w.heap.size) (i1 i2 : Int) (s3 : List UInt8) (i4 : Int) (hl : l.length ≤ 10000000) (hs : a.eval s = v) (t : TypeId) (g : Nat) (hgs : g = w.heap.size)
    (hx : a.eval x = .slice (some ⟨g, 0, none⟩) 1 1)
    (h : ∀ g' cap' N w', N = (l ++ [(i1, i2, s3, i4)]).length → OwnT B w' (.slice (some ⟨g', 0, none⟩) N cap') (l ++ [(i1, i2, s3, i4)]) → (w.alloc (.cells #[.int .i64 i1, .int .i64 i2, .string (tx s3), .int .i64 i4] t)).grownBy w' v.ownBlock → wpList Tryd.prog ops Q rest (a.put o.dst (.slice (some ⟨g', 0, none⟩) N cap')) w') :
    wpList Tryd.prog ops Q (o :: rest) a (w.alloc (.cells #[.int .i64 i1, .int .i64 i2, .string (tx s3), .int .i64 i4] t)) := by
  obtain ⟨i0, hi, hz0, hz1, hz2⟩ := infoParts
  subst hgs
  refine wpList_append_own _ hg s x 33 ho B 27 i0 _ 4 40 Tryd.underlying33 hi hz0 hz1 hz2 rfl (by decide) v l.length (cellsT l) hs (World.ownsRow.alloc D _) ⟨w.heap.size, 0, none⟩ 1 1 (cellsT [(i1, i2, s3, i4)]) hx rfl (news1 w i1 i2 s3 i4 t) ?_ (by unfold maxLen; omega) (by omega) (by simp; omega) ?_
  · intro u hu
    simp only [cellsT, List.flatMap_cons, List.flatMap_nil, List.append_nil, List.mem_cons, List.not_mem_nil, or_false] at hu
    rcases hu with rfl | rfl | rfl | rfl <;> rfl
  · intro v' w' ho' hgr _
    have hown : OwnT B w' v' (l ++ [(i1, i2, s3, i4)]) := by
      unfold OwnT
      rw [List.length_append, cellsT_append]
      exact ho'
    rcases hown.2 with ⟨_, h0⟩ | ⟨g', cap', cur, hv, _⟩
    · simp at h0
    · subst hv
      exact h g' cap' _ w' rfl hown hgr
theorem OwnT.kept {B : Nat} {w w' : World} {q : Option Nat} {v : Value} {l : List T4} (h : OwnT B w v l) (hg : w.grownBy w' q) (hq : ∀ k, q = some k → k < B) : OwnT B w' v l :=
  World.ownsRow.kept h hg (by
    rcases h.2 with ⟨e, _⟩ | ⟨g, cap, cur, e, hg, _⟩
    · exact .inl (by rw [e]; rfl)
    · exact .inr (fun e' => by rw [e] at e'; simp [Value.ownBlock] at e'; have := hq g e'.symm; omega))
theorem OwnT.form {B : Nat} {w : World} {v : Value} {l : List T4} (h : OwnT B w v l) : ∃ a cap N, v = .slice a N cap ∧ Hid (N = l.length) := by
  rcases h.2 with ⟨hv, h0⟩ | ⟨g, cap, cur, hv, _⟩
  · exact ⟨none, 0, 0, hv, h0.symm⟩
  · exact ⟨_, _, _, hv, rfl⟩
theorem OwnT.nil (B : Nat) (w : World) : OwnT B w (.slice none 0 0) [] := World.ownsRow_nil _ _ _ _
theorem own_lower {B B' : Nat} {w : World} {v : Value} {l : List T4} (h : OwnT B w v l) (hB : B' ≤ B) : OwnT B' w v l := by
  refine ⟨h.1, ?_⟩
  rcases h.2 with h0 | ⟨g, cap, cur, hv, hg, r⟩
  · exact .inl h0
  · exact .inr ⟨g, cap, cur, hv, Nat.le_trans hB hg, r⟩
theorem own_belowT {B : Nat} {w w' : World} {v : Value} {l : List T4} (h : OwnT B w v l) (hb : Below w.heap.size w w') : OwnT B w' v l := by
  refine ⟨h.1, ?_⟩
  rcases h.2 with h0 | ⟨g, cap, cur, hv, hg, hh, r⟩
  · exact .inl h0
  · exact .inr ⟨g, cap, cur, hv, hg, (hb.block g (Array.getElem?_eq_some_iff.1 hh).1).trans hh, r⟩
/-- Old memory behind an append to memory of one's own. -/
theorem grown_own {w0 w w' : World} {q row : Option Nat} {o : Obj} (h : w0.grownBy w q) (hg : (w.alloc o).grownBy w' row) (hrow : ∀ k, row = some k → w0.heap.size ≤ k) : w0.grownBy w' q := by
  have h1 := World.grownBy_alloc w o none
  refine ⟨hg.os.trans h.os, hg.tape.trans h.tape, hg.output.trans h.output, Nat.le_trans h.size (Nat.le_trans h1.size hg.size), fun k hk hne => ?_⟩
  have hs := h.size
  rw [hg.block k (by simp; omega) (fun e => by have := hrow k e.symm; omega), h1.block k (by omega) (by simp), h.block k hk hne]
theorem add_n (b off k : Nat) : (⟨b, off, none⟩ : Addr).add k = ⟨b, off + k, none⟩ := by cases k <;> simp [Addr.add]
theorem cells_at : ∀ (l : List T4) (j : Nat), j < l.length → (cellsT l)[j * 4]? = some (.int .i64 ((l.getD j (0, 0, [], 0)).1)) ∧ (cellsT l)[j * 4 + 1]? = some (.int .i64 ((l.getD j (0, 0, [], 0)).2.1)) ∧ (cellsT l)[j * 4 + 2]? = some (.string (tx ((l.getD j (0, 0, [], 0)).2.2.1))) ∧ (cellsT l)[j * 4 + 3]? = some (.int .i64 ((l.getD j (0, 0, [], 0)).2.2.2))
  | [], j, h => by simp at h
  | x :: l, 0, _ => ⟨rfl, rfl, rfl, rfl⟩
  | x :: l, j + 1, h => by
    have := cells_at l j (by simpa using h)
    have e : cellsT (x :: l) = [.int .i64 x.1, .int .i64 x.2.1, .string (tx x.2.2.1), .int .i64 x.2.2.2] ++ cellsT l := rfl
    rw [e]
    refine ⟨?_, ?_, ?_, ?_⟩
    · rw [List.getElem?_append_right (by simp; omega), show (j + 1) * 4 - [Value.int .i64 x.1, .int .i64 x.2.1, .string (tx x.2.2.1), .int .i64 x.2.2.2].length = j * 4 by simp; omega]; exact this.1
    · rw [List.getElem?_append_right (by simp; omega), show (j + 1) * 4 + 1 - [Value.int .i64 x.1, .int .i64 x.2.1, .string (tx x.2.2.1), .int .i64 x.2.2.2].length = j * 4 + 1 by simp; omega]; exact this.2.1
    · rw [List.getElem?_append_right (by simp; omega), show (j + 1) * 4 + 2 - [Value.int .i64 x.1, .int .i64 x.2.1, .string (tx x.2.2.1), .int .i64 x.2.2.2].length = j * 4 + 2 by simp; omega]; exact this.2.2.1
    · rw [List.getElem?_append_right (by simp; omega), show (j + 1) * 4 + 3 - [Value.int .i64 x.1, .int .i64 x.2.1, .string (tx x.2.2.1), .int .i64 x.2.2.2].length = j * 4 + 3 by simp; omega]; exact this.2.2.2
/-- The tokens as the law's helpers have them. -/
def toE (t : T4) : MemTok.E := (t.1, t.2.1, tx t.2.2.1, t.2.2.2)
theorem toE_at (l : List T4) (j : Nat) (hj : j < l.length) : MemTok.f0At (l.map toE) j = (l.getD j (0, 0, [], 0)).1 ∧ MemTok.f1At (l.map toE) j = (l.getD j (0, 0, [], 0)).2.1 ∧ MemTok.f2At (l.map toE) j = tx (l.getD j (0, 0, [], 0)).2.2.1 ∧ MemTok.f3At (l.map toE) j = (l.getD j (0, 0, [], 0)).2.2.2 := by
  unfold MemTok.f0At MemTok.f1At MemTok.f2At MemTok.f3At
  simp [List.getD, hj, toE]
/-- Such a list can be read. -/
theorem own_rdT {B : Nat} {w : World} {v : Value} {l : List T4} (h : OwnT B w v l) : ∃ a cap, v = .slice a l.length cap ∧ MemTok.Rd w a (l.map toE) ∧ (∀ p, a = some p → B ≤ p.block ∧ p.block < w.heap.size) := by
  rcases h.2 with ⟨hv, h0⟩ | ⟨g, cap, cur, hv, hg, hh, r⟩
  · exact ⟨none, 0, by rw [hv, h0], .inl (by simpa using h0), by simp⟩
  · refine ⟨some ⟨g, 0, none⟩, cap, hv, .inr ⟨g, 0, rfl, fun j hj => ?_⟩, fun p hp => ?_⟩
    · have hj' : j < l.length := by simpa using hj
      have hc := World.ownsRow.cells h (g := g) (by rw [hv]; rfl)
      obtain ⟨c0, c1, c2, c3⟩ := cells_at l j hj'
      have d0 := hc _ _ c0
      have d1 := hc _ _ c1
      have d2 := hc _ _ c2
      have d3 := hc _ _ c3
      rw [add_n] at d0 d1 d2 d3
      obtain ⟨e0, e1, e2, e3⟩ := toE_at l j hj'
      rw [e0, e1, e2, e3]
      exact ⟨d0, d1, d2, d3⟩
    · cases hp
      exact ⟨hg, (Array.getElem?_eq_some_iff.1 hh).1⟩
end Go.Proofs.YtjndgjheehjohaaDoor.OwnTok
