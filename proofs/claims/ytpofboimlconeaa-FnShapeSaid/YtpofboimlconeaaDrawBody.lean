/-
  The drawing of a body: a list of instructions in memory of its own.
-/
import Derived.Test.YtpofboimlconeaaDrawAny
namespace Go.Proofs.Ytpofboimlconeaa.DrawBody
open Go.RowKit PlainOps NameCalls PlainNum NumCalls Draws DrawKeep InsCalls PlainShape InsMem ShapeCalls DrawIns DrawAny

def cellsI (l : List I3) : List Value := l.flatMap fun x => [.int .i64 x.1, .int .i64 x.2.1, .int .i64 x.2.2]
theorem cellsI_len : ∀ l : List I3, (cellsI l).length = l.length * 3
  | [] => rfl
  | x :: l => by
    have := cellsI_len l
    simp only [cellsI, List.flatMap_cons, List.length_append, List.length_cons, List.length_nil] at this ⊢
    omega
theorem cellsI_append (a b : List I3) : cellsI (a ++ b) = cellsI a ++ cellsI b := List.flatMap_append
/-- A list of instructions in new memory, of block B on. -/
def OwnI (B : Nat) (w : World) (v : Value) (l : List I3) : Prop := w.ownsRow B 27 3 v l.length (cellsI l)
theorem OwnI.form {B : Nat} {w : World} {v : Value} {l : List I3} (h : OwnI B w v l) (hn : v ≠ .slice none 0 0) : ∃ g cap, v = .slice (some ⟨g, 0, none⟩) l.length cap ∧ B ≤ g ∧ g < w.heap.size ∧ l.length ≤ cap := by
  rcases h.2 with ⟨h0, _⟩ | ⟨g, cap, cur, hv, hg, hb, hn', _, _, _⟩
  · exact absurd h0 hn
  · exact ⟨g, cap, hv, hg, (Array.getElem?_eq_some_iff.1 hb).1, hn'⟩
theorem OwnI.kept {B blk : Nat} {w w' : World} {v : Value} {l : List I3} (h : OwnI B w v l) (hg : w.grownBy w' (some blk)) (hb : blk < B) : OwnI B w' v l :=
  World.ownsRow.kept h hg (by
    rcases h.2 with ⟨e, _⟩ | ⟨g, cap, cur, e, hg, _⟩
    · exact .inl (by rw [e]; rfl)
    · exact .inr (fun e' => by rw [e] at e'; simp [Value.ownBlock] at e'; omega))
/-- While a body is drawn: the cursor, and what is made so far. -/
structure DB (B : Nat) (w0 : World) (blk : Nat) (w1 w : World) (v : Value) (l : List I3) : Prop where
  st : StK B w0 blk w1 w
  own : OwnI w1.heap.size w v l
  nn : v ≠ .slice none 0 0
theorem DB.drawn {B blk : Nat} {w0 w1 w w' : World} {v : Value} {l : List I3} (h : DB B w0 blk w1 w v l) (hlt : blk < w1.heap.size) (t : StK B w0 blk w w') : DB B w0 blk w1 w' v l :=
  ⟨⟨t.1, grow_trans h.st.2 t.2⟩, h.own.kept t.2 hlt, h.nn⟩
theorem DB.alloc {B blk : Nat} {w0 w1 w : World} {v : Value} {l : List I3} (h : DB B w0 blk w1 w v l) (hlt : blk < w1.heap.size) (o : Obj) : DB B w0 blk w1 (w.alloc o) v l :=
  ⟨stk_past h.st hlt ((Below.refl _ _).alloc h.st.2.size _), World.ownsRow.alloc h.own _, h.nn⟩
theorem infoParts : ∃ i, Try.prog.info? 27 = some i ∧ i.zero = some (.agg #[.int .i64 0, .int .i64 0, .int .i64 0]) ∧ i.size = 3 ∧ i.bytes = 24 := info_parts infoI
theorem wp_appL {ops : Array Oper} {rest : List Oper} {o : Oper} {a : Act} {Q : Exit → Act → World → Prop} {B blk : Nat} {w0 w1 w : World} {v : Value} {l : List I3} (hg : o.guard = none) (s x : Operand)
    (ho : o.op = .call { callee := .builtin .append, args := #[s, x], argTypes := #[23, 23] }) (D : DB B w0 blk w1 w v l) (hlt : blk < w1.heap.size) (l2 : List I3) (hl : l.length + l2.length ≤ 1000000) (hs : a.eval s = v) (g c : Nat)
    (hx : a.eval x = .slice (some ⟨g, 0, none⟩) l2.length c) (hn : ∀ j u, (cellsI l2)[j]? = some u → w.cell? ((⟨g, 0, none⟩ : Addr).add j) = some u)
    (h : ∀ v' w', DB B w0 blk w1 w' v' (l ++ l2) → wpList Try.prog ops Q rest (a.put o.dst v') w') : wpList Try.prog ops Q (o :: rest) a w := by
  obtain ⟨i0, hi, hz0, hz1, hz2⟩ := infoParts
  refine wpList_append_own w hg s x 23 ho w1.heap.size 27 i0 _ 3 24 Try.underlying23 hi hz0 hz1 hz2 rfl (by decide) v l.length (cellsI l) hs D.own ⟨g, 0, none⟩ l2.length c (cellsI l2) hx (cellsI_len l2) hn ?_ (by unfold maxLen; omega) (by omega) D.st.2.size ?_
  · intro u hu
    simp only [cellsI, List.mem_flatMap] at hu
    obtain ⟨y, _, hy⟩ := hu
    simp only [List.mem_cons, List.not_mem_nil, or_false] at hy
    rcases hy with rfl | rfl | rfl <;> rfl
  · intro v' w' ho' hgr hnil
    refine h v' w' ⟨stk_past D.st hlt ((Below.refl _ _).grown hgr D.st.2.size (fun k hk => (World.ownsRow.lt D.own k hk).1)), ?_, fun e => D.nn (hnil.1 e).1⟩
    unfold OwnI
    rw [List.length_append, cellsI_append]
    exact ho'
theorem news1 (w : World) (o a b : Int) (t : TypeId) : ∀ j u, (cellsI [(o, a, b)])[j]? = some u → (w.alloc (.cells #[.int .i64 o, .int .i64 a, .int .i64 b] t)).cell? ((⟨w.heap.size, 0, none⟩ : Addr).add j) = some u := by
  intro j u hj
  match j, hj with
  | 0, hj => simp [cellsI] at hj; subst hj; simp [Addr.add]
  | 1, hj => simp [cellsI] at hj; subst hj; simp [Addr.add]
  | 2, hj => simp [cellsI] at hj; subst hj; simp [Addr.add]
theorem news1' (w : World) (g : Nat) (o a b : Int) (t : TypeId) (hg : g = w.heap.size) : ∀ j u, (cellsI [(o, a, b)])[j]? = some u → (w.alloc (.cells #[.int .i64 o, .int .i64 a, .int .i64 b] t)).cell? ((⟨g, 0, none⟩ : Addr).add j) = some u := by
  subst hg
  exact news1 w o a b t
theorem newsL {B : Nat} {w : World} {g c : Nat} {l : List I3} (h : OwnI B w (.slice (some ⟨g, 0, none⟩) l.length c) l) : ∀ j u, (cellsI l)[j]? = some u → w.cell? ((⟨g, 0, none⟩ : Addr).add j) = some u := World.ownsRow.cells h rfl
theorem sz1 (w : World) (o : Obj) : w.heap.size + 1 = (w.alloc o).heap.size := by simp
theorem pick3 {w w' : World} {blk : Nat} (hg : (w.alloc (.cells #[.int .i64 2, .int .i64 3, .int .i64 4] 3)).grownBy w' (some blk)) (hb : blk < w.heap.size) (y : Int) (y0 : 0 ≤ y) (y1 : y < 3) : ∃ op : Int, w'.cell? ⟨w.heap.size, y.toNat, none⟩ = some (.int .i64 op) := by
  rw [grown_cell hg (by simp) (fun e => by injection e; omega)]
  have : y = 0 ∨ y = 1 ∨ y = 2 := by omega
  rcases this with rfl | rfl | rfl
  · exact ⟨2, by simp⟩
  · exact ⟨3, by simp⟩
  · exact ⟨4, by simp⟩
def bd : Nat → Nat
  | 0 => 4
  | f + 1 => 4 * (2 * bd f + 3)
end Go.Proofs.Ytpofboimlconeaa.DrawBody
