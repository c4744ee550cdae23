/-
  All sections gone through by the program.
-/
import Derived.Test.YthjgmjhgpjgdlabSecRd
import Derived.Test.YthjgmjhgpjgdlabShelf
import Derived.Maps.AppendAt
import Derived.OwnWalk
namespace Go.Proofs.Ythjgmjhgpjgdlab.SecAll
open Go.RowKit PlainNum PlainLeb PlainGet PlainRd PlainSec NumCalls ByteMem PutU Reader ReadNum SecRd

/-- A section in memory: its number, and where its reader lies. -/
abbrev S2 := Int × Nat
def cellsS (l : List S2) : List Value := l.flatMap fun x => [.int .i64 x.1, .pointer (some ⟨x.2, 0, none⟩)]
theorem cellsS_len : ∀ l : List S2, (cellsS l).length = l.length * 2
  | [] => rfl
  | x :: l => by
    have := cellsS_len l
    simp only [cellsS, List.flatMap_cons, List.length_append, List.length_cons, List.length_nil] at this ⊢
    omega
theorem cellsS_append (a b : List S2) : cellsS (a ++ b) = cellsS a ++ cellsS b := List.flatMap_append
def OwnS (B : Nat) (w : World) (v : Value) (l : List S2) : Prop := w.ownsRow B 42 2 v l.length (cellsS l)
theorem infoS : (Try.prog.info? 42).map (fun i => (i.zero, i.size, i.bytes)) = some (some (.agg #[.int .i64 0, .pointer none]), 2, 16) := by kernel_rfl
theorem newsS (w : World) (o : Int) (g : Nat) (t : TypeId) : ∀ j u, (cellsS [(o, g)])[j]? = some u → (w.alloc (.cells #[.int .i64 o, .pointer (some ⟨g, 0, none⟩)] t)).cell? ((⟨w.heap.size, 0, none⟩ : Addr).add j) = some u := by
  intro j u hj
  match j, hj with
  | 0, hj => simp [cellsS] at hj; subst hj; simp [Addr.add]
  | 1, hj => simp [cellsS] at hj; subst hj; simp [Addr.add]
theorem wp_appS {ops : Array Oper} {rest : List Oper} {o : Oper} {a : Act} {Q : Exit → Act → World → Prop} {B : Nat} {w : World} {v : Value} {l : List S2} (hg : o.guard = none) (s x : Operand)
    (ho : o.op = .call { callee := .builtin .append, args := #[s, x], argTypes := #[35, 35] }) (D : OwnS B w v l) (hB : B ≤ w.heap.size) (i1 : Int) (p1 : Nat) (hl : l.length ≤ 10000000) (hs : a.eval s = v) (t : TypeId) (g : Nat) (hgs : g = w.heap.size)
    (hx : a.eval x = .slice (some ⟨g, 0, none⟩) 1 1)
    (h : ∀ g' cap' N w', N = (l ++ [(i1, p1)]).length → OwnS B w' (.slice (some ⟨g', 0, none⟩) N cap') (l ++ [(i1, p1)]) → (w.alloc (.cells #[.int .i64 i1, .pointer (some ⟨p1, 0, none⟩)] t)).grownBy w' v.ownBlock → wpList Try.prog ops Q rest (a.put o.dst (.slice (some ⟨g', 0, none⟩) N cap')) w') :
    wpList Try.prog ops Q (o :: rest) a (w.alloc (.cells #[.int .i64 i1, .pointer (some ⟨p1, 0, none⟩)] t)) := by
  obtain ⟨i0, hi, hz0, hz1, hz2⟩ := info_parts infoS
  subst hgs
  refine wpList_append_own _ hg s x 35 ho B 42 i0 _ 2 16 Try.underlying35 hi hz0 hz1 hz2 rfl (by decide) v l.length (cellsS l) hs (World.ownsRow.alloc D _) ⟨w.heap.size, 0, none⟩ 1 1 (cellsS [(i1, p1)]) hx rfl (newsS w i1 p1 t) ?_ (by unfold maxLen; omega) (by omega) (by simp; omega) ?_
  · intro u hu
    simp only [cellsS, List.flatMap_cons, List.flatMap_nil, List.append_nil, List.mem_cons, List.not_mem_nil, or_false] at hu
    rcases hu with rfl | rfl <;> rfl
  · intro v' w' ho' hgr _
    have hown : OwnS B w' v' (l ++ [(i1, p1)]) := by
      unfold OwnS
      rw [List.length_append, cellsS_append]
      exact ho'
    rcases hown.2 with ⟨_, h0⟩ | ⟨g', cap', cur, hv, _⟩
    · simp at h0
    · subst hv
      exact h g' cap' _ w' rfl hown hgr
theorem OwnS.kept {B : Nat} {w w' : World} {q : Option Nat} {v : Value} {l : List S2} (h : OwnS B w v l) (hg : w.grownBy w' q) (hq : ∀ k, q = some k → k < B) : OwnS B w' v l :=
  World.ownsRow.kept h hg (by
    rcases h.2 with ⟨e, _⟩ | ⟨g, cap, cur, e, hg, _⟩
    · exact .inl (by rw [e]; rfl)
    · exact .inr (fun e' => by rw [e] at e'; simp [Value.ownBlock] at e'; have := hq g e'.symm; omega))
theorem OwnS.form {B : Nat} {w : World} {v : Value} {l : List S2} (h : OwnS B w v l) : ∃ a cap N, v = .slice a N cap ∧ Hid (N = l.length) := by
  rcases h.2 with ⟨hv, h0⟩ | ⟨g, cap, cur, hv, _⟩
  · exact ⟨none, 0, 0, hv, h0.symm⟩
  · exact ⟨_, _, _, hv, rfl⟩
theorem OwnS.lower {B B' : Nat} {w : World} {v : Value} {l : List S2} (h : OwnS B w v l) (hB : B' ≤ B) : OwnS B' w v l := by
  refine ⟨h.1, ?_⟩
  rcases h.2 with h0 | ⟨g, cap, cur, hv, hg, r⟩
  · exact .inl h0
  · exact .inr ⟨g, cap, cur, hv, Nat.le_trans hB hg, r⟩
def lenV : Value → Nat
  | .slice _ n _ => n
  | _ => 0
/-- A slice that holds the bytes bs. -/
structure Src (w : World) (b off cap : Nat) (bs : List UInt8) : Prop where
  rd : ∀ j, j < bs.length → w.cell? ⟨b, off + j, none⟩ = some (.int .u8 ((bs[j]?.getD 0).toNat : Int))
  le : bs.length ≤ cap
  lt : b < w.heap.size
theorem Src.later {w w' : World} {b off cap : Nat} {bs : List UInt8} (h : Src w b off cap bs) (hb : Below w.heap.size w w') : Src w' b off cap bs :=
  ⟨fun j hj => by rw [hb.cell h.lt]; exact h.rd j hj, h.le, Nat.lt_of_lt_of_le h.lt hb.size⟩
theorem Src.reader {w : World} {b off cap : Nat} {bs : List UInt8} (h : Src w b off cap bs) (c : Int) : RdX (w.alloc (.cells #[.slice (some ⟨b, off, none⟩) bs.length cap, .int .i64 c] 51)) w.heap.size c b bs :=
  ⟨off, cap, World.alloc_heap_new w _, fun j hj => by rw [((Below.refl w.heap.size w).alloc (Nat.le_refl _) _).cell h.lt]; exact h.rd j hj, h.le, h.lt⟩
theorem Src.drop {w : World} {b off cap : Nat} {bs : List UInt8} (h : Src w b off cap bs) (k off' : Nat) (hk : k ≤ bs.length) (ho : k < bs.length → off' = off + k) : Src w b off' (cap - k) (bs.drop k) := by
  have hl := h.le
  refine ⟨fun j hj => ?_, by rw [List.length_drop]; omega, h.lt⟩
  rw [List.length_drop] at hj
  rw [ho (by omega), Nat.add_assoc, h.rd (k + j) (by omega), List.getElem?_drop]
/-- Whether they begin as a module does. -/
theorem has_head (w : World) (b off cap g : Nat) (bs : List UInt8) (hs : Src w b off cap bs) (hc : ∀ j, j < hd.length → w.cell? ⟨g, j, none⟩ = some (.int .u8 ((hd[j]?.getD 0).toNat : Int))) :
    Calls Try.prog 19 #[.slice (some ⟨b, off, none⟩) bs.length cap, .slice (some ⟨g, 0, none⟩) 8 8] w fun e w' => e = .returned (.bool (decide (bs.take 8 = hd))) ∧ w' = w := by
  have hx : ∀ l : List UInt8, Lib.bytesOf (l.map fun x => (x.toNat : Int)) = l := fun l => by
    unfold Lib.bytesOf
    rw [List.map_map]
    exact (List.map_congr_left (g := id) fun x _ => by simp).trans (List.map_id l)
  have := Try.bytes_HasPrefix b off bs.length cap g 0 8 8 (bs.map fun x => (x.toNat : Int)) (hd.map fun x => (x.toNat : Int)) w (by simp) (by simp [hd]) hs.le (fun i hi => by rw [hs.rd i hi]; simp [hi]) (fun i hi => by
    rw [Nat.zero_add, hc i (by simpa [hd] using hi)]
    simp [show i < hd.length by simpa [hd] using hi])
  rw [hx, hx] at this
  refine this.mono ?_
  rintro e w' ⟨rfl, rfl⟩
  refine ⟨?_, rfl⟩
  refine congrArg (fun x => Ending.returned (.bool x)) (?_ : (_ : Bool) = _)
  rw [Bool.eq_iff_iff]
  unfold Lib.hasPrefix
  rw [List.isPrefixOf_iff_prefix, List.prefix_iff_eq_take, decide_eq_true_iff, eq_comm]
  exact Iff.rfl
end Go.Proofs.Ythjgmjhgpjgdlab.SecAll
