/-
  The program's walk over a body: its box, and the pile of what is open.
-/
import Derived.Test.YtdaffcbamnpjfaaGreatDoorPlainValid
import Derived.Test.YtdaffcbamnpjfaaGreatDoorInsMem
import Derived.Deep.RegionHeld3
import Derived.Deep.AppendLies
import Derived.Deep.RegionLaw
import Derived.BigRegion
import Derived.Maps.AppendAt
import Derived.OwnWalk
import Derived.Laws.OwnMore
namespace Go.Proofs.YtdaffcbamnpjfaaGreatDoor.Piles
open Go.RowKit PlainShape PlainValid InsMem

/-- The cells of what is open. -/
def cellsF (l : List Fr) : List Value := l.flatMap fun x => [.int .i64 x.op, .int .i64 x.res, .int .i64 x.base, .bool x.dead]
theorem cellsF_len : ∀ l : List Fr, (cellsF l).length = l.length * 4
  | [] => rfl
  | x :: l => by
    have := cellsF_len l
    simp only [cellsF, List.flatMap_cons, List.length_append, List.length_cons, List.length_nil] at this ⊢
    omega
theorem cellsF_append (a b : List Fr) : cellsF (a ++ b) = cellsF a ++ cellsF b := List.flatMap_append
def cvF (f : Fr) (r : Nat) : Value := if r = 0 then .int .i64 f.op else if r = 1 then .int .i64 f.res else if r = 2 then .int .i64 f.base else .bool f.dead
theorem cellsF_at : ∀ (l : List Fr) (j r : Nat), j < l.length → r < 4 → (cellsF l)[j * 4 + r]? = some (cvF (l.getD j dF) r)
  | [], j, r, h, _ => absurd h (by simp)
  | x :: l, 0, r, _, hr => by
    match r, hr with
    | 0, _ => rfl
    | 1, _ => rfl
    | 2, _ => rfl
    | 3, _ => rfl
  | x :: l, j + 1, r, h, hr => by
    have h1 := cellsF_at l j r (by simpa using h) hr
    rw [show cellsF (x :: l) = [.int .i64 x.op, .int .i64 x.res, .int .i64 x.base, .bool x.dead] ++ cellsF l from rfl, show (j + 1) * 4 + r = 4 + (j * 4 + r) by omega]
    rw [List.getElem?_append_right (by simp)]
    simpa using h1
/-- Old or new memory. -/
def Lies (n : Nat) (q : Option Nat) (v : Value) : Prop := v.ownBlock = q ∨ ∀ g, v.ownBlock = some g → n ≤ g
/-- All lies as it lay but the box p and the row of v, which has become that of v'. -/
structure Kp (p : Nat) (w w' : World) (v v' : Value) : Prop where
  os : w'.os = w.os
  tape : w'.tape = w.tape
  output : w'.output = w.output
  size : w.heap.size ≤ w'.heap.size
  block : ∀ k, k < w.heap.size → k ≠ p → some k ≠ v.ownBlock → w'.heap[k]? = w.heap[k]?
  lies : Lies w.heap.size v.ownBlock v'
theorem Kp.refl (p : Nat) (w : World) (v : Value) : Kp p w w v v := ⟨rfl, rfl, rfl, Nat.le_refl _, fun _ _ _ _ => rfl, .inl rfl⟩
theorem Kp.trans {p : Nat} {w w' w'' : World} {v v' v'' : Value} (h : Kp p w w' v v') (k : Kp p w' w'' v' v'') : Kp p w w'' v v'' := by
  refine ⟨k.os.trans h.os, k.tape.trans h.tape, k.output.trans h.output, Nat.le_trans h.size k.size, fun i hi hp hne => ?_, ?_⟩
  · refine (k.block i (Nat.lt_of_lt_of_le hi h.size) hp fun e => ?_).trans (h.block i hi hp hne)
    rcases h.lies with a | a
    · exact hne (e.trans a)
    · have := a i e.symm; omega
  · rcases k.lies with a | a
    · rcases h.lies with b | b
      · exact .inl (a.trans b)
      · exact .inr fun g hg => b g (a.symm.trans hg)
    · exact .inr fun g hg => Nat.le_trans h.size (a g hg)
theorem Kp.alloc (p : Nat) (w : World) (v : Value) (o : Obj) : Kp p w (w.alloc o) v v := ⟨rfl, rfl, rfl, by simp, fun k hk _ _ => Below.heap_alloc _ _ _ hk, .inl rfl⟩
theorem Kp.drew {p : Nat} {w w' : World} {v v' : Value} (h : Kp p w w' v v') : Kp p w w'.drew v v' := ⟨h.os, h.tape, h.output, h.size, h.block, h.lies⟩
theorem Kp.below {p : Nat} {w w' : World} (v : Value) (h : Below w.heap.size w w') : Kp p w w' v v := ⟨h.os, h.tape, h.output, h.size, fun k hk _ _ => h.block k hk, .inl rfl⟩
theorem Kp.cell {p : Nat} {w w' : World} {v v' : Value} (h : Kp p w w' v v') {q j : Nat} {x : Value} (hc : w.cell? ⟨q, j, none⟩ = some x) (hp : q ≠ p) (hne : some q ≠ v.ownBlock) : w'.cell? ⟨q, j, none⟩ = some x :=
  (World.cell?_of_block (a := ⟨q, j, none⟩) (h.block q (World.block_lt_of_cell? w _ hc) hp hne)).trans hc
theorem Kp.set {p j : Nat} (w : World) (v x : Value) : Kp p w (w.setCell ⟨p, j, none⟩ x) v v := ⟨rfl, rfl, rfl, by simp, fun k _ hk _ => Below.heap_setCell _ _ _ _ hk, .inl rfl⟩
theorem Kp.setRow {p g j n cap : Nat} (w : World) (x : Value) : Kp p w (w.setCell ⟨g, j, none⟩ x) (.slice (some ⟨g, 0, none⟩) n cap) (.slice (some ⟨g, 0, none⟩) n cap) := ⟨rfl, rfl, rfl, by simp, fun k _ _ hk => Below.heap_setCell _ _ _ _ (fun e => hk (by rw [show k = g from e]; rfl)), .inl rfl⟩
/-- What is open, in a row of its own from block B on. -/
def OwnF (B : Nat) (w : World) (v : Value) (l : List Fr) : Prop := w.ownsRow B 172 4 v l.length (cellsF l)
theorem infoO : (Tryz.prog.info? 172).map (fun i => (i.zero, i.size, i.bytes)) = some (some (.agg #[.int .i64 0, .int .i64 0, .int .i64 0, .bool false]), 4, 32) := by kernel_rfl
theorem infoParts : ∃ i, Tryz.prog.info? 172 = some i ∧ i.zero = some (.agg #[.int .i64 0, .int .i64 0, .int .i64 0, .bool false]) ∧ i.size = 4 ∧ i.bytes = 32 := info_parts infoO
def bwC (F : Nat → Value) (h : Int) (v : Value) (j : Nat) : Value := if j = 11 then .int .i64 h else if j = 12 then v else F j
/-- The walk in box p: what doesn't change (F), the height, the pile v that holds st. -/
structure BW (w : World) (p : Nat) (F : Nat → Value) (h : Int) (v : Value) (st : List Fr) : Prop where
  box : w.rowIs p 168 13 (bwC F h v)
  own : OwnF (p + 1) w v st
theorem BW.hgt {w : World} {p : Nat} {F : Nat → Value} {h : Int} {v : Value} {st : List Fr} (b : BW w p F h v st) : w.cell? ⟨p, 11, none⟩ = some (.int .i64 h) := b.box.cell (by omega)
theorem BW.pile {w : World} {p : Nat} {F : Nat → Value} {h : Int} {v : Value} {st : List Fr} (b : BW w p F h v st) : w.cell? ⟨p, 12, none⟩ = some v := b.box.cell (by omega)
theorem BW.fix {w : World} {p : Nat} {F : Nat → Value} {h : Int} {v : Value} {st : List Fr} (b : BW w p F h v st) (j : Nat) (hj : j < 11) : w.cell? ⟨p, j, none⟩ = some (F j) := by
  rw [b.box.cell (by omega)]
  unfold bwC
  rw [if_neg (by omega), if_neg (by omega)]
theorem BW.frozen {w : World} {p : Nat} {F : Nat → Value} {h : Int} {v : Value} {st : List Fr} (b : BW w p F h v st) (j : Nat) : w.frozen? ⟨p, j, none⟩ = false := b.box.frozen j
theorem BW.lt {w : World} {p : Nat} {F : Nat → Value} {h : Int} {v : Value} {st : List Fr} (b : BW w p F h v st) : p < w.heap.size := b.box.lt
theorem BW.not {w : World} {p : Nat} {F : Nat → Value} {h : Int} {v : Value} {st : List Fr} (b : BW w p F h v st) : some p ≠ v.ownBlock := fun e => by have := (World.ownsRow.lt b.own p e.symm).1; omega
theorem BW.past {w : World} {p : Nat} {F : Nat → Value} {h : Int} {v : Value} {st : List Fr} (b : BW w p F h v st) {k : Nat} (hk : w.heap.size ≤ k) : k ≠ p ∧ some k ≠ v.ownBlock :=
  ⟨fun e => by have := b.lt; omega, fun e => by have := (World.ownsRow.lt b.own k e.symm).2; omega⟩
theorem BW.later {w w' : World} {p : Nat} {F : Nat → Value} {h : Int} {v : Value} {st : List Fr} (b : BW w p F h v st) (hb : Below w.heap.size w w') : BW w' p F h v st := by
  refine ⟨row_later b.box hb, b.own.1, ?_⟩
  rcases b.own.2 with h0 | ⟨g, cap, cur, hv, hg, hh, r⟩
  · exact .inl h0
  · exact .inr ⟨g, cap, cur, hv, hg, (hb.block g (Array.getElem?_eq_some_iff.1 hh).1).trans hh, r⟩
theorem BW.alloc {w : World} {p : Nat} {F : Nat → Value} {h : Int} {v : Value} {st : List Fr} (b : BW w p F h v st) (o : Obj) : BW (w.alloc o) p F h v st := b.later ((Below.refl _ _).alloc (Nat.le_refl _) _)
theorem BW.drew {w : World} {p : Nat} {F : Nat → Value} {h : Int} {v : Value} {st : List Fr} (b : BW w p F h v st) : BW w.drew p F h v st := b.later (Below.refl _ _).drew
theorem bw_seth (F : Nat → Value) (h h' : Int) (v : Value) (j : Nat) : (if j = 11 then Value.int .i64 h' else bwC F h v j) = bwC F h' v j := by
  unfold bwC
  split <;> rfl
theorem BW.seth {w : World} {p : Nat} {F : Nat → Value} {h : Int} {v : Value} {st : List Fr} (b : BW w p F h v st) (h' : Int) : BW (w.setCell ⟨p, 11, none⟩ (.int .i64 h')) p F h' v st :=
  ⟨(b.box.set 11 (.int .i64 h')).congr (fun j _ => bw_seth F h h' v j), ownsRow_setCell_below b.own (by show p < p + 1; omega) _⟩
/-- The pile's form where something is open. -/
theorem BW.form {w : World} {p : Nat} {F : Nat → Value} {h : Int} {v : Value} {st : List Fr} (b : BW w p F h v st) (hn : st.length ≠ 0) : ∃ g cap, v = .slice (some ⟨g, 0, none⟩) st.length cap ∧ p < g ∧ g < w.heap.size ∧ st.length ≤ cap := by
  rcases b.own.2 with ⟨_, h0⟩ | ⟨g, cap, cur, hv, hg, hb, hn', _, _, _⟩
  · exact absurd h0 hn
  · exact ⟨g, cap, hv, hg, (Array.getElem?_eq_some_iff.1 hb).1, hn'⟩
theorem BW.len {w : World} {p g n cap : Nat} {F : Nat → Value} {h : Int} {st : List Fr} (b : BW w p F h (.slice (some ⟨g, 0, none⟩) n cap) st) : n = st.length := by
  rcases b.own.2 with ⟨hv, _⟩ | ⟨g', cap', cur, hv, _⟩
  · cases hv
  · injection hv
theorem BW.cells {w : World} {p g n cap : Nat} {F : Nat → Value} {h : Int} {st : List Fr} (b : BW w p F h (.slice (some ⟨g, 0, none⟩) n cap) st) (j : Nat) (hj : j < st.length) :
    w.cell? ⟨g, j * 4, none⟩ = some (.int .i64 (st.getD j dF).op) ∧ w.cell? ⟨g, j * 4 + 1, none⟩ = some (.int .i64 (st.getD j dF).res) ∧ w.cell? ⟨g, j * 4 + 2, none⟩ = some (.int .i64 (st.getD j dF).base) ∧ w.cell? ⟨g, j * 4 + 3, none⟩ = some (.bool (st.getD j dF).dead) := by
  have hn := b.len
  subst hn
  have k : ∀ r, r < 4 → w.cell? ⟨g, j * 4 + r, none⟩ = some (cvF (st.getD j dF) r) := fun r hr => by
    have := cellsF_at st j r hj hr
    rw [World.ownsRow.cellAt b.own (j * 4 + r) (by omega), this]
  exact ⟨k 0 (by omega), k 1 (by omega), k 2 (by omega), k 3 (by omega)⟩
theorem BW.rowFrozen {w : World} {p g n cap : Nat} {F : Nat → Value} {h : Int} {st : List Fr} (b : BW w p F h (.slice (some ⟨g, 0, none⟩) n cap) st) (j : Nat) : w.frozen? ⟨g, j, none⟩ = false := by
  have hn := b.len
  subst hn
  exact World.ownsRow.frozenAt b.own j
theorem below_dn (w : World) (m : Nat) : Below w.heap.size w (w.drewN m) := ⟨rfl, rfl, rfl, Nat.le_refl _, fun _ _ => rfl⟩
theorem BW.drewN {w : World} {p : Nat} {F : Nat → Value} {h : Int} {v : Value} {st : List Fr} (b : BW w p F h v st) (m : Nat) : BW (w.drewN m) p F h v st := b.later (below_dn w m)
theorem Kp.drewN {p : Nat} {w w' : World} {v v' : Value} (h : Kp p w w' v v') (m : Nat) : Kp p w (w'.drewN m) v v' := ⟨h.os, h.tape, h.output, h.size, h.block, h.lies⟩
theorem Kp.to {p : Nat} {w w' w'' : World} {v v' : Value} (h : Kp p w w' v v') (k : Below w'.heap.size w' w'') : Kp p w w'' v v' := h.trans (Kp.below v' k)
theorem ownF_snoc {B : Nat} {w : World} {v : Value} {st : List Fr} {x : Fr} (h : w.ownsRow B 172 4 v (st.length + 1) (cellsF st ++ cellsF [x])) : OwnF B w v (st ++ [x]) := by
  unfold OwnF
  rw [List.length_append, List.length_singleton, cellsF_append]
  exact h
theorem newsF {w : World} {g : Nat} {x : Fr} {t : TypeId} {cur : Array Value} (h : w.heap[g]? = some (.cells cur t (0, 0))) (hc : cur = #[.int .i64 x.op, .int .i64 x.res, .int .i64 x.base, .bool x.dead]) : ∀ j u, (cellsF [x])[j]? = some u → w.cell? ((⟨g, 0, none⟩ : Addr).add j) = some u := by
  subst hc
  intro j u hj
  match j, hj with
  | 0, hj => simp [cellsF] at hj; subst hj; simp [Addr.add, World.cell?, h]
  | 1, hj => simp [cellsF] at hj; subst hj; simp [Addr.add, World.cell?, h]
  | 2, hj => simp [cellsF] at hj; subst hj; simp [Addr.add, World.cell?, h]
  | 3, hj => simp [cellsF] at hj; subst hj; simp [Addr.add, World.cell?, h]
theorem oneF (x : Fr) : ∀ u ∈ cellsF [x], u.oneCell' = true := by
  intro u hu
  simp only [cellsF, List.flatMap_cons, List.flatMap_nil, List.append_nil, List.mem_cons, List.not_mem_nil, or_false] at hu
  rcases hu with rfl | rfl | rfl | rfl <;> rfl
/-- Behind an append to the pile and the store of what it gave. -/
theorem BW.stored {w w1 : World} {p : Nat} {F : Nat → Value} {h : Int} {v v' : Value} {st st' : List Fr} (b : BW w p F h v st) (ho : OwnF (p + 1) w1 v' st') (hg : w.grownBy w1 v.ownBlock) (hl : Lies w.heap.size v.ownBlock v') :
    BW (w1.setCell ⟨p, 12, none⟩ v') p F h v' st' ∧ Kp p w (w1.setCell ⟨p, 12, none⟩ v') v v' := by
  have hbox : w1.rowIs p 168 13 (bwC F h v) := b.box.of_block (hg.block p b.lt b.not)
  refine ⟨⟨(hbox.set 12 v').congr (fun j _ => ?_), ownsRow_setCell_below ho (by show p < p + 1; omega) v'⟩, hg.os, hg.tape, hg.output, ?_, fun k hk hp hne => ?_, hl⟩
  · unfold bwC
    split
    · rename_i e; subst e; rfl
    · rfl
  · rw [World.size_setCell]; exact hg.size
  · rw [Below.heap_setCell _ _ _ _ (by exact hp)]; exact hg.block k hk hne
set_option maxHeartbeats 1000000 in
theorem size (p g n cap : Nat) (w : World) (hc : w.cell? ⟨p, 12, none⟩ = some (.slice (some ⟨g, 0, none⟩) n cap)) :
    Calls Tryz.prog 140 #[.pointer (some ⟨p, 12, none⟩)] w fun e w' => e = .returned (.int .i64 (n : Int)) ∧ w = w' := by
  go_enter Tryz.func140, Tryz.ntmps140
  go_wp2_with fail
  go_ret
  exact ⟨rfl, rfl⟩
set_option maxHeartbeats 1000000 in
theorem fromTop (p g j k cap : Nat) (w : World) (hc : w.cell? ⟨p, 12, none⟩ = some (.slice (some ⟨g, 0, none⟩) (j + k + 1) cap)) (hn : j + k + 1 ≤ 1048576) :
    Calls Tryz.prog 123 #[.pointer (some ⟨p, 12, none⟩), .int .i64 (k : Int)] w fun e w' => e = .returned (.pointer (some ⟨g, j * 4, none⟩)) ∧ ∃ m, w' = w.drewN m := by
  go_enter Tryz.func123, Tryz.ntmps123
  go_wp2_with fail
  go_quiet (fail)
  go_wp2_with fail
  go_ret
  exact ⟨rfl, _, rfl⟩
theorem last (p g n cap : Nat) (w : World) (hc : w.cell? ⟨p, 12, none⟩ = some (.slice (some ⟨g, 0, none⟩) (n + 1) cap)) (hn : n + 1 ≤ 1048576) :
    Calls Tryz.prog 117 #[.pointer (some ⟨p, 0, none⟩)] w fun e w' => e = .returned (.pointer (some ⟨g, n * 4, none⟩)) ∧ ∃ m, w' = w.drewN m := by
  have k : Hid (Calls Tryz.prog 123 #[.pointer (some ⟨p, 12, none⟩), .int .i64 0] w fun e w' => e = .returned (.pointer (some ⟨g, n * 4, none⟩)) ∧ ∃ m, w' = w.drewN m) := fromTop p g n 0 cap w hc hn
  go_enter Tryz.func117, Tryz.ntmps117
  go_wp2_with (go_at_call 123; refine k.out.mono ?_; rintro e w1 ⟨rfl, m, rfl⟩)
  go_ret
  exact ⟨rfl, _, rfl⟩
theorem put (p : Nat) (w : World) (F : Nat → Value) (h : Int) (v : Value) (st : List Fr) (q : Int) (b : BW w p F h v st) (h0 : -1000000 ≤ h ∧ h ≤ 1000000) (hq : 0 ≤ q ∧ q ≤ 1000) :
    Calls Tryz.prog 128 #[.pointer (some ⟨p, 0, none⟩), .int .i64 q] w fun e w' => e = .returned (.tuple #[]) ∧ BW w' p F (h + q) v st ∧ Kp p w w' v v := by
  have hc := b.hgt
  have hf := b.frozen 11
  have b' : Hid (BW w p F h v st) := b
  clear b
  go_enter Tryz.func128, Tryz.ntmps128
  go_wp2_with fail
  go_end0
  exact ⟨rfl, b'.out.seth (h + q), Kp.set w v _⟩
set_option maxRecDepth 100000 in
set_option maxHeartbeats 3200000 in
theorem push (p g0 : Nat) (w : World) (F : Nat → Value) (h : Int) (v : Value) (st : List Fr) (o r bs : Int) (d : Bool) (b : BW w p F h v st) (hl : st.length ≤ 1048576) (hg0 : w.heap[g0]? = some (.cells #[.int .i64 o, .int .i64 r, .int .i64 bs, .bool d] 172 (0, 0))) :
    Calls Tryz.prog 139 #[.pointer (some ⟨p, 12, none⟩), .slice (some ⟨g0, 0, none⟩) 1 1] w fun e w' => e = .returned (.tuple #[]) ∧ ∃ g cap, BW w' p F h (.slice (some ⟨g, 0, none⟩) (st.length + 1) cap) (st ++ [⟨o, r, bs, d⟩]) ∧ Kp p w w' v (.slice (some ⟨g, 0, none⟩) (st.length + 1) cap) := by
  obtain ⟨i0, hi, hz0, hz1, hz2⟩ := infoParts
  have hc := b.pile
  have hlt := b.lt
  have b' : Hid (BW w p F h v st) := b
  clear b
  have ap : v.ownBlock ≠ some p := Ne.symm b'.out.not
  have hf := b'.out.frozen 12
  have new2 : Hid (∀ j u, (cellsF [⟨o, r, bs, d⟩])[j]? = some u → w.cell? ((⟨g0, 0, none⟩ : Addr).add j) = some u) := newsF (x := ⟨o, r, bs, d⟩) (t := 172) hg0 rfl
  have one2 : Hid (∀ u ∈ cellsF [⟨o, r, bs, d⟩], u.oneCell' = true) := oneF _
  clear hg0
  go_enter Tryz.func139, Tryz.ntmps139
  go_wp2_with (refine wpList_append_lies _ (by rfl) _ _ _ (by rfl) (p + 1) 172 i0 _ 4 32 Tryz.underlying164 hi hz0 hz1 hz2 rfl (by omega) v st.length (cellsF st) (by rfl) b'.out.own ⟨g0, 0, none⟩ 1 1 (cellsF [⟨o, r, bs, d⟩]) (by rfl) (by rfl) new2.out one2.out (by omega) (by unfold maxLen; omega) (by omega) (by omega) w.heap.size rfl ?_; intro gg cap w1 hown1 hgrow hat hlt; have hf1 : w1.frozen? ⟨p, 12, none⟩ = false := (hgrow.frozen_far _ (by simpa using b'.out.lt) (Ne.symm ap)).trans hf; have hc1 : w1.cell? ⟨p, 12, none⟩ = some v := (hgrow.cell_far _ (by simpa using b'.out.lt) (Ne.symm ap)).trans hc; have hown1' : Hid _ := hown1; have hgrow' : Hid _ := hgrow; clear hown1 hgrow)
  go_end0
  obtain ⟨h1, h2⟩ := b'.out.stored (ownF_snoc hown1'.out) hgrow'.out (by
      rcases hat with a | a
      · exact .inl (by rw [a]; rfl)
      · refine .inr fun g hg => ?_
        have : gg = g := by simpa [Value.ownBlock] using hg
        omega)
  exact ⟨rfl, gg, cap, h1, h2⟩
theorem cut (p g n cap k : Nat) (w : World) (z : Int) (hz : z = k) (hc : w.cell? ⟨p, 12, none⟩ = some (.slice (some ⟨g, 0, none⟩) n cap)) (hf : w.frozen? ⟨p, 12, none⟩ = false) (hk : k ≤ cap) :
    Calls Tryz.prog 144 #[.pointer (some ⟨p, 12, none⟩), .int .i64 z] w fun e w' => e = .returned (.tuple #[]) ∧ w' = w.setCell ⟨p, 12, none⟩ (.slice (some ⟨g, 0, none⟩) k cap) := by
  subst hz
  have hk' : (k : Int) ≤ (cap : Int) := by omega
  go_enter Tryz.func144, Tryz.ntmps144
  go_wp2_with fail
  go_end0
  exact ⟨rfl, rfl⟩
theorem Kp.setNew {p : Nat} {w u : World} {v v' : Value} (h : Kp p w u v v') {q j : Nat} (hq : w.heap.size ≤ q) (x : Value) : Kp p w (u.setCell ⟨q, j, none⟩ x) v v' :=
  ⟨h.os, h.tape, h.output, by rw [World.size_setCell]; exact h.size, fun k hk hp hne => (Below.heap_setCell _ _ _ _ (by show k ≠ q; omega)).trans (h.block k hk hp hne), h.lies⟩
theorem BW.other {w : World} {p : Nat} {F : Nat → Value} {h : Int} {v : Value} {st : List Fr} (b : BW w p F h v st) {q j : Nat} (hq : q ≠ p ∧ some q ≠ v.ownBlock) (x : Value) : BW (w.setCell ⟨q, j, none⟩ x) p F h v st := by
  refine ⟨b.box.of_block (Below.heap_setCell _ _ _ _ (Ne.symm hq.1)), b.own.1, ?_⟩
  rcases b.own.2 with h0 | ⟨g, cap, cur, hv, hg, hh, r⟩
  · exact .inl h0
  · exact .inr ⟨g, cap, cur, hv, hg, (Below.heap_setCell _ _ _ _ (fun e => hq.2 (by rw [hv, ← show g = q from e]; rfl))).trans hh, r⟩
theorem BW.popped {w : World} {p g n cap : Nat} {F : Nat → Value} {h : Int} {st : List Fr} (b : BW w p F h (.slice (some ⟨g, 0, none⟩) (n + 1) cap) st) : BW (w.setCell ⟨p, 12, none⟩ (.slice (some ⟨g, 0, none⟩) n cap)) p F h (.slice (some ⟨g, 0, none⟩) n cap) (st.take n) ∧ Kp p w (w.setCell ⟨p, 12, none⟩ (.slice (some ⟨g, 0, none⟩) n cap)) (.slice (some ⟨g, 0, none⟩) (n + 1) cap) (.slice (some ⟨g, 0, none⟩) n cap) := by
  have hn := b.len
  refine ⟨⟨(b.box.set 12 _).congr (fun j _ => ?_), ownsRow_setCell_below ?_ (by show p < p + 1; omega) _⟩, rfl, rfl, rfl, by simp, fun k _ hk _ => Below.heap_setCell _ _ _ _ hk, .inl rfl⟩
  · unfold bwC
    split
    · rename_i e; subst e; rfl
    · rfl
  · have ho := b.own
    rcases ho.2 with ⟨hv, _⟩ | ⟨g', cap', cur, hv, hg, hb, hn', hc, hs, ht⟩
    · cases hv
    · simp only [Value.slice.injEq, Option.some.injEq, Addr.mk.injEq, and_true] at hv
      obtain ⟨rfl, _, rfl⟩ := hv
      have hl : (st.take n).length = n := by rw [List.length_take]; omega
      refine ⟨by rw [cellsF_len], .inr ⟨g, cap, cur, by rw [hl], hg, hb, by omega, hc, hs, ?_⟩⟩
      have h4 : cellsF (st.take n) = (cellsF st).take (n * 4) := by
        have := cellsF_append (st.take n) (st.drop n)
        rw [List.take_append_drop] at this
        rw [this, List.take_left' (by rw [cellsF_len, hl])]
      rw [hl, h4, ← ht, List.take_take, Nat.min_eq_left (by omega)]
set_option maxRecDepth 20000 in
set_option maxHeartbeats 3200000 in
theorem pop (p g n cap : Nat) (w : World) (F : Nat → Value) (h : Int) (st : List Fr) (b : BW w p F h (.slice (some ⟨g, 0, none⟩) (n + 1) cap) st) (hl : n + 1 ≤ 1048576) :
    Calls Tryz.prog 127 #[.pointer (some ⟨p, 12, none⟩)] w fun e w' => e = .returned (.agg #[.int .i64 (st.getD n dF).op, .int .i64 (st.getD n dF).res, .int .i64 (st.getD n dF).base, .bool (st.getD n dF).dead]) ∧ BW w' p F h (.slice (some ⟨g, 0, none⟩) n cap) (st.take n) ∧ Kp p w w' (.slice (some ⟨g, 0, none⟩) (n + 1) cap) (.slice (some ⟨g, 0, none⟩) n cap) := by
  have hn := b.len
  have hlt := b.lt
  obtain ⟨g', cap', hv, hpg, hgw, hcap⟩ := b.form (by omega)
  simp only [Value.slice.injEq, Option.some.injEq, Addr.mk.injEq, and_true] at hv
  obtain ⟨rfl, hq, rfl⟩ := hv
  rw [← hn] at hcap
  clear hq
  obtain ⟨c0, c1, c2, c3⟩ := b.cells n (by omega)
  have b' : Hid (BW w p F h (.slice (some ⟨g, 0, none⟩) (n + 1) cap) st) := b
  have k : Hid (∀ u : World, u.cell? ⟨p, 12, none⟩ = some (.slice (some ⟨g, 0, none⟩) (n + 1) cap) → Calls Tryz.prog 123 #[.pointer (some ⟨p, 12, none⟩), .int .i64 0] u fun e w' => e = .returned (.pointer (some ⟨g, n * 4, none⟩)) ∧ ∃ m, w' = u.drewN m) := fun u hu => fromTop p g n 0 cap u hu hl
  have hp := b.pile
  clear b hn
  generalize st.getD n dF = f at *
  obtain ⟨fo, fr, fb, fd⟩ := f
  dsimp only at *
  have hpa : Hid ((w.alloc (.cells #[.int .i64 0, .int .i64 0, .int .i64 0, .bool false] 172)).cell? ⟨p, 12, none⟩ = some (.slice (some ⟨g, 0, none⟩) (n + 1) cap)) := (b'.out.alloc _).pile
  have kz : Hid (∀ u : World, u.cell? ⟨p, 12, none⟩ = some (.slice (some ⟨g, 0, none⟩) (n + 1) cap) → Calls Tryz.prog 140 #[.pointer (some ⟨p, 12, none⟩)] u fun e w' => e = .returned (.int .i64 ((n + 1 : Nat) : Int)) ∧ u = w') := fun u hu => size p g (n + 1) cap u hu
  have kc : Hid (∀ (u : World) (z : Int), z = n → u.cell? ⟨p, 12, none⟩ = some (.slice (some ⟨g, 0, none⟩) (n + 1) cap) → u.frozen? ⟨p, 12, none⟩ = false → Calls Tryz.prog 144 #[.pointer (some ⟨p, 12, none⟩), .int .i64 z] u fun e w' => e = .returned (.tuple #[]) ∧ w' = u.setCell ⟨p, 12, none⟩ (.slice (some ⟨g, 0, none⟩) n cap)) := fun u z hz hu hf => cut p g (n + 1) cap n u z hz hu hf (by omega)
  go_enter Tryz.func127, Tryz.ntmps127
  go_wp2_with (first | (go_at_call 123; refine (k.out _ hpa.out).mono ?_; rintro e w1 ⟨rfl, m, rfl⟩; clear k) | (go_at_call 140; refine (kz.out _ (((b'.out.alloc _).drewN m).alloc _).pile).mono ?_; rintro e w2 ⟨rfl, rfl⟩; clear kz) | (go_at_call 144; refine (kc.out _ _ (by omega) (((b'.out.alloc _).drewN m).alloc _).pile ((((b'.out.alloc _).drewN m).alloc _).frozen 12)).mono ?_; rintro e w2 ⟨rfl, rfl⟩; clear kc))
  have hq := b'.out.past (Nat.le_refl _)
  have hq' : w.heap.size ≠ p ∧ some w.heap.size ≠ (Value.slice (some ⟨g, 0, none⟩) n cap).ownBlock := hq
  obtain ⟨h1, h2⟩ := ((b'.out.alloc (.cells #[.int .i64 0, .int .i64 0, .int .i64 0, .bool false] 172)).drewN m).popped
  refine bodyPost_ret ?_ rfl ⟨rfl, ?_, ?_⟩
  · simp [results, go_sem]
  · exact (((((h1.other hq' _).other hq' _).other hq' _).other hq' _).alloc _)
  · exact (((((((Kp.alloc p w _ _).drewN m).trans h2).setNew (Nat.le_refl _) _).setNew (Nat.le_refl _) _).setNew (Nat.le_refl _) _).setNew (Nat.le_refl _) _).trans (Kp.alloc p _ _ _)
end Go.Proofs.YtdaffcbamnpjfaaGreatDoor.Piles
