/-
  The program's writer of bytes: a variable that holds bytes of its own, and what is written to it.
-/
import Derived.Test.YtffngjgjhialnaaGreatDoorImplApp
import Derived.Test.YtffngjgjhialnaaGreatDoorPlainBytes
namespace Go.Proofs.YtffngjgjhialnaaGreatDoor.ByteWr
open Go.RowKit PlainNum PlainLeb NumCalls ByteMem PutU ImplPut ImplApp PlainBytes

/-- The writer in block p holds v: the bytes bs, in a row that is newer than the writer. -/
structure Wr (p : Nat) (w : World) (v : Value) (bs : List UInt8) : Prop where
  box : Boxed w p 73 v
  own : PutU.Own (p + 1) w v bs
/-- It has been written to: all else lies as it lay. -/
structure WApp (p : Nat) (w w' : World) (v v' : Value) : Prop where
  os : w'.os = w.os
  tape : w'.tape = w.tape
  output : w'.output = w.output
  size : w.heap.size ≤ w'.heap.size
  block : ∀ k, k < w.heap.size → k ≠ p → some k ≠ v.ownBlock → w'.heap[k]? = w.heap[k]?
  lies : Lies w.heap.size v.ownBlock v'
theorem WApp.refl (p : Nat) (w : World) (v : Value) : WApp p w w v v := ⟨rfl, rfl, rfl, Nat.le_refl _, fun _ _ _ _ => rfl, .inl rfl⟩
theorem WApp.trans {p : Nat} {w w' w'' : World} {v v' v'' : Value} (h : WApp p w w' v v') (k : WApp p w' w'' v' v'') : WApp p w w'' v v'' := by
  refine ⟨k.os.trans h.os, k.tape.trans h.tape, k.output.trans h.output, Nat.le_trans h.size k.size, fun i hi hp hne => ?_, ?_⟩
  · refine (k.block i (Nat.lt_of_lt_of_le hi h.size) hp fun e => ?_).trans (h.block i hi hp hne)
    rcases h.lies with a | a
    · exact hne (e.trans a)
    · have := a i e.symm; omega
  · rcases k.lies with a | a
    · rcases h.lies with b | b
      · exact .inl (a.trans b)
      · exact .inr fun g hg => b g (a.symm.trans hg)
    · exact .inr fun g hg => Nat.le_trans h.size (a g hg)
theorem WApp.alloc (p : Nat) (w : World) (v : Value) (o : Obj) : WApp p w (w.alloc o) v v := ⟨rfl, rfl, rfl, by simp, fun k hk _ _ => Below.heap_alloc _ _ _ hk, .inl rfl⟩
theorem WApp.drew {p : Nat} {w w' : World} {v v' : Value} (h : WApp p w w' v v') : WApp p w w'.drew v v' := ⟨h.os, h.tape, h.output, h.size, h.block, h.lies⟩
theorem Wr.alloc {p : Nat} {w : World} {v : Value} {bs : List UInt8} (h : Wr p w v bs) (o : Obj) : Wr p (w.alloc o) v bs := ⟨h.box.alloc o, World.ownsRow.alloc h.own o⟩
theorem Wr.drew {p : Nat} {w : World} {v : Value} {bs : List UInt8} (h : Wr p w v bs) : Wr p w.drew v bs := ⟨h.box, h.own⟩
theorem Wr.not {p : Nat} {w : World} {v : Value} {bs : List UInt8} (h : Wr p w v bs) : some p ≠ v.ownBlock := fun e => by have := (World.ownsRow.lt h.own p e.symm).1; omega
theorem Wr.past {p : Nat} {w : World} {v : Value} {bs : List UInt8} (h : Wr p w v bs) {k : Nat} (hk : w.heap.size ≤ k) : k ≠ p ∧ some k ≠ v.ownBlock :=
  ⟨fun e => by have := h.box.lt; omega, fun e => by have := (World.ownsRow.lt h.own k e.symm).2; omega⟩
theorem WApp.below {p : Nat} {w w' : World} {v v' : Value} {bs : List UInt8} (h : WApp p w w' v v') (hw : Wr p w v bs) : Below p w w' :=
  ⟨h.os, h.tape, h.output, h.size, fun k hk => h.block k (by have := hw.box.lt; omega) (by omega) (fun e => by have := (World.ownsRow.lt hw.own k e.symm).1; omega)⟩
theorem WApp.cell {p : Nat} {w w' : World} {v v' : Value} (h : WApp p w w' v v') {q j : Nat} {x : Value} (hc : w.cell? ⟨q, j, none⟩ = some x) (hp : q ≠ p) (hne : some q ≠ v.ownBlock) : w'.cell? ⟨q, j, none⟩ = some x :=
  (World.cell?_of_block (a := ⟨q, j, none⟩) (h.block q (World.block_lt_of_cell? w _ hc) hp hne)).trans hc
/-- A block that is not the writer's own isn't later on. -/
theorem WApp.apart {p : Nat} {w w' : World} {v v' : Value} (h : WApp p w w' v v') {q : Nat} (hq : q < w.heap.size) (hne : some q ≠ v.ownBlock) : some q ≠ v'.ownBlock := fun e => by
  rcases h.lies with a | a
  · exact hne (e.trans a)
  · have := a q e.symm; omega
theorem own_pos {B : Nat} {w : World} {v : Value} {n : Nat} {xs : List Value} (h : w.ownsRow B 5 1 v n xs) (hn : n ≠ 0) : ∃ g cap, v = .slice (some ⟨g, 0, none⟩) n cap := by
  rcases h.2 with ⟨_, h0⟩ | ⟨g, cap, _, rfl, _⟩
  · exact absurd h0 hn
  · exact ⟨g, cap, rfl⟩
theorem own_join {B : Nat} {w : World} {v : Value} {bs b2 : List UInt8} (h : w.ownsRow B 5 1 v (bs.length + b2.length) (Lib.byteCells bs ++ Lib.byteCells b2)) : PutU.Own B w v (bs ++ b2) := by
  unfold PutU.Own
  rw [List.length_append, Lib.byteCells_append]
  exact h
/-- Behind an append and the store of what it gave. -/
theorem Wr.stored {p : Nat} {w w1 : World} {v v' : Value} {bs b2 : List UInt8} (h : Wr p w v bs) (ho : PutU.Own (p + 1) w1 v' b2) (ha : App w w1 v v') : Wr p (w1.setCell ⟨p, 0, none⟩ v') v' b2 ∧ WApp p w (w1.setCell ⟨p, 0, none⟩ v') v v' := by
  refine ⟨⟨(h.box.kept ha.grow h.not).set v', ownsRow_setCell_below ho (by show p < p + 1; omega) v'⟩, ha.grow.os, ha.grow.tape, ha.grow.output, ?_, fun k hk hp hne => ?_, ha.lies⟩
  · rw [World.size_setCell]; exact ha.grow.size
  · rw [Below.heap_setCell _ _ _ _ (by exact hp)]; exact ha.grow.block k hk hne
set_option maxHeartbeats 2000000 in
theorem put (p : Nat) (w : World) (v : Value) (bs b2 : List UInt8) (ad : Addr) (c : Nat) (hw : Wr p w v bs) (hl : bs.length + b2.length ≤ 134217728) (hne : b2 ≠ [])
    (hn : ∀ j u, (Lib.byteCells b2)[j]? = some u → w.cell? (ad.add j) = some u) :
    Calls Tryz.prog 39 #[.pointer (some ⟨p, 0, none⟩), .slice (some ad) b2.length c] w fun e w' => e = .returned (.tuple #[]) ∧ ∃ v', Wr p w' v' (bs ++ b2) ∧ WApp p w w' v v' := by
  obtain ⟨i0, hi, hz0, hz1, hz2⟩ := info_parts info5
  have hc := hw.box.cell
  have hlt := hw.box.lt
  have hw' : Hid (Wr p w v bs) := hw
  have hn' : Hid (∀ j u, (Lib.byteCells b2)[j]? = some u → w.cell? (ad.add j) = some u) := hn
  have hpos : b2.length ≠ 0 := fun e => hne (List.length_eq_zero_iff.1 e)
  clear hw hn hne
  go_enter Tryz.func39, Tryz.ntmps39
  go_wp2_with (at_builtin; refine wpList_append_own_at _ rfl _ _ 31 rfl (p + 1) 5 i0 (.int .u8 0) 1 1 Tryz.underlying31 hi hz0 hz1 hz2 rfl (by decide) v bs.length (Lib.byteCells bs) rfl hw'.out.own ad b2.length c (Lib.byteCells b2) rfl ?d1 ?d2 ?d3 ?d4 ?d5 ?d6 ?_)
  case d1 => rw [Lib.byteCells_length, Nat.mul_one]
  case d2 => exact hn'.out
  case d3 => exact Lib.byteCells_one b2
  case d4 => unfold maxLen; omega
  case d5 => omega
  case d6 => omega
  intro v' w1 hown0 hgrow0 _ hat0
  obtain ⟨g', cap', rfl⟩ := own_pos hown0 (by omega)
  have happ : Hid (App w w1 v (.slice (some ⟨g', 0, none⟩) (bs.length + b2.length) cap')) := ⟨hgrow0, by
    rcases hat0 with a | a
    · exact .inl a
    · exact .inr fun g hg => by rw [a] at hg; injection hg; omega⟩
  have hown : Hid (PutU.Own (p + 1) w1 (.slice (some ⟨g', 0, none⟩) (bs.length + b2.length) cap') (bs ++ b2)) := own_join hown0
  have hb1 := hw'.out.box.kept hgrow0 hw'.out.not
  have hc1 := hb1.cell
  have hf1 := hb1.frozen
  clear hown0 hgrow0 hat0 hb1
  go_wp2_with fail
  go_end0
  obtain ⟨h1, h2⟩ := hw'.out.stored hown.out happ.out
  exact ⟨rfl, _, h1, h2⟩
set_option maxHeartbeats 2000000 in
theorem signed (p : Nat) (w : World) (v : Value) (bs : List UInt8) (m : Int) (hw : Wr p w v bs) (hl : bs.length ≤ 67108864) :
    Calls Tryz.prog 132 #[.pointer (some ⟨p, 0, none⟩), .int .i64 m] w fun e w' => e = .returned (.tuple #[]) ∧ ∃ v', Wr p w' v' (bs ++ sv m) ∧ WApp p w w' v v' := by
  obtain ⟨a, cap, rfl⟩ := own_form hw.own
  have hc := hw.box.cell
  have hlt := hw.box.lt
  have hw' : Hid (Wr p w (.slice a bs.length cap) bs) := hw
  have hA : Hid (Calls Tryz.prog 147 #[.slice a bs.length cap, .int .i64 m] w fun e w' => ∃ v, e = .returned v ∧ PutU.Own (p + 1) w' v (bs ++ sleb 5 (wrap32 m)) ∧ App w w' (.slice a bs.length cap) v) := appendS a cap (p + 1) bs m w hw.own (by omega) hl
  clear hw
  go_enter Tryz.func132, Tryz.ntmps132
  go_wp2_with (go_at_call 147; refine hA.out.mono ?_; rintro e w1 ⟨v1, rfl, ho1, ha1⟩; obtain ⟨a1, cap1, rfl⟩ := own_form ho1; have hown : Hid (PutU.Own (p + 1) w1 (.slice a1 (bs ++ sleb 5 (wrap32 m)).length cap1) (bs ++ sleb 5 (wrap32 m))) := ho1; have happ : Hid (App w w1 (.slice a bs.length cap) (.slice a1 (bs ++ sleb 5 (wrap32 m)).length cap1)) := ha1; have hb1 := hw'.out.box.kept ha1.grow hw'.out.not; have hc1 := hb1.cell; have hf1 := hb1.frozen; clear ho1 ha1 hb1; generalize (bs ++ sleb 5 (wrap32 m)).length = N at *)
  go_end0
  obtain ⟨h1, h2⟩ := hw'.out.stored hown.out happ.out
  exact ⟨rfl, _, h1, h2⟩
end Go.Proofs.YtffngjgjhialnaaGreatDoor.ByteWr
