/-
  What the specification's l04Ins answers when it is called: an instruction's bytes behind bytes of one's own.
-/
import Derived.Test.YtffngjgjhialnaaGreatDoorPutS
import Derived.Test.YtffngjgjhialnaaGreatDoorPutULaw
import Derived.Test.YtffngjgjhialnaaGreatDoorPlainBytes
import Derived.Maps.AppendAt
namespace Go.Proofs.YtffngjgjhialnaaGreatDoor.SpecIns
open Go.RowKit PlainOps PlainNum PlainLeb NumCalls ByteMem PutU PutULaw InsCalls PlainBytes

theorem box_kept {w w' : World} {row : Option Nat} {g : Nat} {x y z : Value} (h : w.grownBy w' row) (hne : some g ≠ row) (c0 : w.cell? ⟨g, 0, none⟩ = some x) (c1 : w.cell? ⟨g, 1, none⟩ = some y) (c2 : w.cell? ⟨g, 2, none⟩ = some z) :
    w'.cell? ⟨g, 0, none⟩ = some x ∧ w'.cell? ⟨g, 1, none⟩ = some y ∧ w'.cell? ⟨g, 2, none⟩ = some z :=
  ⟨h.cell c0 hne, h.cell c1 hne, h.cell c2 hne⟩
theorem own_mono {B B' : Nat} {w : World} {v : Value} {bs : List UInt8} (h : PutU.Own B w v bs) (hB : B' ≤ B) : PutU.Own B' w v bs := by
  refine ⟨h.1, ?_⟩
  rcases h.2 with h0 | ⟨g, cap, cur, hv, hg, r⟩
  · exact .inl h0
  · exact .inr ⟨g, cap, cur, hv, Nat.le_trans hB hg, r⟩
theorem own1 {B : Nat} {w : World} {v : Value} {bs : List UInt8} {u : UInt8} (h : w.ownsRow B 5 1 v (bs.length + 1) (Lib.byteCells bs ++ [.int .u8 (u.toNat : Int)])) : PutU.Own B w v (bs ++ [u]) := by
  unfold PutU.Own
  rw [List.length_append, List.length_singleton, Lib.byteCells_append]
  exact h
/-- A byte is appended to bytes of one's own. -/
theorem wp_app1 {ops : Array Oper} {rest : List Oper} {o : Oper} {a : Act} {Q : Exit → Act → World → Prop} {B : Nat} {w : World} {v : Value} {bs : List UInt8} (hg : o.guard = none) (s x : Operand)
    (ho : o.op = .call { callee := .builtin .append, args := #[s, x], argTypes := #[31, 31] }) (D : PutU.Own B w v bs) (hB : B ≤ w.heap.size) (u : UInt8) (hl : bs.length ≤ 134217728) (hs : a.eval s = v) (t : TypeId) (g : Nat) (hgs : g = w.heap.size)
    (hx : a.eval x = .slice (some ⟨g, 0, none⟩) 1 1)
    (h : ∀ g' cap' N w', N = (bs ++ [u]).length → PutU.Own B w' (.slice (some ⟨g', 0, none⟩) N cap') (bs ++ [u]) → (w.alloc (.cells #[.int .u8 (u.toNat : Int)] t)).grownBy w' v.ownBlock → wpList Tryz.prog ops Q rest (a.put o.dst (.slice (some ⟨g', 0, none⟩) N cap')) w') :
    wpList Tryz.prog ops Q (o :: rest) a (w.alloc (.cells #[.int .u8 (u.toNat : Int)] t)) := by
  obtain ⟨i0, hi, hz0, hz1, hz2⟩ := info_parts info5
  subst hgs
  refine wpList_append_own _ hg s x 31 ho B 5 i0 (.int .u8 0) 1 1 Tryz.underlying31 hi hz0 hz1 hz2 rfl (by decide) v bs.length (Lib.byteCells bs) hs (World.ownsRow.alloc D _) ⟨w.heap.size, 0, none⟩ 1 1 [.int .u8 (u.toNat : Int)] hx rfl (cell_one_new _ _ _) (by simp [Value.oneCell']) (by unfold maxLen; omega) (by omega) (by simp; omega) ?_
  intro v' w' hown hgrow _
  have ho' := own1 hown
  obtain ⟨g', cap', hv, _, _⟩ := own_blk ho' (by simp)
  subst hv
  exact h g' cap' _ w' rfl ho' hgrow
theorem wp_appc0 {ops : Array Oper} {rest : List Oper} {o : Oper} {a : Act} {Q : Exit → Act → World → Prop} {B : Nat} {w : World} {v : Value} {bs : List UInt8} (hg : o.guard = none) (s x : Operand)
    (ho : o.op = .call { callee := .builtin .append, args := #[s, x], argTypes := #[31, 31] }) (D : PutU.Own B w v bs) (hB : B ≤ w.heap.size) (hl : bs.length ≤ 134217728) (hs : a.eval s = v) (t : TypeId) (g : Nat) (hgs : g = w.heap.size)
    (hx : a.eval x = .slice (some ⟨g, 0, none⟩) 1 1)
    (h : ∀ g' cap' N w', N = (bs ++ [0]).length → PutU.Own B w' (.slice (some ⟨g', 0, none⟩) N cap') (bs ++ [0]) → (w.alloc (.cells #[.int .u8 0] t)).grownBy w' v.ownBlock → wpList Tryz.prog ops Q rest (a.put o.dst (.slice (some ⟨g', 0, none⟩) N cap')) w') :
    wpList Tryz.prog ops Q (o :: rest) a (w.alloc (.cells #[.int .u8 0] t)) := wp_app1 hg s x ho D hB 0 hl hs t g hgs hx h
theorem wp_appc127 {ops : Array Oper} {rest : List Oper} {o : Oper} {a : Act} {Q : Exit → Act → World → Prop} {B : Nat} {w : World} {v : Value} {bs : List UInt8} (hg : o.guard = none) (s x : Operand)
    (ho : o.op = .call { callee := .builtin .append, args := #[s, x], argTypes := #[31, 31] }) (D : PutU.Own B w v bs) (hB : B ≤ w.heap.size) (hl : bs.length ≤ 134217728) (hs : a.eval s = v) (t : TypeId) (g : Nat) (hgs : g = w.heap.size)
    (hx : a.eval x = .slice (some ⟨g, 0, none⟩) 1 1)
    (h : ∀ g' cap' N w', N = (bs ++ [127]).length → PutU.Own B w' (.slice (some ⟨g', 0, none⟩) N cap') (bs ++ [127]) → (w.alloc (.cells #[.int .u8 127] t)).grownBy w' v.ownBlock → wpList Tryz.prog ops Q rest (a.put o.dst (.slice (some ⟨g', 0, none⟩) N cap')) w') :
    wpList Tryz.prog ops Q (o :: rest) a (w.alloc (.cells #[.int .u8 127] t)) := wp_app1 hg s x ho D hB 127 hl hs t g hgs hx h
theorem wp_appc64 {ops : Array Oper} {rest : List Oper} {o : Oper} {a : Act} {Q : Exit → Act → World → Prop} {B : Nat} {w : World} {v : Value} {bs : List UInt8} (hg : o.guard = none) (s x : Operand)
    (ho : o.op = .call { callee := .builtin .append, args := #[s, x], argTypes := #[31, 31] }) (D : PutU.Own B w v bs) (hB : B ≤ w.heap.size) (hl : bs.length ≤ 134217728) (hs : a.eval s = v) (t : TypeId) (g : Nat) (hgs : g = w.heap.size)
    (hx : a.eval x = .slice (some ⟨g, 0, none⟩) 1 1)
    (h : ∀ g' cap' N w', N = (bs ++ [64]).length → PutU.Own B w' (.slice (some ⟨g', 0, none⟩) N cap') (bs ++ [64]) → (w.alloc (.cells #[.int .u8 64] t)).grownBy w' v.ownBlock → wpList Tryz.prog ops Q rest (a.put o.dst (.slice (some ⟨g', 0, none⟩) N cap')) w') :
    wpList Tryz.prog ops Q (o :: rest) a (w.alloc (.cells #[.int .u8 64] t)) := wp_app1 hg s x ho D hB 64 hl hs t g hgs hx h
theorem box3 {w w' : World} {g : Nat} {x y z : Value} (h : Below w.heap.size w w') (c0 : w.cell? ⟨g, 0, none⟩ = some x) (c1 : w.cell? ⟨g, 1, none⟩ = some y) (c2 : w.cell? ⟨g, 2, none⟩ = some z) :
    w'.cell? ⟨g, 0, none⟩ = some x ∧ w'.cell? ⟨g, 1, none⟩ = some y ∧ w'.cell? ⟨g, 2, none⟩ = some z := by
  have hs : g < w.heap.size := World.block_lt_of_cell? w _ c0
  exact ⟨by rw [h.cell hs]; exact c0, by rw [h.cell hs]; exact c1, by rw [h.cell hs]; exact c2⟩
theorem sbox {w w2 : World} {v : Value} {B : Nat} {bs : List UInt8} {x y z : Value} {t : TypeId} {o2 : Obj} (hw : PutU.Own B w v bs) (h : ((w.alloc (.cells #[x, y, z] t)).alloc o2).grownBy w2 v.ownBlock) :
    w2.cell? ⟨w.heap.size, 0, none⟩ = some x ∧ w2.cell? ⟨w.heap.size, 1, none⟩ = some y ∧ w2.cell? ⟨w.heap.size, 2, none⟩ = some z := by
  have hne : some w.heap.size ≠ v.ownBlock := fun e => by have := (World.ownsRow.lt hw _ e.symm).2; omega
  exact box_kept h hne (by simp) (by simp) (by simp)
theorem sbel {w w2 : World} {v : Value} {B : Nat} {bs : List UInt8} {o1 o2 : Obj} (hw : PutU.Own B w v bs) (hB : B ≤ w.heap.size) (h : ((w.alloc o1).alloc o2).grownBy w2 v.ownBlock) : Below B w w2 :=
  (((Below.refl _ _).alloc hB _).alloc (by simp; omega) _).grown h (by simp; omega) (fun k hk => (World.ownsRow.lt hw k hk).1)
theorem sbel1 {w w2 : World} {v : Value} {B : Nat} {bs : List UInt8} {o1 : Obj} (hw : PutU.Own B w v bs) (hB : B ≤ w.heap.size) (h : (w.alloc o1).grownBy w2 v.ownBlock) : Below B w w2 :=
  ((Below.refl _ _).alloc hB _).grown h (by simp; omega) (fun k hk => (World.ownsRow.lt hw k hk).1)
theorem own_below {B : Nat} {w w' : World} {v : Value} {bs : List UInt8} (h : PutU.Own B w v bs) (hb : Below w.heap.size w w') : PutU.Own B w' v bs := by
  refine ⟨h.1, ?_⟩
  rcases h.2 with h0 | ⟨g, cap, cur, hv, hg, hh, r⟩
  · exact .inl h0
  · exact .inr ⟨g, cap, cur, hv, hg, (hb.block g (Array.getElem?_eq_some_iff.1 hh).1).trans hh, r⟩
theorem own_rd {B : Nat} {w : World} {g cap : Nat} {bs : List UInt8} (h : PutU.Own B w (.slice (some ⟨g, 0, none⟩) bs.length cap) bs) : RdB w (some ⟨g, 0, none⟩) bs := by
  by_cases h0 : bs = []
  · subst h0
    exact ⟨fun j hj => by simp at hj, .inl rfl⟩
  · obtain ⟨g', cap', hv, _, hb⟩ := own_blk h h0
    simp only [Value.slice.injEq, Option.some.injEq, Addr.mk.injEq] at hv
    obtain ⟨⟨rfl, _⟩, _⟩ := hv
    exact hb.rd
theorem own_rd' {B : Nat} {w : World} {g cap N : Nat} {bs : List UInt8} (hN : N = bs.length) (h : PutU.Own B w (.slice (some ⟨g, 0, none⟩) N cap) bs) : RdB w (some ⟨g, 0, none⟩) bs := by
  subst hN
  exact own_rd h
theorem put_n {f : FuncId} {a : Option Addr} {N cap : Nat} {bs : List UInt8} {m : Value} {w : World} {Q : Ending → World → Prop} (hN : N = bs.length) (h : Calls Tryz.prog f #[.slice a bs.length cap, m] w Q) : Calls Tryz.prog f #[.slice a N cap, m] w Q := by
  rw [hN]
  exact h
theorem blk_n {B : Nat} {W : World} {v : Value} {bs : List UInt8} (h : PutU.Own B W v bs) (hne : bs ≠ []) : ∃ g cap N, v = .slice (some ⟨g, 0, none⟩) N cap ∧ Hid (N = bs.length) ∧ Blk W g bs := by
  obtain ⟨g, cap, hv, _, hb⟩ := own_blk h hne
  exact ⟨g, cap, _, hv, rfl, hb⟩
set_option maxHeartbeats 1000000 in
theorem spec_ins0 (B : Nat) (a : Option Addr) (cap : Nat) (bs : List UInt8) (o x1 x2 : Int) (w : World) (hw : PutU.Own B w (.slice a bs.length cap) bs) (hB : B ≤ w.heap.size) (hl : bs.length ≤ 67000000) (h : kd o = 0) :
    Calls Tryz.prog 122 #[.slice a bs.length cap, .agg #[.int .i64 o, .int .i64 x1, .int .i64 x2]] w fun e w' => ∃ v, e = .returned v ∧ PutU.Own B w' v (bs ++ insB o x1 x2) ∧ Below B w w' := by
  have hw0 : Hid (PutU.Own B w (.slice a bs.length cap) bs) := hw
  have hw1 : Hid (PutU.Own B (w.alloc (.cells #[.int .i64 o, .int .i64 x1, .int .i64 x2] 174)) (.slice a bs.length cap) bs) := World.ownsRow.alloc hw _
  have hB1 : B ≤ (w.alloc (.cells #[.int .i64 o, .int .i64 x1, .int .i64 x2] 174)).heap.size := by simp; omega
  have hu2 := (by1_is o).symm
  have hu1 : IntKind.u8.wrap o = ((by1 o).toNat : Int) := by rw [IntKind.wrap_u8]; exact hu2
  have hK : Hid _ := fun u => spec_kind o u
  change Hid (∀ u, Calls Tryz.prog 138 #[.int .i64 o] u fun e w' => e = .returned (.int .i64 (kd o)) ∧ u = w') at hK
  have s1 : ∀ c : UInt8, (bs ++ [c]).length ≤ 67000001 := fun c => by simp; omega
  clear hw
  rw [h] at hK
  by_cases h6 : o = 63 ∨ o = 64
  · have e1 : Hid (bs ++ insB o x1 x2 = bs ++ [by1 o] ++ [0]) := by show _ = _; rw [tail0 h h6, List.append_assoc]
    clear h
    have hbb : ((o == 63) = true) ∨ ((o == 63) = false ∧ (o == 64) = true) := by
      rcases h6 with e | e
      · exact .inl (by simp [e])
      · exact .inr ⟨by simp [e], by simp [e]⟩
    clear h6
    rcases hbb with hb1 | ⟨hb1, hb2⟩
    all_goals
      generalize by1 o = c at *
      go_enter Tryz.func122, Tryz.ntmps122
      go_wp2_with (first | (at_builtin; refine wp_app1 rfl _ _ rfl hw1.out hB1 c (by omega) rfl _ _ (by simp) rfl ?_; intro g2 cap2 N2 w2 hN2 o2 q2; obtain ⟨c0, c1, c2⟩ := sbox hw0.out q2; have b2 : Hid (Below B w w2) := sbel hw0.out hB q2; have o2' : Hid (PutU.Own B w2 (.slice (some ⟨g2, 0, none⟩) N2 cap2) (bs ++ [c])) := o2; have s2 := s1 c; have z2 := b2.out.size; have hN2' : Hid (N2 = (bs ++ [c]).length) := hN2; clear hw1 q2 o2 hN2) | (go_at_call 138; refine (hK.out _).mono ?_; rintro e w3 ⟨rfl, rfl⟩; clear hK) | (at_builtin; refine wp_appc0 rfl _ _ rfl o2'.out (Nat.le_trans hB z2) (by omega) rfl _ _ (by simp) rfl ?_; intro g4 cap4 N4 w4 hN4 o4 q4; clear hN4; have b4 : Hid (Below B w w4) := b2.out.trans (sbel1 o2'.out (Nat.le_trans hB z2) q4); have o4' : Hid (PutU.Own B w4 (.slice (some ⟨g4, 0, none⟩) N4 cap4) (bs ++ [c] ++ [0])) := o4; clear q4 o4))
      go_ret
      exact ⟨_, rfl, by rw [e1.out]; exact o4'.out, b4.out⟩
  · have e1 : Hid (bs ++ insB o x1 x2 = bs ++ [by1 o]) := by show _ = _; rw [tail0' h h6]
    have hb1 : (o == 63) = false := by simp; omega
    have hb2 : (o == 64) = false := by simp; omega
    clear h h6
    generalize by1 o = c at *
    go_enter Tryz.func122, Tryz.ntmps122
    go_wp2_with (first | (at_builtin; refine wp_app1 rfl _ _ rfl hw1.out hB1 c (by omega) rfl _ _ (by simp) rfl ?_; intro g2 cap2 N2 w2 hN2 o2 q2; obtain ⟨c0, c1, c2⟩ := sbox hw0.out q2; have b2 : Hid (Below B w w2) := sbel hw0.out hB q2; have o2' : Hid (PutU.Own B w2 (.slice (some ⟨g2, 0, none⟩) N2 cap2) (bs ++ [c])) := o2; have s2 := s1 c; have z2 := b2.out.size; have hN2' : Hid (N2 = (bs ++ [c]).length) := hN2; clear hw1 q2 o2 hN2) | (go_at_call 138; refine (hK.out _).mono ?_; rintro e w3 ⟨rfl, rfl⟩; clear hK))
    go_ret
    exact ⟨_, rfl, by rw [e1.out]; exact o2'.out, b2.out⟩
set_option maxHeartbeats 1000000 in
theorem spec_ins1 (B : Nat) (a : Option Addr) (cap : Nat) (bs : List UInt8) (o x1 x2 : Int) (w : World) (hw : PutU.Own B w (.slice a bs.length cap) bs) (hB : B ≤ w.heap.size) (hl : bs.length ≤ 67000000) (h : kd o = 1) :
    Calls Tryz.prog 122 #[.slice a bs.length cap, .agg #[.int .i64 o, .int .i64 x1, .int .i64 x2]] w fun e w' => ∃ v, e = .returned v ∧ PutU.Own B w' v (bs ++ insB o x1 x2) ∧ Below B w w' := by
  have hw0 : Hid (PutU.Own B w (.slice a bs.length cap) bs) := hw
  have hw1 : Hid (PutU.Own B (w.alloc (.cells #[.int .i64 o, .int .i64 x1, .int .i64 x2] 174)) (.slice a bs.length cap) bs) := World.ownsRow.alloc hw _
  have hB1 : B ≤ (w.alloc (.cells #[.int .i64 o, .int .i64 x1, .int .i64 x2] 174)).heap.size := by simp; omega
  have hu2 := (by1_is o).symm
  have hu1 : IntKind.u8.wrap o = ((by1 o).toNat : Int) := by rw [IntKind.wrap_u8]; exact hu2
  have hK : Hid _ := fun u => spec_kind o u
  change Hid (∀ u, Calls Tryz.prog 138 #[.int .i64 o] u fun e w' => e = .returned (.int .i64 (kd o)) ∧ u = w') at hK
  have s1 : ∀ c : UInt8, (bs ++ [c]).length ≤ 67000001 := fun c => by simp; omega
  clear hw
  rw [h] at hK
  by_cases h1 : x1 = 1
  · have e1 : Hid (bs ++ insB o x1 x2 = bs ++ [by1 o] ++ [127]) := by show _ = _; rw [tail1 h h1, List.append_assoc]
    have hb1 : (x1 == 1) = true := by simp [h1]
    clear h h1
    generalize by1 o = c at *
    go_enter Tryz.func122, Tryz.ntmps122
    go_wp2_with (first | (at_builtin; refine wp_app1 rfl _ _ rfl hw1.out hB1 c (by omega) rfl _ _ (by simp) rfl ?_; intro g2 cap2 N2 w2 hN2 o2 q2; obtain ⟨c0, c1, c2⟩ := sbox hw0.out q2; have b2 : Hid (Below B w w2) := sbel hw0.out hB q2; have o2' : Hid (PutU.Own B w2 (.slice (some ⟨g2, 0, none⟩) N2 cap2) (bs ++ [c])) := o2; have s2 := s1 c; have z2 := b2.out.size; have hN2' : Hid (N2 = (bs ++ [c]).length) := hN2; clear hw1 q2 o2 hN2) | (go_at_call 138; refine (hK.out _).mono ?_; rintro e w3 ⟨rfl, rfl⟩; clear hK) | (at_builtin; refine wp_appc127 rfl _ _ rfl o2'.out (Nat.le_trans hB z2) (by omega) rfl _ _ (by simp) rfl ?_; intro g4 cap4 N4 w4 hN4 o4 q4; clear hN4; have b4 : Hid (Below B w w4) := b2.out.trans (sbel1 o2'.out (Nat.le_trans hB z2) q4); have o4' : Hid (PutU.Own B w4 (.slice (some ⟨g4, 0, none⟩) N4 cap4) (bs ++ [c] ++ [127])) := o4; clear q4 o4))
    go_ret
    exact ⟨_, rfl, by rw [e1.out]; exact o4'.out, b4.out⟩
  · have e1 : Hid (bs ++ insB o x1 x2 = bs ++ [by1 o] ++ [64]) := by show _ = _; rw [tail1' h h1, List.append_assoc]
    have hb1 : (x1 == 1) = false := by simp [h1]
    clear h h1
    generalize by1 o = c at *
    go_enter Tryz.func122, Tryz.ntmps122
    go_wp2_with (first | (at_builtin; refine wp_app1 rfl _ _ rfl hw1.out hB1 c (by omega) rfl _ _ (by simp) rfl ?_; intro g2 cap2 N2 w2 hN2 o2 q2; obtain ⟨c0, c1, c2⟩ := sbox hw0.out q2; have b2 : Hid (Below B w w2) := sbel hw0.out hB q2; have o2' : Hid (PutU.Own B w2 (.slice (some ⟨g2, 0, none⟩) N2 cap2) (bs ++ [c])) := o2; have s2 := s1 c; have z2 := b2.out.size; have hN2' : Hid (N2 = (bs ++ [c]).length) := hN2; clear hw1 q2 o2 hN2) | (go_at_call 138; refine (hK.out _).mono ?_; rintro e w3 ⟨rfl, rfl⟩; clear hK) | (at_builtin; refine wp_appc64 rfl _ _ rfl o2'.out (Nat.le_trans hB z2) (by omega) rfl _ _ (by simp) rfl ?_; intro g4 cap4 N4 w4 hN4 o4 q4; clear hN4; have b4 : Hid (Below B w w4) := b2.out.trans (sbel1 o2'.out (Nat.le_trans hB z2) q4); have o4' : Hid (PutU.Own B w4 (.slice (some ⟨g4, 0, none⟩) N4 cap4) (bs ++ [c] ++ [64])) := o4; clear q4 o4))
    go_ret
    exact ⟨_, rfl, by rw [e1.out]; exact o4'.out, b4.out⟩
set_option maxHeartbeats 1000000 in
theorem spec_ins2 (B : Nat) (a : Option Addr) (cap : Nat) (bs : List UInt8) (o x1 x2 : Int) (w : World) (hw : PutU.Own B w (.slice a bs.length cap) bs) (hB : B ≤ w.heap.size) (hl : bs.length ≤ 67000000) (h : kd o = 2) :
    Calls Tryz.prog 122 #[.slice a bs.length cap, .agg #[.int .i64 o, .int .i64 x1, .int .i64 x2]] w fun e w' => ∃ v, e = .returned v ∧ PutU.Own B w' v (bs ++ insB o x1 x2) ∧ Below B w w' := by
  have hw0 : Hid (PutU.Own B w (.slice a bs.length cap) bs) := hw
  have hw1 : Hid (PutU.Own B (w.alloc (.cells #[.int .i64 o, .int .i64 x1, .int .i64 x2] 174)) (.slice a bs.length cap) bs) := World.ownsRow.alloc hw _
  have hB1 : B ≤ (w.alloc (.cells #[.int .i64 o, .int .i64 x1, .int .i64 x2] 174)).heap.size := by simp; omega
  have hu2 := (by1_is o).symm
  have hu1 : IntKind.u8.wrap o = ((by1 o).toNat : Int) := by rw [IntKind.wrap_u8]; exact hu2
  have hK : Hid _ := fun u => spec_kind o u
  change Hid (∀ u, Calls Tryz.prog 138 #[.int .i64 o] u fun e w' => e = .returned (.int .i64 (kd o)) ∧ u = w') at hK
  have s1 : ∀ c : UInt8, (bs ++ [c]).length ≤ 67000001 := fun c => by simp; omega
  clear hw
  have e1 : Hid (bs ++ insB o x1 x2 = bs ++ [by1 o] ++ uv x1) := by show _ = _; rw [tail2 h, List.append_assoc]
  rw [h] at hK
  clear h
  generalize by1 o = c at *
  go_enter Tryz.func122, Tryz.ntmps122
  go_wp2_with (first | (at_builtin; refine wp_app1 rfl _ _ rfl hw1.out hB1 c (by omega) rfl _ _ (by simp) rfl ?_; intro g2 cap2 N2 w2 hN2 o2 q2; obtain ⟨c0, c1, c2⟩ := sbox hw0.out q2; have b2 : Hid (Below B w w2) := sbel hw0.out hB q2; have o2' : Hid (PutU.Own B w2 (.slice (some ⟨g2, 0, none⟩) N2 cap2) (bs ++ [c])) := o2; have s2 := s1 c; have z2 := b2.out.size; have hN2' : Hid (N2 = (bs ++ [c]).length) := hN2; clear hw1 q2 o2 hN2; have hp : Hid (Calls Tryz.prog 76 #[.slice (some ⟨g2, 0, none⟩) N2 cap2, .int .i64 x1] w2 fun e w' => ∃ v, e = .returned v ∧ PutU.Own w2.heap.size w' v (bs ++ [c] ++ uv x1) ∧ Below w2.heap.size w2 w') := put_n hN2'.out (spec_putU w2 ⟨g2, 0, none⟩ cap2 (bs ++ [c]) x1 (own_rd' hN2'.out o2'.out) (by omega))) | (go_at_call 138; refine (hK.out _).mono ?_; rintro e w3 ⟨rfl, rfl⟩; clear hK) | (go_at_call 76; refine hp.out.mono ?_; rintro e w4 ⟨v4, rfl, o4, b4⟩))
  go_ret
  exact ⟨_, rfl, by rw [e1.out]; exact own_mono o4 (Nat.le_trans hB z2), b2.out.trans (b4.mono (Nat.le_trans hB z2))⟩
set_option maxHeartbeats 1000000 in
theorem spec_ins3 (B : Nat) (a : Option Addr) (cap : Nat) (bs : List UInt8) (o x1 x2 : Int) (w : World) (hw : PutU.Own B w (.slice a bs.length cap) bs) (hB : B ≤ w.heap.size) (hl : bs.length ≤ 67000000) (h : kd o = 3) :
    Calls Tryz.prog 122 #[.slice a bs.length cap, .agg #[.int .i64 o, .int .i64 x1, .int .i64 x2]] w fun e w' => ∃ v, e = .returned v ∧ PutU.Own B w' v (bs ++ insB o x1 x2) ∧ Below B w w' := by
  have hw0 : Hid (PutU.Own B w (.slice a bs.length cap) bs) := hw
  have hw1 : Hid (PutU.Own B (w.alloc (.cells #[.int .i64 o, .int .i64 x1, .int .i64 x2] 174)) (.slice a bs.length cap) bs) := World.ownsRow.alloc hw _
  have hB1 : B ≤ (w.alloc (.cells #[.int .i64 o, .int .i64 x1, .int .i64 x2] 174)).heap.size := by simp; omega
  have hu2 := (by1_is o).symm
  have hu1 : IntKind.u8.wrap o = ((by1 o).toNat : Int) := by rw [IntKind.wrap_u8]; exact hu2
  have hK : Hid _ := fun u => spec_kind o u
  change Hid (∀ u, Calls Tryz.prog 138 #[.int .i64 o] u fun e w' => e = .returned (.int .i64 (kd o)) ∧ u = w') at hK
  have s1 : ∀ c : UInt8, (bs ++ [c]).length ≤ 67000001 := fun c => by simp; omega
  clear hw
  have e1 : Hid (bs ++ insB o x1 x2 = bs ++ [by1 o] ++ uv x2 ++ uv x1) := by show _ = _; rw [tail3 h, List.append_assoc, List.append_assoc, List.append_assoc]
  rw [h] at hK
  clear h
  generalize by1 o = c at *
  go_enter Tryz.func122, Tryz.ntmps122
  go_wp2_with (first | (at_builtin; refine wp_app1 rfl _ _ rfl hw1.out hB1 c (by omega) rfl _ _ (by simp) rfl ?_; intro g2 cap2 N2 w2 hN2 o2 q2; obtain ⟨c0, c1, c2⟩ := sbox hw0.out q2; have b2 : Hid (Below B w w2) := sbel hw0.out hB q2; have o2' : Hid (PutU.Own B w2 (.slice (some ⟨g2, 0, none⟩) N2 cap2) (bs ++ [c])) := o2; have s2 := s1 c; have z2 := b2.out.size; have hN2' : Hid (N2 = (bs ++ [c]).length) := hN2; clear hw1 q2 o2 hN2) | (go_at_call 138; refine (hK.out _).mono ?_; rintro e w3 ⟨rfl, rfl⟩; clear hK))
  have s4 : (bs ++ [c] ++ uv x2).length ≤ 67000020 := by have := uv_len x2; rw [List.length_append]; omega
  go_region_held (fun w' => w'.cell? ⟨w.heap.size, 0, none⟩ = some (.int .i64 o) ∧ w'.cell? ⟨w.heap.size, 1, none⟩ = some (.int .i64 x1) ∧ w'.cell? ⟨w.heap.size, 2, none⟩ = some (.int .i64 x2)) (go_keep)
    (first | (go_at_call_of 76 x2; refine (put_n hN2'.out (spec_putU w2.drew ⟨g2, 0, none⟩ cap2 (bs ++ [c]) x2 (own_rd' hN2'.out o2'.out) (by omega))).mono ?_; rintro e w4 ⟨v4, rfl, o4, b4⟩; obtain ⟨g4, cap4, N4, rfl, hN4, k4⟩ := blk_n o4 (by simp); obtain ⟨d0, d1, d2⟩ := box3 b4 c0 c1 c2) | (go_at_call_of 76 x1; refine (put_n hN4.out (spec_putU _ ⟨g4, 0, none⟩ _ (bs ++ [c] ++ uv x2) x1 k4.rd (by omega))).mono ?_; rintro e w5 ⟨v5, rfl, o5, b5⟩; obtain ⟨f0, f1, f2⟩ := box3 b5 d0 d1 d2))
  go_wp2_with fail
  go_ret
  exact ⟨_, rfl, by rw [e1.out]; exact own_mono o5 (by have := b4.size; simp at this; omega), (b2.out.drew.trans (b4.mono (by simp; omega))).trans (b5.mono (by have := b4.size; simp at this; omega))⟩
set_option maxHeartbeats 1000000 in
theorem spec_ins4 (B : Nat) (a : Option Addr) (cap : Nat) (bs : List UInt8) (o x1 x2 : Int) (w : World) (hw : PutU.Own B w (.slice a bs.length cap) bs) (hB : B ≤ w.heap.size) (hl : bs.length ≤ 67000000) (h : kd o = 4) :
    Calls Tryz.prog 122 #[.slice a bs.length cap, .agg #[.int .i64 o, .int .i64 x1, .int .i64 x2]] w fun e w' => ∃ v, e = .returned v ∧ PutU.Own B w' v (bs ++ insB o x1 x2) ∧ Below B w w' := by
  have hw0 : Hid (PutU.Own B w (.slice a bs.length cap) bs) := hw
  have hw1 : Hid (PutU.Own B (w.alloc (.cells #[.int .i64 o, .int .i64 x1, .int .i64 x2] 174)) (.slice a bs.length cap) bs) := World.ownsRow.alloc hw _
  have hB1 : B ≤ (w.alloc (.cells #[.int .i64 o, .int .i64 x1, .int .i64 x2] 174)).heap.size := by simp; omega
  have hu2 := (by1_is o).symm
  have hu1 : IntKind.u8.wrap o = ((by1 o).toNat : Int) := by rw [IntKind.wrap_u8]; exact hu2
  have hK : Hid _ := fun u => spec_kind o u
  change Hid (∀ u, Calls Tryz.prog 138 #[.int .i64 o] u fun e w' => e = .returned (.int .i64 (kd o)) ∧ u = w') at hK
  have s1 : ∀ c : UInt8, (bs ++ [c]).length ≤ 67000001 := fun c => by simp; omega
  clear hw
  have e1 : Hid (bs ++ insB o x1 x2 = bs ++ [by1 o] ++ sv x1) := by show _ = _; rw [tail4 h, List.append_assoc]
  rw [h] at hK
  clear h
  generalize by1 o = c at *
  go_enter Tryz.func122, Tryz.ntmps122
  go_wp2_with (first | (at_builtin; refine wp_app1 rfl _ _ rfl hw1.out hB1 c (by omega) rfl _ _ (by simp) rfl ?_; intro g2 cap2 N2 w2 hN2 o2 q2; obtain ⟨c0, c1, c2⟩ := sbox hw0.out q2; have b2 : Hid (Below B w w2) := sbel hw0.out hB q2; have o2' : Hid (PutU.Own B w2 (.slice (some ⟨g2, 0, none⟩) N2 cap2) (bs ++ [c])) := o2; have s2 := s1 c; have z2 := b2.out.size; have hN2' : Hid (N2 = (bs ++ [c]).length) := hN2; clear hw1 q2 o2 hN2; have hp : Hid (Calls Tryz.prog 79 #[.slice (some ⟨g2, 0, none⟩) N2 cap2, .int .i64 x1] w2 fun e w' => ∃ v, e = .returned v ∧ PutU.Own w2.heap.size w' v (bs ++ [c] ++ sv x1) ∧ Below w2.heap.size w2 w') := put_n hN2'.out (PutS.spec_putS w2 ⟨g2, 0, none⟩ cap2 (bs ++ [c]) x1 (own_rd' hN2'.out o2'.out) (by omega))) | (go_at_call 138; refine (hK.out _).mono ?_; rintro e w3 ⟨rfl, rfl⟩; clear hK) | (go_at_call 79; refine hp.out.mono ?_; rintro e w4 ⟨v4, rfl, o4, b4⟩))
  go_ret
  exact ⟨_, rfl, by rw [e1.out]; exact own_mono o4 (Nat.le_trans hB z2), b2.out.trans (b4.mono (Nat.le_trans hB z2))⟩
theorem spec_ins (B : Nat) (a : Option Addr) (cap : Nat) (bs : List UInt8) (o x1 x2 : Int) (w : World) (hw : PutU.Own B w (.slice a bs.length cap) bs) (hB : B ≤ w.heap.size) (hl : bs.length ≤ 67000000) :
    Calls Tryz.prog 122 #[.slice a bs.length cap, .agg #[.int .i64 o, .int .i64 x1, .int .i64 x2]] w fun e w' => ∃ v, e = .returned v ∧ PutU.Own B w' v (bs ++ insB o x1 x2) ∧ Below B w w' := by
  rcases kd_is o with h | h | h | h | h
  · exact spec_ins0 B a cap bs o x1 x2 w hw hB hl h
  · exact spec_ins1 B a cap bs o x1 x2 w hw hB hl h
  · exact spec_ins2 B a cap bs o x1 x2 w hw hB hl h
  · exact spec_ins3 B a cap bs o x1 x2 w hw hB hl h
  · exact spec_ins4 B a cap bs o x1 x2 w hw hB hl h
end Go.Proofs.YtffngjgjhialnaaGreatDoor.SpecIns
