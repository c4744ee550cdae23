/-
  What the program's textIns answers when it is called: one part of a body's text.
-/
import Derived.Test.YtjbhelcdakhjbaaDoorSpecTextC
import Derived.Test.YtjbhelcdakhjbaaDoorSplitCut
import Derived.Test.YtjbhelcdakhjbaaDoorBodyImpl
import Derived.Test.YtjbhelcdakhjbaaDoorImplRead
namespace Go.Proofs.YtjbhelcdakhjbaaDoor.TextIns
open Go.RowKit PlainOps NameCalls PlainNum NumCalls InsCalls InsImpl PlainShape PlainBody PlainRead PlainCut SpecTextB SpecTextC BodyImpl

/-- What the program's reading asks of the world: its tables, and what Go's library keeps. -/
structure Tb (w : World) : Prop where
  tab : Tab w
  pow : Pow w
  mx : ∃ m, w.cell? ⟨3, 0, none⟩ = some (.int .i64 m)
  e1 : ∃ v, w.cell? ⟨4, 0, none⟩ = some v ∧ (v = .nilIface ∨ ∃ te pe, v = .iface te pe)
  e2 : ∃ v, w.cell? ⟨5, 0, none⟩ = some v ∧ (v = .nilIface ∨ ∃ te pe, v = .iface te pe)
theorem Tb.later {w w' : World} (h : Tb w) (hb : Below w.heap.size w w') : Tb w' where
  tab := h.tab.later hb
  pow := pow_later h.pow hb
  mx := by obtain ⟨m, hm⟩ := h.mx; exact ⟨m, (hb.cell (World.block_lt_of_cell? w _ hm)).trans hm⟩
  e1 := by obtain ⟨m, hm, q⟩ := h.e1; exact ⟨m, (hb.cell (World.block_lt_of_cell? w _ hm)).trans hm, q⟩
  e2 := by obtain ⟨m, hm, q⟩ := h.e2; exact ⟨m, (hb.cell (World.block_lt_of_cell? w _ hm)).trans hm, q⟩
theorem text_num (t : List UInt8) (hl : t.length ≤ 1048576) (w : World) (h : Tb w) :
    Calls Tryd.prog 25 #[.string (tx t)] w fun e w' => e = .returned (.tuple #[.int .i64 (T t).1, .bool (T t).2]) ∧ Below w.heap.size w w' := by
  obtain ⟨v1, h1, q1⟩ := h.e1
  obtain ⟨v2, h2, q2⟩ := h.e2
  have := ImplRead.impl_textNum (tx t) (by rw [tx_len]; exact hl) v1 v2 w h.pow h1 q1 h2 q2
  rw [tx_l] at this
  exact this
theorem cells_map (l : List (List UInt8)) (w : World) (j : Nat) (hj : j < l.length) : (w.alloc (.cells ((l.map tx).map Value.string).toArray 9)).cell? ⟨w.heap.size, j, none⟩ = some (.string (tx (l.getD j []))) := by
  simp [List.getD, hj]
theorem split (t : List UInt8) (hl : t.length ≤ 1048576) (w : World) (h : Tb w) :
    Calls Tryd.prog 22 #[.string (tx t), .string ⟨#[32]⟩] w fun e w' => e = .returned (.slice (some ⟨w.heap.size, 0, none⟩) (cutL 32 t).length (cutL 32 t).length) ∧
      (∀ j, j < (cutL 32 t).length → w'.cell? ⟨w.heap.size, j, none⟩ = some (.string (tx ((cutL 32 t).getD j [])))) ∧ Below w.heap.size w w' := by
  obtain ⟨m, hm⟩ := h.mx
  have hc := SplitCut.count_cut 32 _ t (Nat.le_refl _)
  have hs := SplitCut.split_all 32 t
  refine (Tryd.strings_Split (tx t) (tx [32]) m w (by rw [tx_len]; omega) hm (by decide)).mono ?_
  rintro e w' ⟨rfl, rfl⟩
  rw [hs]
  have e2 : Lib.countB (tx t) (tx [32]) + 1 = (cutL 32 t).length := by omega
  rw [e2]
  exact ⟨rfl, fun j hj => cells_map _ w j hj, (Below.refl _ _).alloc (Nat.le_refl _) _⟩
theorem fC_two (k : Int) : fC k ≤ 2 := by unfold fC; (repeat' split) <;> omega
theorem part_cells {w w' : World} {x y z : Value} {t : TypeId} (h : Below (w.alloc (.cells #[x, y, z] t)).heap.size (w.alloc (.cells #[x, y, z] t)) w') :
    w'.cell? ⟨w.heap.size, 0, none⟩ = some x ∧ w'.cell? ⟨w.heap.size, 1, none⟩ = some y ∧ w'.cell? ⟨w.heap.size, 2, none⟩ = some z ∧ w'.frozen? ⟨w.heap.size, 0, none⟩ = false ∧ w'.frozen? ⟨w.heap.size, 1, none⟩ = false ∧ w'.frozen? ⟨w.heap.size, 2, none⟩ = false := by
  obtain ⟨a, b, c, d, e⟩ := keep3 h
  refine ⟨a, b, c, ?_, d, e⟩
  have hs : w.heap.size < (w.alloc (.cells #[x, y, z] t)).heap.size := by simp
  rw [h.frozen hs]; simp
/-- Three cells of a box, written anew. -/
theorem set3 {w : World} {b : Nat} {x y z : Value} (h0 : w.cell? ⟨b, 0, none⟩ = some x) (h1 : w.cell? ⟨b, 1, none⟩ = some y) (h2 : w.cell? ⟨b, 2, none⟩ = some z) (x' y' z' : Value) :
    (((w.setCell ⟨b, 0, none⟩ x').setCell ⟨b, 1, none⟩ y').setCell ⟨b, 2, none⟩ z').cell? ⟨b, 0, none⟩ = some x' ∧ (((w.setCell ⟨b, 0, none⟩ x').setCell ⟨b, 1, none⟩ y').setCell ⟨b, 2, none⟩ z').cell? ⟨b, 1, none⟩ = some y' ∧ (((w.setCell ⟨b, 0, none⟩ x').setCell ⟨b, 1, none⟩ y').setCell ⟨b, 2, none⟩ z').cell? ⟨b, 2, none⟩ = some z' := by
  have g1 : (w.setCell ⟨b, 0, none⟩ x').cell? ⟨b, 1, none⟩ = some y := by rw [World.cell?_setCell_other _ _ _ _ (by simp)]; exact h1
  have g2 : ((w.setCell ⟨b, 0, none⟩ x').setCell ⟨b, 1, none⟩ y').cell? ⟨b, 2, none⟩ = some z := by rw [World.cell?_setCell_other _ _ _ _ (by simp), World.cell?_setCell_other _ _ _ _ (by simp)]; exact h2
  refine ⟨?_, ?_, World.cell?_setCell_same _ _ _ g2⟩
  · rw [World.cell?_setCell_other _ _ _ _ (by simp), World.cell?_setCell_other _ _ _ _ (by simp)]; exact World.cell?_setCell_same _ _ _ h0
  · rw [World.cell?_setCell_other _ _ _ _ (by simp)]; exact World.cell?_setCell_same _ _ _ g1
theorem below3 {w u : World} {b : Nat} (h : Below w.heap.size w u) (hb : w.heap.size ≤ b) (x y z : Value) : Below w.heap.size w (((u.setCell ⟨b, 0, none⟩ x).setCell ⟨b, 1, none⟩ y).setCell ⟨b, 2, none⟩ z) :=
  ((h.setCell (p := ⟨b, 0, none⟩) hb x).setCell (p := ⟨b, 1, none⟩) hb y).setCell (p := ⟨b, 2, none⟩) hb z
set_option maxRecDepth 20000 in
set_option maxHeartbeats 4000000 in
/-- As many parts as no instruction of that name has. -/
theorem ins_miss (t : List UInt8) (Q : List (List UInt8)) (hQ : cutL 32 t = Q) (hl : t.length ≤ 1048576) (w : World) (hT : Tb w) (hne : 0 < Q.length) (hm : ¬ (Q.length : Int) - 1 = fC (kd (nmOp (tx (Q.getD 0 []))))) :
    Calls Tryd.prog 14 #[.string (tx t)] w fun e w' => e = .returned (.tuple #[.agg #[.int .i64 0, .int .i64 0, .int .i64 0], .bool false]) ∧ Below w.heap.size w w' := by
  have hsp : Hid _ := fun u => split t hl u
  rw [hQ] at hsp
  have hT' : Hid (Tb w) := hT
  have hqs : (Q.length : Int) ≤ 1048577 := by have := cut_count 32 t; rw [hQ] at this; omega
  have hno : Hid _ := fun (s : ByteArray) u => impl_nameOp s u
  have hfl : Hid _ := fun u => impl_fieldsOf (nmOp (tx (Q.getD 0 []))) u
  have hrc := run_count
  obtain ⟨q0, hq0⟩ : ∃ q, Q.getD 0 [] = q := ⟨_, rfl⟩
  rw [hq0] at hm hfl
  have hq0' : Hid (Q.getD 0 [] = q0) := hq0
  obtain ⟨X, hX⟩ : ∃ X, nmOp (tx q0) = X := ⟨_, rfl⟩
  rw [hX] at hm hfl
  have hX' : Hid (nmOp (tx q0) = X) := hX
  clear hq0
  obtain ⟨c, hc⟩ : ∃ c, fC (kd X) = c := ⟨_, rfl⟩
  rw [hc] at hm hfl
  have hm2 : decide ((Q.length : Int) - 1 = c) = false := decide_eq_false hm
  clear hT hX hc hQ
  go_enter Tryd.func14, Tryd.ntmps14
  go_wp2_with (first
    | (go_at_call 22; refine (hsp.out _ (hT'.out.later ((Below.refl _ _).alloc (Nat.le_refl _) _))).mono ?_; rintro e w1 ⟨rfl, c1, q1⟩; obtain ⟨a0, a1, a2, f0, f1, f2⟩ := part_cells q1; have b1 : Hid (Below w.heap.size w w1) := ((Below.refl _ _).alloc (Nat.le_refl _) _).trans (q1.mono (by simp)); have d0 := c1 0 hne; rw [World.size_alloc, hq0'.out] at d0; clear c1 q1 hsp)
    | (go_at_call 23; refine (hno.out _ _ (hT'.out.tab.later b1.out)).mono ?_; rw [hX'.out]; rintro e w2 ⟨rfl, rfl⟩)
    | (go_at_call 24; refine (hfl.out _).mono ?_; rintro e w3 ⟨rfl, q3⟩; have b3 : Hid (Below w.heap.size w w3) := b1.out.trans (q3.mono b1.out.size); have sz1 := World.block_lt_of_cell? w1 _ a0; have a0' := (q3.cell sz1).trans a0; have a1' := (q3.cell (p := ⟨w.heap.size, 1, none⟩) sz1).trans a1; have a2' := (q3.cell (p := ⟨w.heap.size, 2, none⟩) sz1).trans a2; have f0' := (q3.frozen (p := ⟨w.heap.size, 0, none⟩) sz1).trans f0; have f1' := (q3.frozen (p := ⟨w.heap.size, 1, none⟩) sz1).trans f1; have f2' := (q3.frozen (p := ⟨w.heap.size, 2, none⟩) sz1).trans f2; clear a0 a1 a2 f0 f1 f2 q3))
  obtain ⟨g0, g1, g2⟩ := set3 a0' a1' a2' (.int .i64 0) (.int .i64 0) (.int .i64 0)
  refine bodyPost_ret ?_ rfl ⟨rfl, below3 b3.out (Nat.le_refl _) _ _ _⟩
  generalize (((w3.setCell ⟨w.heap.size, 0, none⟩ (.int .i64 0)).setCell ⟨w.heap.size, 1, none⟩ (.int .i64 0)).setCell ⟨w.heap.size, 2, none⟩ (.int .i64 0)) = u at *
  simp [results, go_sem, g0, g1, g2]
/-- What lies in the two boxes when the last region is walked: the result's, and the instruction's. -/
structure LB (W : World) (b c : Nat) (x y z : Value) : Prop where
  r0 : W.cell? ⟨b, 0, none⟩ = some (.int .i64 0)
  r1 : W.cell? ⟨b, 1, none⟩ = some (.int .i64 0)
  r2 : W.cell? ⟨b, 2, none⟩ = some (.int .i64 0)
  g0 : W.frozen? ⟨b, 0, none⟩ = false
  g1 : W.frozen? ⟨b, 1, none⟩ = false
  g2 : W.frozen? ⟨b, 2, none⟩ = false
  x0 : W.cell? ⟨c, 0, none⟩ = some x
  x1 : W.cell? ⟨c, 1, none⟩ = some y
  x2 : W.cell? ⟨c, 2, none⟩ = some z
theorem LB.later {W W' : World} {b c : Nat} {x y z : Value} (h : LB W b c x y z) (q : Below W.heap.size W W') : LB W' b c x y z := by
  have hb := World.block_lt_of_cell? W _ h.r0
  have hc := World.block_lt_of_cell? W _ h.x0
  exact ⟨(q.cell hb).trans h.r0, (q.cell (p := ⟨b, 1, none⟩) hb).trans h.r1, (q.cell (p := ⟨b, 2, none⟩) hb).trans h.r2, (q.frozen (p := ⟨b, 0, none⟩) hb).trans h.g0, (q.frozen (p := ⟨b, 1, none⟩) hb).trans h.g1, (q.frozen (p := ⟨b, 2, none⟩) hb).trans h.g2, (q.cell hc).trans h.x0, (q.cell (p := ⟨c, 1, none⟩) hc).trans h.x1, (q.cell (p := ⟨c, 2, none⟩) hc).trans h.x2⟩
theorem LB.made {W : World} {b : Nat} {t : TypeId} (x y z : Value) (r0 : W.cell? ⟨b, 0, none⟩ = some (.int .i64 0)) (r1 : W.cell? ⟨b, 1, none⟩ = some (.int .i64 0)) (r2 : W.cell? ⟨b, 2, none⟩ = some (.int .i64 0)) (g0 : W.frozen? ⟨b, 0, none⟩ = false) (g1 : W.frozen? ⟨b, 1, none⟩ = false) (g2 : W.frozen? ⟨b, 2, none⟩ = false) :
    LB (W.alloc (.cells #[x, y, z] t)) b W.heap.size x y z := by
  have q : Below W.heap.size W (W.alloc (.cells #[x, y, z] t)) := (Below.refl _ _).alloc (Nat.le_refl _) _
  have hb := World.block_lt_of_cell? W _ r0
  exact ⟨(q.cell hb).trans r0, (q.cell (p := ⟨b, 1, none⟩) hb).trans r1, (q.cell (p := ⟨b, 2, none⟩) hb).trans r2, (q.frozen (p := ⟨b, 0, none⟩) hb).trans g0, (q.frozen (p := ⟨b, 1, none⟩) hb).trans g1, (q.frozen (p := ⟨b, 2, none⟩) hb).trans g2, by simp, by simp, by simp⟩
/-- The result's box. -/
structure RB (W : World) (b : Nat) : Prop where
  r0 : W.cell? ⟨b, 0, none⟩ = some (.int .i64 0)
  r1 : W.cell? ⟨b, 1, none⟩ = some (.int .i64 0)
  r2 : W.cell? ⟨b, 2, none⟩ = some (.int .i64 0)
  g0 : W.frozen? ⟨b, 0, none⟩ = false
  g1 : W.frozen? ⟨b, 1, none⟩ = false
  g2 : W.frozen? ⟨b, 2, none⟩ = false
theorem RB.lt {W : World} {b : Nat} (h : RB W b) : b < W.heap.size := World.block_lt_of_cell? W _ h.r0
theorem RB.first {w w' : World} {t : TypeId} (h : Below (w.alloc (.cells #[.int .i64 0, .int .i64 0, .int .i64 0] t)).heap.size (w.alloc (.cells #[.int .i64 0, .int .i64 0, .int .i64 0] t)) w') : RB w' w.heap.size := by
  obtain ⟨a, b, c, d, e, f⟩ := part_cells h
  exact ⟨a, b, c, d, e, f⟩
theorem RB.later {W W' : World} {b : Nat} (h : RB W b) (q : Below W.heap.size W W') : RB W' b :=
  ⟨(q.cell h.lt).trans h.r0, (q.cell (p := ⟨b, 1, none⟩) h.lt).trans h.r1, (q.cell (p := ⟨b, 2, none⟩) h.lt).trans h.r2, (q.frozen (p := ⟨b, 0, none⟩) h.lt).trans h.g0, (q.frozen (p := ⟨b, 1, none⟩) h.lt).trans h.g1, (q.frozen (p := ⟨b, 2, none⟩) h.lt).trans h.g2⟩
theorem RB.alloc {W : World} {b : Nat} (h : RB W b) (o : Obj) : RB (W.alloc o) b := h.later ((Below.refl _ _).alloc (Nat.le_refl _) _)
theorem RB.set {W : World} {b : Nat} (h : RB W b) (p : Addr) (v : Value) (hne : p.block ≠ b) : RB (W.setCell p v) b := by
  refine ⟨?_, ?_, ?_, ?_, ?_, ?_⟩
  · rw [World.cell?_setCell_far _ _ _ _ hne]; exact h.r0
  · rw [World.cell?_setCell_far _ _ _ _ hne]; exact h.r1
  · rw [World.cell?_setCell_far _ _ _ _ hne]; exact h.r2
  · rw [World.frozen?_setCell]; exact h.g0
  · rw [World.frozen?_setCell]; exact h.g1
  · rw [World.frozen?_setCell]; exact h.g2
theorem RB.lb {W : World} {b : Nat} (h : RB W b) (t : TypeId) (x y z : Value) : LB (W.alloc (.cells #[x, y, z] t)) b W.heap.size x y z := LB.made x y z h.r0 h.r1 h.r2 h.g0 h.g1 h.g2
/-- The numbers' box. -/
theorem own2 {w w' : World} {x y : Value} {t : TypeId} (h : Below (w.alloc (.cells #[x, y] t)).heap.size (w.alloc (.cells #[x, y] t)) w') :
    w'.cell? ⟨w.heap.size, 0, none⟩ = some x ∧ w'.cell? ⟨w.heap.size, 1, none⟩ = some y ∧ w'.frozen? ⟨w.heap.size, 0, none⟩ = false ∧ w'.frozen? ⟨w.heap.size, 1, none⟩ = false := by
  have hs : w.heap.size < (w.alloc (.cells #[x, y] t)).heap.size := by simp
  refine ⟨?_, ?_, ?_, ?_⟩ <;> first | (rw [h.cell hs]; simp; done) | (rw [h.frozen hs]; simp)
theorem set2 {w : World} {b : Nat} {x y : Value} (h0 : w.cell? ⟨b, 0, none⟩ = some x) (h1 : w.cell? ⟨b, 1, none⟩ = some y) (x' : Value) :
    (w.setCell ⟨b, 0, none⟩ x').cell? ⟨b, 0, none⟩ = some x' ∧ (w.setCell ⟨b, 0, none⟩ x').cell? ⟨b, 1, none⟩ = some y :=
  ⟨World.cell?_setCell_same _ _ _ h0, by rw [World.cell?_setCell_other _ _ _ _ (by simp)]; exact h1⟩
set_option maxRecDepth 20000 in
set_option maxHeartbeats 8000000 in
/-- A name alone. -/
theorem ins_one (t q0 : List UInt8) (hQ : cutL 32 t = [q0]) (hl : t.length ≤ 1048576) (w : World) (hT : Tb w) (hm : fC (kd (nmOp (tx q0))) = 0) :
    Calls Tryd.prog 14 #[.string (tx t)] w fun e w' => e = .returned (.tuple #[.agg #[.int .i64 (nmOp (tx q0)), .int .i64 0, .int .i64 0], .bool (insOk (nmOp (tx q0)) 0 0)]) ∧ Below w.heap.size w w' := by
  have hsp : Hid _ := fun u => split t hl u
  rw [hQ] at hsp
  have hT' : Hid (Tb w) := hT
  have hno : Hid _ := fun (s : ByteArray) u => impl_nameOp s u
  have hfl : Hid _ := fun u => impl_fieldsOf (nmOp (tx q0)) u
  have hrc := run_count
  obtain ⟨X, hX⟩ : ∃ X, nmOp (tx q0) = X := ⟨_, rfl⟩
  rw [hX] at hm hfl ⊢
  have hX' : Hid (nmOp (tx q0) = X) := hX
  rw [hm] at hfl
  have hio : Hid _ := fun u => impl_insOk X 0 0 u
  obtain ⟨R, hR⟩ : ∃ R, insOk X 0 0 = R := ⟨_, rfl⟩
  rw [hR] at hio ⊢
  clear hT hX hm hQ hR
  go_enter Tryd.func14, Tryd.ntmps14
  go_wp2_with (first
    | (go_at_call 22; refine (hsp.out _ (hT'.out.later ((Below.refl _ _).alloc (Nat.le_refl _) _))).mono ?_; rintro e w1 ⟨rfl, c1, q1⟩; obtain ⟨a0, a1, a2, f0, f1, f2⟩ := part_cells q1; have b1 : Hid (Below w.heap.size w w1) := ((Below.refl _ _).alloc (Nat.le_refl _) _).trans (q1.mono (by simp)); have d0 := c1 0 (by simp); rw [World.size_alloc] at d0; simp only [List.getD_cons_zero] at d0; clear c1 q1 hsp)
    | (go_at_call 23; refine (hno.out _ _ (hT'.out.tab.later b1.out)).mono ?_; rw [hX'.out]; rintro e w2 ⟨rfl, rfl⟩)
    | (go_at_call 24; refine (hfl.out _).mono ?_; rintro e w3 ⟨rfl, q3⟩; have b3 : Hid (Below w.heap.size w w3) := b1.out.trans (q3.mono b1.out.size); have sz1 := World.block_lt_of_cell? w1 _ a0; have sz3 := q3.size; have a0' := (q3.cell sz1).trans a0; have a1' := (q3.cell (p := ⟨w.heap.size, 1, none⟩) sz1).trans a1; have a2' := (q3.cell (p := ⟨w.heap.size, 2, none⟩) sz1).trans a2; have f0' := (q3.frozen (p := ⟨w.heap.size, 0, none⟩) sz1).trans f0; have f1' := (q3.frozen (p := ⟨w.heap.size, 1, none⟩) sz1).trans f1; have f2' := (q3.frozen (p := ⟨w.heap.size, 2, none⟩) sz1).trans f2; clear a0 a1 a2 f0 f1 f2 q3))
  refine wp_loop_rounds 1 ?_
  rw [rounds_succ]
  go_wp2_with fail
  have bo : Below w.heap.size w (w3.alloc (.cells #[.int .i64 0, .int .i64 0] 50)) := b3.out.alloc b3.out.size _
  have hal : Below w3.heap.size w3 (w3.alloc (.cells #[.int .i64 0, .int .i64 0] 50)) := (Below.refl _ _).alloc (Nat.le_refl _) _
  have hw3 : w.heap.size < w3.heap.size := by omega
  have lb := LB.made (t := 32) (.int .i64 X) (.int .i64 0) (.int .i64 0) ((hal.cell hw3).trans a0') ((hal.cell (p := ⟨w.heap.size, 1, none⟩) hw3).trans a1') ((hal.cell (p := ⟨w.heap.size, 2, none⟩) hw3).trans a2') ((hal.frozen (p := ⟨w.heap.size, 0, none⟩) hw3).trans f0') ((hal.frozen (p := ⟨w.heap.size, 1, none⟩) hw3).trans f1') ((hal.frozen (p := ⟨w.heap.size, 2, none⟩) hw3).trans f2')
  have bn : Below w.heap.size w ((w3.alloc (.cells #[.int .i64 0, .int .i64 0] 50)).alloc (.cells #[.int .i64 X, .int .i64 0, .int .i64 0] 32)) := bo.alloc bo.size _
  rw [World.size_alloc] at lb
  generalize ((w3.alloc (.cells #[.int .i64 0, .int .i64 0] 50)).alloc (.cells #[.int .i64 X, .int .i64 0, .int .i64 0] 32)) = Wn at *
  have lb' : Hid (LB Wn w.heap.size (w3.heap.size + 1) (.int .i64 X) (.int .i64 0) (.int .i64 0)) := lb
  have bn' : Hid (Below w.heap.size w Wn) := bn
  obtain ⟨r0, r1, r2, k0, k1, k2, x0, x1, x2⟩ := lb
  clear a0' a1' a2' f0' f1' f2' bo hal bn b3 d0
  go_region_with (go_at_call 26; refine (hio.out _ (hT'.out.tab.later bn'.out.drew)).mono ?_; rintro e w5 ⟨rfl, q5⟩; have b5 : Hid (Below w.heap.size w w5) := bn'.out.drew.trans (q5.mono bn'.out.size); obtain ⟨s0, s1, s2, _, _, _, _, _, _⟩ := lb'.out.later (((Below.refl _ _).drew).trans q5))
  all_goals
    go_wp2_with fail
    obtain ⟨g0, g1, g2⟩ := set3 s0 s1 s2 (.int .i64 X) (.int .i64 0) (.int .i64 0)
    refine bodyPost_ret ?_ rfl ⟨rfl, below3 b5.out (Nat.le_refl _) _ _ _⟩
    generalize (((w5.setCell ⟨w.heap.size, 0, none⟩ (.int .i64 X)).setCell ⟨w.heap.size, 1, none⟩ (.int .i64 0)).setCell ⟨w.heap.size, 2, none⟩ (.int .i64 0)) = u at *
    simp [results, go_sem, g0, g1, g2]
end Go.Proofs.YtjbhelcdakhjbaaDoor.TextIns
