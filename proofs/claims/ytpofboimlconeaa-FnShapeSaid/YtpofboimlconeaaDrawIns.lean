/-
  The drawing of one instruction.
-/
import Derived.Test.YtpofboimlconeaaDrawKeep
import Derived.Test.YtpofboimlconeaaInsCalls
import Derived.Test.YtpofboimlconeaaShapeCalls
namespace Go.Proofs.Ytpofboimlconeaa.DrawIns
open Go.RowKit PlainOps NameCalls PlainNum NumCalls Draws DrawKeep InsCalls PlainShape InsMem ShapeCalls
theorem spec_opsO (w : World) :
    Calls Try.prog 29 #[] w fun e w' => ∃ v, e = .returned v ∧ OwnS w.heap.size w' v ops24 ∧ v ≠ .slice none 0 0 ∧ Below w.heap.size w w' := by
  go_enter Try.func29, Try.ntmps29
  go_wp2_with fail
  go_ret
  have ho := World.ownsRow_lit (base := w.heap.size) (e := 3) (size := 1) w (ops24.map fun z => Value.int .i64 z).toArray 24 (Nat.le_refl _) (by decide) rfl
  exact ⟨_, rfl, ho, by simp, (Below.refl _ _).alloc (Nat.le_refl _) _⟩
theorem OwnS.form1 {B : Nat} {w : World} {v : Value} {st : List Int} (h : OwnS B w v st) (hn : v ≠ .slice none 0 0) : ∃ g cap, v = .slice (some ⟨g, 0, none⟩) st.length cap ∧ B ≤ g ∧ g < w.heap.size ∧ st.length ≤ cap := by
  rcases h.2 with ⟨h0, _⟩ | ⟨g, cap, cur, hv, hg, hb, hn', _, _, _⟩
  · exact absurd h0 hn
  · exact ⟨g, cap, hv, hg, (Array.getElem?_eq_some_iff.1 hb).1, hn'⟩
set_option maxHeartbeats 4000000 in
theorem spec_known (w : World) :
    Calls Try.prog 26 #[] w fun e w' => ∃ v zs, e = .returned v ∧ OwnS w.heap.size w' v zs ∧ v ≠ .slice none 0 0 ∧ zs.length = 52 ∧ Below w.heap.size w w' := by
  obtain ⟨i0, hi, hz0, hz1, hz2⟩ := info_parts info3
  go_enter Try.func26, Try.ntmps26
  go_wp2_with (go_at_call 29; refine (spec_opsO _).mono ?_; rintro e w1 ⟨v1, rfl, o1, n1, b1⟩)
  have o1' : Hid (OwnS w.heap.size w1 v1 ops24) := o1
  have b1' : Hid (Below w.heap.size w w1) := b1
  clear o1 b1
  go_loopw [1, 2] (fun vo vk wr => ∃ (k : Nat) (zs : List Int), k ≤ 10 ∧ vk = .int .i64 (70 + (k : Int)) ∧ zs.length = 24 + k ∧ OwnS w.heap.size wr vo zs ∧ vo ≠ .slice none 0 0 ∧ Below w.heap.size w wr) (fun _ vk _ => 80 - (intOf vk).toNat)
  case atStart => exact ⟨0, ops24, by omega, rfl, rfl, o1'.out, n1, b1'.out⟩
  case round =>
    obtain ⟨k, zs, hk, rfl, hzs, ho, hnn, hb⟩ := hrel
    have hsz := hb.size
    have ho' : Hid (OwnS w.heap.size wr _ zs) := ho
    have hb' : Hid (Below w.heap.size w wr) := hb
    obtain ⟨g, c, hv, hgB, hgw, hcap⟩ := OwnS.form1 ho hnn
    subst hv
    clear ho hb hnn o1' b1' n1
    by_cases hlt : k < 10
    · have hlt' : 70 + (k : Int) ≤ 79 := by omega
      go_wp2_with (at_builtin; refine wpList_append_own _ rfl _ _ 38 rfl w.heap.size 3 i0 (.int .i64 0) 1 8 Try.underlying38 hi hz0 hz1 hz2 rfl (by decide) _ _ _ rfl (World.ownsRow.alloc ho'.out _) ⟨wr.heap.size, 0, none⟩ 1 1 [Value.int .i64 (70 + (k : Int))] rfl rfl (cell_one_new _ _ _) ?c2 ?c3 ?c4 ?c5 ?_)
      case c2 => intro u hu; simp at hu; subst hu; rfl
      case c3 => unfold maxLen; omega
      case c4 => omega
      case c5 => simp; omega
      intro v' w2 hown1 hgrow hnil
      have hlt1 := World.ownsRow.lt ho'.out
      have hb1 : Hid (Below w.heap.size w w2) := (hb'.out.alloc hsz _).grown hgrow (by simp; omega) (fun k hk => (hlt1 k hk).1)
      have own2 : Hid (OwnS w.heap.size w2 v' (zs ++ [70 + (k : Int)])) := own_snoc (by first | exact hown1 | (rw [hzs]; exact hown1))
      have hnn : Hid (v' ≠ .slice none 0 0) := by first | exact fun e => hnil e | exact fun e => by have := (hnil.1 e).1; cases this
      clear hown1 hgrow hlt1 hnil
      go_wp2_with fail
      go_roundw
      case rel => exact ⟨k + 1, zs ++ [70 + (k : Int)], by omega, by go_num, by rw [List.length_append, List.length_singleton]; omega, own2.out, hnn.out, hb1.out⟩
      case measure => simp [intOf]; omega
    · obtain rfl : k = 10 := by omega
      go_wp2_with fail
      try simp only [show (70 : Int) + ((10 : Nat) : Int) = 80 from rfl]
      go_loopw [1, 3] (fun vo vk wr => ∃ (k : Nat) (zs : List Int), k ≤ 18 ∧ vk = .int .i64 (103 + (k : Int)) ∧ zs.length = 34 + k ∧ OwnS w.heap.size wr vo zs ∧ vo ≠ .slice none 0 0 ∧ Below w.heap.size w wr) (fun _ vk _ => 121 - (intOf vk).toNat)
      case atStart => exact ⟨0, zs, by omega, rfl, by omega, ho'.out, by simp, hb'.out⟩
      case round =>
        clear ho' hb' hsz hzs hgB hgw hcap
        obtain ⟨k, zs, hk, rfl, hzs, ho, hnn, hb⟩ := hrel
        have hsz := hb.size
        have ho' : Hid (OwnS w.heap.size _ _ zs) := ho
        have hb' : Hid (Below w.heap.size w _) := hb
        obtain ⟨g, c, hv, hgB, hgw, hcap⟩ := OwnS.form1 ho hnn
        subst hv
        clear ho hb hnn
        by_cases hlt2 : k < 18
        · have hlt' : 103 + (k : Int) ≤ 120 := by omega
          go_wp2_with (at_builtin; refine wpList_append_own _ rfl _ _ 38 rfl w.heap.size 3 i0 (.int .i64 0) 1 8 Try.underlying38 hi hz0 hz1 hz2 rfl (by decide) _ _ _ rfl (World.ownsRow.alloc ho'.out _) ⟨wr.heap.size, 0, none⟩ 1 1 [Value.int .i64 (103 + (k : Int))] rfl rfl (cell_one_new _ _ _) ?c2 ?c3 ?c4 ?c5 ?_)
          case c2 => intro u hu; simp at hu; subst hu; rfl
          case c3 => unfold maxLen; omega
          case c4 => omega
          case c5 => simp; omega
          intro v' w2 hown1 hgrow hnil
          have hlt1 := World.ownsRow.lt ho'.out
          have hb1 : Hid (Below w.heap.size w w2) := (hb'.out.alloc hsz _).grown hgrow (by simp; omega) (fun k hk => (hlt1 k hk).1)
          have own2 : Hid (OwnS w.heap.size w2 v' (zs ++ [103 + (k : Int)])) := own_snoc (by first | exact hown1 | (rw [hzs]; exact hown1))
          have hnn : Hid (v' ≠ .slice none 0 0) := by first | exact fun e => hnil e | exact fun e => by have := (hnil.1 e).1; cases this
          clear hown1 hgrow hlt1 hnil
          go_wp2_with fail
          go_roundw
          case rel => exact ⟨k + 1, zs ++ [103 + (k : Int)], by omega, by go_num, by rw [List.length_append, List.length_singleton]; omega, own2.out, hnn.out, hb1.out⟩
          case measure => simp [intOf]; omega
        · obtain rfl : k = 18 := by omega
          go_wp2_with fail
          go_ret
          exact ⟨_, zs, rfl, ho'.out, by simp, hzs, hb'.out⟩
def I3row (o a b : Int) (j : Nat) : Value := .int .i64 (if j = 0 then o else if j = 1 then a else b)
theorem row3_made (w : World) (o a b : Int) : (w.alloc (.cells #[.int .i64 o, .int .i64 a, .int .i64 b] 27)).rowIs w.heap.size 27 3 (I3row o a b) :=
  World.rowIs_alloc w #[.int .i64 o, .int .i64 a, .int .i64 b] 27 _ (fun i hi => by
    match i, hi with
    | 0, _ => rfl
    | 1, _ => rfl
    | 2, _ => rfl)
theorem row_grown {w w' : World} {r : Option Nat} {b n : Nat} {t : TypeId} {f : Nat → Value} (h : w.rowIs b t n f) (hg : w.grownBy w' r) (hne : r ≠ some b) : w'.rowIs b t n f := h.of_block (hg.block b h.lt (fun e => hne e.symm))
theorem row3 {w : World} {b : Nat} {o a c : Int} (h : w.rowIs b 27 3 (I3row o a c)) :
    w.cell? ⟨b, 0, none⟩ = some (.int .i64 o) ∧ w.cell? ⟨b, 1, none⟩ = some (.int .i64 a) ∧ w.cell? ⟨b, 2, none⟩ = some (.int .i64 c) ∧ w.frozen? ⟨b, 0, none⟩ = false ∧ w.frozen? ⟨b, 1, none⟩ = false ∧ w.frozen? ⟨b, 2, none⟩ = false :=
  ⟨h.cell (by omega), h.cell (by omega), h.cell (by omega), h.frozen _, h.frozen _, h.frozen _⟩
theorem set3 {w : World} {r : Nat} {f : Nat → Value} (h : w.rowIs r 27 3 f) (o a b : Int) :
    (((w.setCell ⟨r, 0, none⟩ (.int .i64 o)).setCell ⟨r, 1, none⟩ (.int .i64 a)).setCell ⟨r, 2, none⟩ (.int .i64 b)).cell? ⟨r, 0, none⟩ = some (.int .i64 o) ∧
    (((w.setCell ⟨r, 0, none⟩ (.int .i64 o)).setCell ⟨r, 1, none⟩ (.int .i64 a)).setCell ⟨r, 2, none⟩ (.int .i64 b)).cell? ⟨r, 1, none⟩ = some (.int .i64 a) ∧
    (((w.setCell ⟨r, 0, none⟩ (.int .i64 o)).setCell ⟨r, 1, none⟩ (.int .i64 a)).setCell ⟨r, 2, none⟩ (.int .i64 b)).cell? ⟨r, 2, none⟩ = some (.int .i64 b) := by
  have h3 := ((h.set 0 (.int .i64 o)).set 1 (.int .i64 a)).set 2 (.int .i64 b)
  refine ⟨?_, ?_, ?_⟩ <;> rw [h3.cell (by omega)] <;> simp
theorem below3 {n r : Nat} {w : World} (hr : n ≤ r) (o a b : Value) : Below n w (((w.setCell ⟨r, 0, none⟩ o).setCell ⟨r, 1, none⟩ a).setCell ⟨r, 2, none⟩ b) :=
  (((Below.refl n w).setCell (p := ⟨r, 0, none⟩) hr o).setCell (p := ⟨r, 1, none⟩) hr a).setCell (p := ⟨r, 2, none⟩) hr b
theorem OwnS.grown {B blk : Nat} {w w' : World} {v : Value} {st : List Int} (h : OwnS B w v st) (hg : w.grownBy w' (some blk)) (hb : blk < B) : OwnS B w' v st :=
  World.ownsRow.kept h hg (by
    rcases h.2 with ⟨e, _⟩ | ⟨g, cap, cur, e, hg, _⟩
    · exact .inl (by rw [e]; rfl)
    · exact .inr (fun e' => by rw [e] at e'; simp [Value.ownBlock] at e'; omega))
set_option maxHeartbeats 8000000 in
theorem insK {B blk : Nat} {w0 w : World} (h : St B w0 blk w) :
    Calls Try.prog 23 #[.pointer (some ⟨blk, 0, none⟩)] w fun e w' => ∃ o a b : Int, e = .returned (.agg #[.int .i64 o, .int .i64 a, .int .i64 b]) ∧ StK B w0 blk w w' := by
  have hlt := cur_lt h.1
  have h' : Hid (St B w0 blk w) := h
  clear h
  go_enter Try.func23, Try.ntmps23
  go_wp2_with (first | (go_at_call 26; refine (spec_known _).mono ?_; rintro e w1 ⟨v1, zs, rfl, o1, n1, hz, b1⟩; obtain ⟨g, c, rfl, hgB, hgw, hcap⟩ := OwnS.form1 o1 n1))
  have s1 : StK B w0 blk w w1 := stk_past ⟨h'.out, World.grownBy.refl _ _⟩ hlt (box_below b1)
  have r1 := row_later (row3_made w 0 0 0) b1
  have sz1 := b1.size
  simp only [World.size_alloc] at hgB sz1
  have o1' : Hid (OwnS (w.alloc (.cells #[.int .i64 0, .int .i64 0, .int .i64 0] 27)).heap.size w1 (.slice (some ⟨g, 0, none⟩) zs.length c) zs) := o1
  have r1' : Hid (w1.rowIs w.heap.size 27 3 (I3row 0 0 0)) := r1
  clear o1 r1
  go_wp2_with (go_at_call 21; refine (belowK (B := B) (blk := blk) (w0 := w0) (w1 := w1) _ ⟨s1.1, World.grownBy.refl _ _⟩).mono ?_; rintro e w2 ⟨x, rfl, x0, x1, t2⟩; replace x1 := x1 (by decide); have cz := OwnS.cell (OwnS.grown o1'.out t2.2 (by simp; omega)) x.toNat (by omega); have r2 : Hid (w2.rowIs w.heap.size 27 3 (I3row 0 0 0)) := row_grown r1'.out t2.2 (by simp; omega); have s2 : StK B w0 blk w w2 := ⟨t2.1, grow_trans s1.2 t2.2⟩; generalize zs.getD x.toNat 0 = z at cz; have hk : Hid (∀ u, Calls Try.prog 27 #[.int .i64 z] u fun e w' => e = .returned (.int .i64 (kd z)) ∧ u = w') := fun u => spec_kind z u; have hkk := kd_is z; generalize kd z = K at hk hkk)
  have sz2 := t2.2.size
  have ri : Hid ((w2.alloc (.cells #[.int .i64 z, .int .i64 0, .int .i64 0] 27)).rowIs w2.heap.size 27 3 (I3row z 0 0)) := row3_made w2 z 0 0
  have rr : Hid ((w2.alloc (.cells #[.int .i64 z, .int .i64 0, .int .i64 0] 27)).rowIs w.heap.size 27 3 (I3row 0 0 0)) := r2.out.alloc _
  have s3 : StK B w0 blk w (w2.alloc (.cells #[.int .i64 z, .int .i64 0, .int .i64 0] 27)) := stk_past s2 hlt ((Below.refl _ _).alloc (by omega) _)
  have hbi : w.heap.size < w2.heap.size := by omega
  generalize w2.alloc (.cells #[.int .i64 z, .int .i64 0, .int .i64 0] 27) = w3 at *
  generalize w2.heap.size = bi at *
  have nb : ¬ bi = w.heap.size := by omega
  clear cz r2 s2 r1' o1' s1 t2 b1 hgw hcap n1 hgB sz1 sz2 hz
  rcases hkk with rfl | rfl | rfl | rfl | rfl
  · obtain ⟨i0, i1, i2, j0, j1, j2⟩ := row3 ri.out
    obtain ⟨q0, q1, q2, p0, p1, p2⟩ := row3 rr.out
    go_wp2_with (go_at_call 27; refine (hk.out _).mono ?_; rintro e w' ⟨rfl, rfl⟩)
    obtain ⟨e0, e1, e2⟩ := set3 rr.out z 0 0
    refine bodyPost_ret ?_ rfl ⟨z, 0, 0, rfl, stk_past s3 hlt (below3 (Nat.le_refl _) _ _ _)⟩
    simp [results, go_sem, e0, e1, e2]
  · obtain ⟨i0, i1, i2, j0, j1, j2⟩ := row3 ri.out
    go_wp2_with (first | (go_at_call 27; refine (hk.out _).mono ?_; rintro e w' ⟨rfl, rfl⟩) | (go_at_call_of 21 (Value.int IntKind.i64 2); refine (belowK (B := B) (blk := blk) (w0 := w0) (w1 := w3) _ ⟨s3.1, World.grownBy.refl _ _⟩).mono ?_; rintro e w4 ⟨y, rfl, y0, y1, t4⟩; have ri4 : Hid (w4.rowIs bi 27 3 (I3row z 0 0)) := row_grown ri.out t4.2 (by simp; omega); have rr4 : Hid (w4.rowIs w.heap.size 27 3 (I3row 0 0 0)) := row_grown rr.out t4.2 (by simp; omega); have s4 : StK B w0 blk w w4 := ⟨t4.1, grow_trans s3.2 t4.2⟩; obtain ⟨a0, a1, a2, b0, b1, b2⟩ := row3 ri4.out; obtain ⟨q0, q1, q2, p0, p1, p2⟩ := row3 rr4.out))
    obtain ⟨e0, e1, e2⟩ := set3 (rr4.out.setOther (a := ⟨bi, 1, none⟩) (by simp; omega) (.int .i64 y)) z y 0
    refine bodyPost_ret ?_ rfl ⟨z, y, 0, rfl, stk_past s4 hlt (((Below.refl _ _).setCell (p := ⟨bi, 1, none⟩) (by simp; omega) _).trans (below3 (Nat.le_refl _) _ _ _))⟩
    simp [results, go_sem, e0, e1, e2]
  · obtain ⟨i0, i1, i2, j0, j1, j2⟩ := row3 ri.out
    go_wp2_with (first | (go_at_call 27; refine (hk.out _).mono ?_; rintro e w' ⟨rfl, rfl⟩) | (go_at_call_of 21 (Value.int IntKind.i64 3); refine (belowK (B := B) (blk := blk) (w0 := w0) (w1 := w3) _ ⟨s3.1, World.grownBy.refl _ _⟩).mono ?_; rintro e w4 ⟨y, rfl, y0, y1, t4⟩; have ri4 : Hid (w4.rowIs bi 27 3 (I3row z 0 0)) := row_grown ri.out t4.2 (by simp; omega); have rr4 : Hid (w4.rowIs w.heap.size 27 3 (I3row 0 0 0)) := row_grown rr.out t4.2 (by simp; omega); have s4 : StK B w0 blk w w4 := ⟨t4.1, grow_trans s3.2 t4.2⟩; obtain ⟨a0, a1, a2, b0, b1, b2⟩ := row3 ri4.out; obtain ⟨q0, q1, q2, p0, p1, p2⟩ := row3 rr4.out))
    obtain ⟨e0, e1, e2⟩ := set3 (rr4.out.setOther (a := ⟨bi, 1, none⟩) (by simp; omega) (.int .i64 y)) z y 0
    refine bodyPost_ret ?_ rfl ⟨z, y, 0, rfl, stk_past s4 hlt (((Below.refl _ _).setCell (p := ⟨bi, 1, none⟩) (by simp; omega) _).trans (below3 (Nat.le_refl _) _ _ _))⟩
    simp [results, go_sem, e0, e1, e2]
  · obtain ⟨i0, i1, i2, j0, j1, j2⟩ := row3 ri.out
    go_wp2_with (first | (go_at_call 27; refine (hk.out _).mono ?_; rintro e w' ⟨rfl, rfl⟩) | (go_at_call_of 21 (Value.int IntKind.i64 9); refine (belowK (B := B) (blk := blk) (w0 := w0) (w1 := w3) _ ⟨s3.1, World.grownBy.refl _ _⟩).mono ?_; rintro e w4 ⟨y, rfl, y0, y1, t4⟩; have ri4 : Hid (w4.rowIs bi 27 3 (I3row z 0 0)) := row_grown ri.out t4.2 (by simp; omega); have rr4 : Hid (w4.rowIs w.heap.size 27 3 (I3row 0 0 0)) := row_grown rr.out t4.2 (by simp; omega); have s4 : StK B w0 blk w w4 := ⟨t4.1, grow_trans s3.2 t4.2⟩; obtain ⟨a0, a1, a2, b0, b1, b2⟩ := row3 ri4.out; obtain ⟨q0, q1, q2, p0, p1, p2⟩ := row3 rr4.out))
    have s5 : StK B w0 blk w (w4.setCell ⟨bi, 1, none⟩ (.int .i64 y)) := stk_past s4 hlt ((Below.refl _ _).setCell (p := ⟨bi, 1, none⟩) (by simp; omega) _)
    have ri5 : Hid ((w4.setCell ⟨bi, 1, none⟩ (.int .i64 y)).rowIs bi 27 3 (I3row z y 0)) := (ri4.out.set 1 (.int .i64 y)).congr (fun j hj => by
      match j, hj with
      | 0, _ => rfl
      | 1, _ => rfl
      | 2, _ => rfl)
    have rr5 : Hid ((w4.setCell ⟨bi, 1, none⟩ (.int .i64 y)).rowIs w.heap.size 27 3 (I3row 0 0 0)) := rr4.out.setOther (a := ⟨bi, 1, none⟩) (by simp; omega) _
    generalize w4.setCell ⟨bi, 1, none⟩ (.int .i64 y) = w5 at *
    go_wp2_with (go_at_call_of 21 (Value.int IntKind.i64 3); refine (belowK (B := B) (blk := blk) (w0 := w0) (w1 := w5) _ ⟨s5.1, World.grownBy.refl _ _⟩).mono ?_; rintro e w6 ⟨y2, rfl, _, _, t6⟩; have ri6 : Hid (w6.rowIs bi 27 3 (I3row z y 0)) := row_grown ri5.out t6.2 (by simp; omega); have rr6 : Hid (w6.rowIs w.heap.size 27 3 (I3row 0 0 0)) := row_grown rr5.out t6.2 (by simp; omega); have s6 : StK B w0 blk w w6 := ⟨t6.1, grow_trans s5.2 t6.2⟩; obtain ⟨c0, c1, c2, d0, d1, d2⟩ := row3 ri6.out; obtain ⟨g0, g1, g2, h0, h1, h2⟩ := row3 rr6.out)
    obtain ⟨e0, e1, e2⟩ := set3 (rr6.out.setOther (a := ⟨bi, 2, none⟩) (by simp; omega) (.int .i64 y2)) z y y2
    refine bodyPost_ret ?_ rfl ⟨z, y, y2, rfl, stk_past s6 hlt (((Below.refl _ _).setCell (p := ⟨bi, 2, none⟩) (by simp; omega) _).trans (below3 (Nat.le_refl _) _ _ _))⟩
    simp [results, go_sem, e0, e1, e2]
  · obtain ⟨i0, i1, i2, j0, j1, j2⟩ := row3 ri.out
    go_wp2_with (first | (go_at_call 27; refine (hk.out _).mono ?_; rintro e w' ⟨rfl, rfl⟩) | (go_at_call 25; refine (rawK (B := B) (blk := blk) (w0 := w0) (w1 := w3) ⟨s3.1, World.grownBy.refl _ _⟩).mono ?_; rintro e w4 ⟨y, rfl, t4⟩; have ri4 : Hid (w4.rowIs bi 27 3 (I3row z 0 0)) := row_grown ri.out t4.2 (by simp; omega); have rr4 : Hid (w4.rowIs w.heap.size 27 3 (I3row 0 0 0)) := row_grown rr.out t4.2 (by simp; omega); have s4 : StK B w0 blk w w4 := ⟨t4.1, grow_trans s3.2 t4.2⟩; obtain ⟨a0, a1, a2, b0, b1, b2⟩ := row3 ri4.out; obtain ⟨q0, q1, q2, p0, p1, p2⟩ := row3 rr4.out) | (go_at_call 28; refine (spec_wrap _ _).mono ?_; rintro e w' ⟨rfl, rfl⟩))
    obtain ⟨e0, e1, e2⟩ := set3 (rr4.out.setOther (a := ⟨bi, 1, none⟩) (by simp; omega) (.int .i64 (wrap32 y))) z (wrap32 y) 0
    refine bodyPost_ret ?_ rfl ⟨z, (wrap32 y), 0, rfl, stk_past s4 hlt (((Below.refl _ _).setCell (p := ⟨bi, 1, none⟩) (by simp; omega) _).trans (below3 (Nat.le_refl _) _ _ _))⟩
    simp [results, go_sem, e0, e1, e2]
end Go.Proofs.Ytpofboimlconeaa.DrawIns
