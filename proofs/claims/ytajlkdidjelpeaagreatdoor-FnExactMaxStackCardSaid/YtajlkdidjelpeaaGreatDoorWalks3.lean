/-
  The program's walk over a body: what its methods answer and leave, the rest of the small ones. (Written by my walk3gen.py.)
-/
import Derived.Test.YtajlkdidjelpeaaGreatDoorWalks2
namespace Go.Proofs.YtajlkdidjelpeaaGreatDoor.Walks3
open Go.RowKit PlainShape PlainValid InsMem Piles Walks Walks2
theorem branchTakes (g j : Nat) (o r : Int) (w : World) (c0 : w.cell? ⟨g, j * 4, none⟩ = some (.int .i64 o)) (c1 : w.cell? ⟨g, j * 4 + 1, none⟩ = some (.int .i64 r)) (b : Int) (d : Bool) :
    Calls Tryz.prog 124 #[.pointer (some ⟨g, j * 4, none⟩)] w fun e w' => e = .returned (.int .i64 (brT ⟨o, r, b, d⟩)) ∧ w = w' := by
  by_cases h : o = 3
  · subst h
    go_enter Tryz.func124, Tryz.ntmps124
    go_wp2_with fail
    go_ret
    exact ⟨rfl, rfl⟩
  · have e1 : Hid (brT ⟨o, r, b, d⟩ = r) := if_neg h
    rw [e1.out]
    have h' : (o == 3) = false := by simpa using h
    clear h
    go_enter Tryz.func124, Tryz.ntmps124
    go_wp2_with fail
    go_ret
    exact ⟨rfl, rfl⟩
theorem told (p g n cap : Nat) (w : World) (F : Nat → Value) (h : Int) (st : List Fr) (b : BW w p F h (.slice (some ⟨g, 0, none⟩) (n + 1) cap) st) (hl : n + 1 ≤ 1048576) :
    Calls Tryz.prog 79 #[.pointer (some ⟨p, 0, none⟩)] w fun e w' => e = .returned (.int .i64 (if (st.getD n dF).dead = true then -1 else h)) ∧ ∃ m, w' = w.drewN m := by
  have hn := b.len
  have hp := b.pile
  have hc := b.hgt
  obtain ⟨c0, c1, c2, c3⟩ := b.cells n (by omega)
  have k : Hid (∀ u : World, u.cell? ⟨p, 12, none⟩ = some (.slice (some ⟨g, 0, none⟩) (n + 1) cap) → Calls Tryz.prog 117 #[.pointer (some ⟨p, 0, none⟩)] u fun e w' => e = .returned (.pointer (some ⟨g, n * 4, none⟩)) ∧ ∃ m, w' = u.drewN m) := fun u hu => last p g n cap u hu hl
  clear b hn
  generalize st.getD n dF = f at *
  obtain ⟨fo, fr, fb, fd⟩ := f
  dsimp only at *
  cases fd with
  | true =>
    go_enter Tryz.func79, Tryz.ntmps79
    go_wp2_with (go_at_call 117; refine (k.out _ hp).mono ?_; rintro e w1 ⟨rfl, m, rfl⟩)
    go_ret
    exact ⟨rfl, m, rfl⟩
  | false =>
    go_enter Tryz.func79, Tryz.ntmps79
    go_wp2_with (go_at_call 117; refine (k.out _ hp).mono ?_; rintro e w1 ⟨rfl, m, rfl⟩)
    go_ret
    exact ⟨rfl, m, rfl⟩
theorem bwElse {w : World} {p g n cap : Nat} {F : Nat → Value} {h : Int} {st : List Fr} (b : BW w p F h (.slice (some ⟨g, 0, none⟩) (n + 1) cap) st) : BW ((w.setCell ⟨g, n * 4, none⟩ (.int .i64 5)).setCell ⟨g, n * 4 + 3, none⟩ (.bool false)) p F h (.slice (some ⟨g, 0, none⟩) (n + 1) cap) (st.set n ⟨5, (st.getD n dF).res, (st.getD n dF).base, false⟩) := by
  have hn := b.len
  have b1 := bwDead (bwOp b 5) false
  have e : (st.set n ⟨5, (st.getD n dF).res, (st.getD n dF).base, (st.getD n dF).dead⟩).getD n dF = ⟨5, (st.getD n dF).res, (st.getD n dF).base, (st.getD n dF).dead⟩ := by
    rw [List.getD_eq_getElem?_getD, List.getElem?_set_self (by omega)]
    rfl
  rw [e, List.set_set] at b1
  exact b1
set_option maxHeartbeats 2000000 in
theorem turn (p g n cap : Nat) (w : World) (F : Nat → Value) (h : Int) (st : List Fr) (b : BW w p F h (.slice (some ⟨g, 0, none⟩) (n + 1) cap) st) (hl : n + 1 ≤ 1048576) (h0 : -100000 ≤ h) (h1 : h ≤ 1000000) (h2 : -100000 ≤ (st.getD n dF).base) (h3 : (st.getD n dF).base ≤ 1000000) (h4 : 0 ≤ (st.getD n dF).res ∧ (st.getD n dF).res ≤ 1) :
    Calls Tryz.prog 122 #[.pointer (some ⟨p, 0, none⟩)] w fun e w' => e = .returned (.bool ((tk (st.getD n dF).res.toNat h (st.getD n dF).base (st.getD n dF).dead).2 && decide ((tk (st.getD n dF).res.toNat h (st.getD n dF).base (st.getD n dF).dead).1 = (st.getD n dF).base))) ∧ BW w' p F (tk (st.getD n dF).res.toNat h (st.getD n dF).base (st.getD n dF).dead).1 (.slice (some ⟨g, 0, none⟩) (n + 1) cap) (st.set n ⟨5, (st.getD n dF).res, (st.getD n dF).base, false⟩) ∧ Kp p w w' (.slice (some ⟨g, 0, none⟩) (n + 1) cap) (.slice (some ⟨g, 0, none⟩) (n + 1) cap) := by
  have hn := b.len
  have b' : Hid (BW w p F h (.slice (some ⟨g, 0, none⟩) (n + 1) cap) st) := b
  have k : Hid (∀ u : World, u.cell? ⟨p, 12, none⟩ = some (.slice (some ⟨g, 0, none⟩) (n + 1) cap) → Calls Tryz.prog 117 #[.pointer (some ⟨p, 0, none⟩)] u fun e w' => e = .returned (.pointer (some ⟨g, n * 4, none⟩)) ∧ ∃ m, w' = u.drewN m) := fun u hu => last p g n cap u hu hl
  have hL : Hid (∀ u : World, BW u p F h (.slice (some ⟨g, 0, none⟩) (n + 1) cap) st → Calls Tryz.prog 126 #[.pointer (some ⟨p, 0, none⟩)] u fun e w' => e = .returned (.bool ((tk (st.getD n dF).res.toNat h (st.getD n dF).base (st.getD n dF).dead).2 && decide ((tk (st.getD n dF).res.toNat h (st.getD n dF).base (st.getD n dF).dead).1 = (st.getD n dF).base))) ∧ BW w' p F (tk (st.getD n dF).res.toNat h (st.getD n dF).base (st.getD n dF).dead).1 (.slice (some ⟨g, 0, none⟩) (n + 1) cap) st ∧ Kp p u w' (.slice (some ⟨g, 0, none⟩) (n + 1) cap) (.slice (some ⟨g, 0, none⟩) (n + 1) cap)) := fun u hu => leavesResults p g n cap u F h st hu hl h0 h1 h2 h3 h4
  have hcs : Hid (∀ (u : World) (h' : Int), BW u p F h' (.slice (some ⟨g, 0, none⟩) (n + 1) cap) st → u.cell? ⟨p, 12, none⟩ = some (.slice (some ⟨g, 0, none⟩) (n + 1) cap) ∧ u.cell? ⟨g, n * 4, none⟩ = some (.int .i64 (st.getD n dF).op) ∧ u.cell? ⟨g, n * 4 + 3, none⟩ = some (.bool (st.getD n dF).dead) ∧ u.frozen? ⟨g, n * 4, none⟩ = false ∧ u.frozen? ⟨g, n * 4 + 3, none⟩ = false) := fun u h' bu => ⟨bu.pile, (bu.cells n (by omega)).1, (bu.cells n (by omega)).2.2.2, bu.rowFrozen _, bu.rowFrozen _⟩
  have hE : Hid (∀ (u : World) (h' : Int), BW u p F h' (.slice (some ⟨g, 0, none⟩) (n + 1) cap) st → BW ((u.setCell ⟨g, n * 4, none⟩ (.int .i64 5)).setCell ⟨g, n * 4 + 3, none⟩ (.bool false)) p F h' (.slice (some ⟨g, 0, none⟩) (n + 1) cap) (st.set n ⟨5, (st.getD n dF).res, (st.getD n dF).base, false⟩)) := fun u h' bu => bwElse bu
  clear b hn
  generalize ((tk (st.getD n dF).res.toNat h (st.getD n dF).base (st.getD n dF).dead).2 && decide ((tk (st.getD n dF).res.toNat h (st.getD n dF).base (st.getD n dF).dead).1 = (st.getD n dF).base)) = E at *
  generalize (tk (st.getD n dF).res.toNat h (st.getD n dF).base (st.getD n dF).dead).1 = R1 at *
  generalize st.set n ⟨5, (st.getD n dF).res, (st.getD n dF).base, false⟩ = st' at *
  generalize (st.getD n dF).op = fo at *
  generalize (st.getD n dF).dead = fd at *
  clear h0 h1 h2 h3 h4
  go_enter Tryz.func122, Tryz.ntmps122
  go_wp2_with (first | (go_at_call 126; refine (hL.out _ b'.out).mono ?_; rintro e w1 ⟨rfl, b1, k1⟩; have b1' : Hid (BW w1 p F R1 (.slice (some ⟨g, 0, none⟩) (n + 1) cap) st) := b1; obtain ⟨d0, _⟩ := hcs.out _ _ b1; clear b1) | (go_at_call 117; refine (k.out _ d0).mono ?_; rintro e w2 ⟨rfl, m, rfl⟩; clear d0; obtain ⟨d0, d1, d2, d3, d4⟩ := hcs.out _ _ (b1'.out.drewN m)))
  go_ret
  exact ⟨rfl, hE.out _ _ (b1'.out.drewN m), ((k1.drewN m).trans (Kp.setRow _ _)).trans (Kp.setRow _ _)⟩
set_option maxRecDepth 20000 in
set_option maxHeartbeats 4000000 in
theorem closeDown (p g n cap : Nat) (w : World) (F : Nat → Value) (h : Int) (st : List Fr) (b : BW w p F h (.slice (some ⟨g, 0, none⟩) (n + 1) cap) st) (hl : n + 1 ≤ 1048576) (h0 : -100000 ≤ h) (h1 : h ≤ 1000000) (h2 : -100000 ≤ (st.getD n dF).base) (h3 : (st.getD n dF).base ≤ 1000000) (h4 : 0 ≤ (st.getD n dF).res ∧ (st.getD n dF).res ≤ 1) :
    Calls Tryz.prog 81 #[.pointer (some ⟨p, 0, none⟩)] w fun e w' => e = .returned (.bool (((tk (st.getD n dF).res.toNat h (st.getD n dF).base (st.getD n dF).dead).2 && decide ((tk (st.getD n dF).res.toNat h (st.getD n dF).base (st.getD n dF).dead).1 = (st.getD n dF).base)) && decide ((st.getD n dF).op ≠ 4 ∨ (st.getD n dF).res = 0))) ∧ BW w' p F ((tk (st.getD n dF).res.toNat h (st.getD n dF).base (st.getD n dF).dead).1 + (st.getD n dF).res) (.slice (some ⟨g, 0, none⟩) n cap) (st.take n) ∧ Kp p w w' (.slice (some ⟨g, 0, none⟩) (n + 1) cap) (.slice (some ⟨g, 0, none⟩) n cap) := by
  have hn := b.len
  have b' : Hid (BW w p F h (.slice (some ⟨g, 0, none⟩) (n + 1) cap) st) := b
  have hL : Hid (∀ u : World, BW u p F h (.slice (some ⟨g, 0, none⟩) (n + 1) cap) st → Calls Tryz.prog 126 #[.pointer (some ⟨p, 0, none⟩)] u fun e w' => e = .returned (.bool ((tk (st.getD n dF).res.toNat h (st.getD n dF).base (st.getD n dF).dead).2 && decide ((tk (st.getD n dF).res.toNat h (st.getD n dF).base (st.getD n dF).dead).1 = (st.getD n dF).base))) ∧ BW w' p F (tk (st.getD n dF).res.toNat h (st.getD n dF).base (st.getD n dF).dead).1 (.slice (some ⟨g, 0, none⟩) (n + 1) cap) st ∧ Kp p u w' (.slice (some ⟨g, 0, none⟩) (n + 1) cap) (.slice (some ⟨g, 0, none⟩) (n + 1) cap)) := fun u hu => leavesResults p g n cap u F h st hu hl h0 h1 h2 h3 h4
  have hP : Hid (∀ (u : World) (h' : Int), BW u p F h' (.slice (some ⟨g, 0, none⟩) (n + 1) cap) st → Calls Tryz.prog 127 #[.pointer (some ⟨p, 12, none⟩)] u fun e w' => e = .returned (.agg #[.int .i64 (st.getD n dF).op, .int .i64 (st.getD n dF).res, .int .i64 (st.getD n dF).base, .bool (st.getD n dF).dead]) ∧ BW w' p F h' (.slice (some ⟨g, 0, none⟩) n cap) (st.take n) ∧ Kp p u w' (.slice (some ⟨g, 0, none⟩) (n + 1) cap) (.slice (some ⟨g, 0, none⟩) n cap)) := fun u h' hu => pop p g n cap u F h' st hu hl
  have htk := tk_le (st.getD n dF).res.toNat h (st.getD n dF).base (st.getD n dF).dead
  have hlo : -100000 ≤ (tk (st.getD n dF).res.toNat h (st.getD n dF).base (st.getD n dF).dead).1 := by
    by_cases e : (st.getD n dF).base ≤ h
    · have := htk.2.1 e; omega
    · have := htk.2.2 (by omega); omega
  have hhi : (tk (st.getD n dF).res.toNat h (st.getD n dF).base (st.getD n dF).dead).1 ≤ 1000000 := by have := htk.1; omega
  have hU : Hid (∀ u : World, BW u p F (tk (st.getD n dF).res.toNat h (st.getD n dF).base (st.getD n dF).dead).1 (.slice (some ⟨g, 0, none⟩) n cap) (st.take n) → Calls Tryz.prog 128 #[.pointer (some ⟨p, 0, none⟩), .int .i64 (st.getD n dF).res] u fun e w' => e = .returned (.tuple #[]) ∧ BW w' p F ((tk (st.getD n dF).res.toNat h (st.getD n dF).base (st.getD n dF).dead).1 + (st.getD n dF).res) (.slice (some ⟨g, 0, none⟩) n cap) (st.take n) ∧ Kp p u w' (.slice (some ⟨g, 0, none⟩) n cap) (.slice (some ⟨g, 0, none⟩) n cap)) := fun u hu => put p u F _ _ _ _ hu (by omega) (by omega)
  clear b hn
  generalize ((tk (st.getD n dF).res.toNat h (st.getD n dF).base (st.getD n dF).dead).2 && decide ((tk (st.getD n dF).res.toNat h (st.getD n dF).base (st.getD n dF).dead).1 = (st.getD n dF).base)) = E at *
  clear htk
  generalize (tk (st.getD n dF).res.toNat h (st.getD n dF).base (st.getD n dF).dead).1 = R1 at *
  generalize st.getD n dF = f at *
  obtain ⟨fo, fr, fb, fd⟩ := f
  dsimp only at *
  have hcn : Hid (∀ u : World, (u.alloc (.cells #[.int .i64 fo, .int .i64 fr, .int .i64 fb, .bool fd] 172)).cell? ⟨u.heap.size, 0, none⟩ = some (.int .i64 fo) ∧ (u.alloc (.cells #[.int .i64 fo, .int .i64 fr, .int .i64 fb, .bool fd] 172)).cell? ⟨u.heap.size, 1, none⟩ = some (.int .i64 fr)) := fun u => ⟨by simp, by simp⟩
  clear h0 h1 h2 h3 hlo hhi
  have hsplit : (E = false) ∨ (E = true ∧ (fo == 4) = false ∧ (fo != 4) = true ∧ fo ≠ 4) ∨ (E = true ∧ fo = 4 ∧ (fr == 0) = true ∧ fr = 0) ∨ (E = true ∧ fo = 4 ∧ (fr == 0) = false ∧ fr ≠ 0) := by
    cases E with
    | false => exact .inl rfl
    | true =>
      by_cases x : fo = 4
      · by_cases y : fr = 0
        · exact .inr (.inr (.inl ⟨rfl, x, by simp [y], y⟩))
        · exact .inr (.inr (.inr ⟨rfl, x, by simp [y], y⟩))
      · exact .inr (.inl ⟨rfl, by simp [x], by simp [x], x⟩)
  rcases hsplit with rfl | ⟨rfl, x1, x2, x3⟩ | ⟨rfl, rfl, y1, y2⟩ | ⟨rfl, rfl, y1, y2⟩
  · go_enter Tryz.func81, Tryz.ntmps81
    go_wp2_with (first | (go_at_call 126; refine (hL.out _ b'.out).mono ?_; rintro e w1 ⟨rfl, b1, k1⟩; have b1' : Hid (BW w1 p F R1 (.slice (some ⟨g, 0, none⟩) (n + 1) cap) st) := b1; clear b1) | (go_at_call 127; refine (hP.out _ _ b1'.out).mono ?_; rintro e w2 ⟨rfl, b2, k2⟩; have b2' : Hid (BW w2 p F R1 (.slice (some ⟨g, 0, none⟩) n cap) (st.take n)) := b2; have ap2 : Hid (w2.heap.size ≠ p ∧ some w2.heap.size ≠ (Value.slice (some ⟨g, 0, none⟩) n cap).ownBlock) := b2.past (Nat.le_refl _); clear b2) | (go_at_call 128; refine (hU.out _ (b2'.out.alloc _)).mono ?_; rintro e w3 ⟨rfl, b3, k3⟩; have b3' : Hid (BW w3 p F (R1 + fr) (.slice (some ⟨g, 0, none⟩) n cap) (st.take n)) := b3; obtain ⟨x0, x1⟩ := hcn.out w2; have d0 := k3.cell x0 ap2.out.1 ap2.out.2; have d1 := k3.cell x1 ap2.out.1 ap2.out.2; clear b3 x0 x1))
    go_ret
    exact ⟨rfl, b3'.out, ((k1.trans k2).trans (Kp.alloc p _ _ _)).trans k3⟩
  · have e1 : Hid ((true && decide (fo ≠ 4 ∨ fr = 0)) = true) := by show _ = _; simp [x3]
    rw [e1.out]
    clear x3
    go_enter Tryz.func81, Tryz.ntmps81
    go_wp2_with (first | (go_at_call 126; refine (hL.out _ b'.out).mono ?_; rintro e w1 ⟨rfl, b1, k1⟩; have b1' : Hid (BW w1 p F R1 (.slice (some ⟨g, 0, none⟩) (n + 1) cap) st) := b1; clear b1) | (go_at_call 127; refine (hP.out _ _ b1'.out).mono ?_; rintro e w2 ⟨rfl, b2, k2⟩; have b2' : Hid (BW w2 p F R1 (.slice (some ⟨g, 0, none⟩) n cap) (st.take n)) := b2; have ap2 : Hid (w2.heap.size ≠ p ∧ some w2.heap.size ≠ (Value.slice (some ⟨g, 0, none⟩) n cap).ownBlock) := b2.past (Nat.le_refl _); clear b2) | (go_at_call 128; refine (hU.out _ (b2'.out.alloc _)).mono ?_; rintro e w3 ⟨rfl, b3, k3⟩; have b3' : Hid (BW w3 p F (R1 + fr) (.slice (some ⟨g, 0, none⟩) n cap) (st.take n)) := b3; obtain ⟨x0, x1⟩ := hcn.out w2; have d0 := k3.cell x0 ap2.out.1 ap2.out.2; have d1 := k3.cell x1 ap2.out.1 ap2.out.2; clear b3 x0 x1))
    go_ret
    exact ⟨rfl, b3'.out, ((k1.trans k2).trans (Kp.alloc p _ _ _)).trans k3⟩
  · have e1 : Hid ((true && decide ((4 : Int) ≠ 4 ∨ fr = 0)) = true) := by show _ = _; simp [y2]
    rw [e1.out]
    clear y2
    go_enter Tryz.func81, Tryz.ntmps81
    go_wp2_with (first | (go_at_call 126; refine (hL.out _ b'.out).mono ?_; rintro e w1 ⟨rfl, b1, k1⟩; have b1' : Hid (BW w1 p F R1 (.slice (some ⟨g, 0, none⟩) (n + 1) cap) st) := b1; clear b1) | (go_at_call 127; refine (hP.out _ _ b1'.out).mono ?_; rintro e w2 ⟨rfl, b2, k2⟩; have b2' : Hid (BW w2 p F R1 (.slice (some ⟨g, 0, none⟩) n cap) (st.take n)) := b2; have ap2 : Hid (w2.heap.size ≠ p ∧ some w2.heap.size ≠ (Value.slice (some ⟨g, 0, none⟩) n cap).ownBlock) := b2.past (Nat.le_refl _); clear b2) | (go_at_call 128; refine (hU.out _ (b2'.out.alloc _)).mono ?_; rintro e w3 ⟨rfl, b3, k3⟩; have b3' : Hid (BW w3 p F (R1 + fr) (.slice (some ⟨g, 0, none⟩) n cap) (st.take n)) := b3; obtain ⟨x0, x1⟩ := hcn.out w2; have d0 := k3.cell x0 ap2.out.1 ap2.out.2; have d1 := k3.cell x1 ap2.out.1 ap2.out.2; clear b3 x0 x1))
    go_ret
    exact ⟨rfl, b3'.out, ((k1.trans k2).trans (Kp.alloc p _ _ _)).trans k3⟩
  · have e1 : Hid ((true && decide ((4 : Int) ≠ 4 ∨ fr = 0)) = false) := by show _ = _; simp [y2]
    rw [e1.out]
    clear y2
    go_enter Tryz.func81, Tryz.ntmps81
    go_wp2_with (first | (go_at_call 126; refine (hL.out _ b'.out).mono ?_; rintro e w1 ⟨rfl, b1, k1⟩; have b1' : Hid (BW w1 p F R1 (.slice (some ⟨g, 0, none⟩) (n + 1) cap) st) := b1; clear b1) | (go_at_call 127; refine (hP.out _ _ b1'.out).mono ?_; rintro e w2 ⟨rfl, b2, k2⟩; have b2' : Hid (BW w2 p F R1 (.slice (some ⟨g, 0, none⟩) n cap) (st.take n)) := b2; have ap2 : Hid (w2.heap.size ≠ p ∧ some w2.heap.size ≠ (Value.slice (some ⟨g, 0, none⟩) n cap).ownBlock) := b2.past (Nat.le_refl _); clear b2) | (go_at_call 128; refine (hU.out _ (b2'.out.alloc _)).mono ?_; rintro e w3 ⟨rfl, b3, k3⟩; have b3' : Hid (BW w3 p F (R1 + fr) (.slice (some ⟨g, 0, none⟩) n cap) (st.take n)) := b3; obtain ⟨x0, x1⟩ := hcn.out w2; have d0 := k3.cell x0 ap2.out.1 ap2.out.2; have d1 := k3.cell x1 ap2.out.1 ap2.out.2; clear b3 x0 x1))
    go_ret
    exact ⟨rfl, b3'.out, ((k1.trans k2).trans (Kp.alloc p _ _ _)).trans k3⟩
end Go.Proofs.YtajlkdidjelpeaaGreatDoor.Walks3
