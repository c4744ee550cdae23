/-
  The program's walk over a body: what its methods answer and leave.
-/
import Derived.Test.YtajlkdidjelpeaaGreatDoorPiles
import Derived.Deep.RegionHeld
namespace Go.Proofs.YtajlkdidjelpeaaGreatDoor.Walks
open Go.RowKit PlainShape PlainValid InsMem Piles

abbrev pv (g n cap : Nat) : Value := .slice (some ⟨g, 0, none⟩) n cap
set_option maxRecDepth 20000 in
set_option maxHeartbeats 3200000 in
theorem take (p g n cap : Nat) (w : World) (F : Nat → Value) (h : Int) (st : List Fr) (q : Nat) (b : BW w p F h (.slice (some ⟨g, 0, none⟩) (n + 1) cap) st) (hl : n + 1 ≤ 1048576) (hq : q ≤ 1000) (h0 : -1000000 ≤ h) (h1 : h ≤ 1000000) (h2 : -1000000 ≤ (st.getD n dF).base) (h3 : (st.getD n dF).base ≤ 1000000) :
    Calls Tryz.prog 141 #[.pointer (some ⟨p, 0, none⟩), .int .i64 (q : Int)] w fun e w' => e = .returned (.bool (tk q h (st.getD n dF).base (st.getD n dF).dead).2) ∧ BW w' p F (tk q h (st.getD n dF).base (st.getD n dF).dead).1 (.slice (some ⟨g, 0, none⟩) (n + 1) cap) st ∧ Kp p w w' (.slice (some ⟨g, 0, none⟩) (n + 1) cap) (.slice (some ⟨g, 0, none⟩) (n + 1) cap) := by
  have hn := b.len
  have hp := b.pile
  have b' : Hid (BW w p F h (.slice (some ⟨g, 0, none⟩) (n + 1) cap) st) := b
  have k : Hid (∀ u : World, u.cell? ⟨p, 12, none⟩ = some (.slice (some ⟨g, 0, none⟩) (n + 1) cap) → Calls Tryz.prog 117 #[.pointer (some ⟨p, 0, none⟩)] u fun e w' => e = .returned (.pointer (some ⟨g, n * 4, none⟩)) ∧ ∃ m, w' = u.drewN m) := fun u hu => last p g n cap u hu hl
  have hcs : Hid (∀ (u : World) (h' : Int), BW u p F h' (.slice (some ⟨g, 0, none⟩) (n + 1) cap) st → u.cell? ⟨p, 11, none⟩ = some (.int .i64 h') ∧ u.frozen? ⟨p, 11, none⟩ = false ∧ u.cell? ⟨g, n * 4 + 2, none⟩ = some (.int .i64 (st.getD n dF).base) ∧ u.cell? ⟨g, n * 4 + 3, none⟩ = some (.bool (st.getD n dF).dead)) := fun u h' bu => ⟨bu.hgt, bu.frozen 11, (bu.cells n (by omega)).2.2.1, (bu.cells n (by omega)).2.2.2⟩
  clear b hn
  generalize (st.getD n dF).base = fb at *
  generalize (st.getD n dF).dead = fd at *
  obtain ⟨R, hR⟩ : ∃ R, tk q h fb fd = R := ⟨_, rfl⟩
  have hF : Hid (tk q h fb fd = R) := hR
  rw [hR]
  clear hR
  go_enter Tryz.func141, Tryz.ntmps141
  go_wp2_with (go_at_call 117; refine (k.out _ hp).mono ?_; rintro e w1 ⟨rfl, m, rfl⟩)
  go_loopw [9] (fun vi wr => ∃ (j f : Nat) (h' : Int), j + f = q ∧ vi = .int .i64 j ∧ tk f h' fb fd = R ∧ -1000000 ≤ h' ∧ h' ≤ 1000000 ∧ BW wr p F h' (.slice (some ⟨g, 0, none⟩) (n + 1) cap) st ∧ Kp p w wr (.slice (some ⟨g, 0, none⟩) (n + 1) cap) (.slice (some ⟨g, 0, none⟩) (n + 1) cap)) (fun vi _ => q - (intOf vi).toNat)
  case atStart => exact ⟨0, q, h, by omega, rfl, hF.out, h0, h1, b'.out.drewN m, (Kp.refl _ _ _).drewN m⟩
  case round =>
    obtain ⟨j, f, h', hj, rfl, hr, l0, l1, bw, kp⟩ := hrel
    have hr' : Hid (tk f h' fb fd = R) := hr
    have bw' : Hid (BW wr p F h' (.slice (some ⟨g, 0, none⟩) (n + 1) cap) st) := bw
    have kp' : Hid (Kp p w wr (.slice (some ⟨g, 0, none⟩) (n + 1) cap) (.slice (some ⟨g, 0, none⟩) (n + 1) cap)) := kp
    obtain ⟨c0, c1, c2, c3⟩ := hcs.out wr h' bw
    clear hr bw kp hF
    by_cases hlt : j < q
    · have hlt' : (j : Int) < (q : Int) := by omega
      obtain ⟨f, rfl⟩ : ∃ i, f = i + 1 := ⟨f - 1, by omega⟩
      by_cases hb : fb < h'
      · have e1 : Hid (tk (f + 1) h' fb fd = tk f (h' - 1) fb fd) := tk_down hb
        go_wp2_with fail
        go_quiet (fail)
        go_wp2_with fail
        go_roundw
        case rel => exact ⟨j + 1, f, h' - 1, by omega, by go_num, by rw [← e1.out]; exact hr'.out, by omega, by omega, (bw'.out.drewN _).seth (h' - 1), (kp'.out.drewN _).trans (Kp.set _ _ _)⟩
        case measure => simp [intOf]; omega
      · cases fd with
        | true =>
          have e1 : Hid (tk (f + 1) h' fb true = tk f h' fb true) := tk_dead hb
          go_wp2_with fail
          go_quiet (fail)
          go_wp2_with fail
          go_roundw
          case rel => exact ⟨j + 1, f, h', by omega, by go_num, by rw [← e1.out]; exact hr'.out, by omega, by omega, bw'.out.drewN _, kp'.out.drewN _⟩
          case measure => simp [intOf]; omega
        | false =>
          have e1 : Hid (R = (h', false)) := by rw [← hr'.out]; exact tk_no hb
          go_wp2_with fail
          go_quiet (fail)
          go_wp2_with fail
          go_ret
          rw [e1.out]
          exact ⟨rfl, bw'.out.drewN _, kp'.out.drewN _⟩
    · obtain rfl : j = q := by omega
      obtain rfl : f = 0 := by omega
      have e1 : Hid (R = (h', true)) := hr'.out.symm
      go_wp2_with fail
      go_ret
      rw [e1.out]
      exact ⟨rfl, bw'.out, kp'.out⟩
theorem cellsF_set3 : ∀ (l : List Fr) (j : Nat) (d : Bool), j < l.length → (cellsF l).set (j * 4 + 3) (.bool d) = cellsF (l.set j ⟨(l.getD j dF).op, (l.getD j dF).res, (l.getD j dF).base, d⟩)
  | [], j, _, h => absurd h (by simp)
  | x :: l, 0, d, _ => rfl
  | x :: l, j + 1, d, h => by
    have h1 := cellsF_set3 l j d (by simpa using h)
    rw [show cellsF (x :: l) = [.int .i64 x.op, .int .i64 x.res, .int .i64 x.base, .bool x.dead] ++ cellsF l from rfl, show (j + 1) * 4 + 3 = (j * 4 + 3) + 4 by omega]
    show _ :: _ :: _ :: _ :: (cellsF l).set (j * 4 + 3) (.bool d) = _
    rw [h1]
    rfl
theorem cellsF_set0 : ∀ (l : List Fr) (j : Nat) (o : Int), j < l.length → (cellsF l).set (j * 4) (.int .i64 o) = cellsF (l.set j ⟨o, (l.getD j dF).res, (l.getD j dF).base, (l.getD j dF).dead⟩)
  | [], j, _, h => absurd h (by simp)
  | x :: l, 0, o, _ => rfl
  | x :: l, j + 1, o, h => by
    have h1 := cellsF_set0 l j o (by simpa using h)
    rw [show cellsF (x :: l) = [.int .i64 x.op, .int .i64 x.res, .int .i64 x.base, .bool x.dead] ++ cellsF l from rfl, show (j + 1) * 4 = (j * 4) + 4 by omega]
    show _ :: _ :: _ :: _ :: (cellsF l).set (j * 4) (.int .i64 o) = _
    rw [h1]
    rfl
theorem bwRow {w : World} {p g n cap : Nat} {F : Nat → Value} {h : Int} {st st' : List Fr} (b : BW w p F h (.slice (some ⟨g, 0, none⟩) n cap) st) (i : Nat) (x : Value) (hl : st'.length = st.length) (hc : (cellsF st).set i x = cellsF st') : BW (w.setCell ⟨g, i, none⟩ x) p F h (.slice (some ⟨g, 0, none⟩) n cap) st' := by
  have hn := b.len
  subst hn
  have hne : g ≠ p := fun e => b.not (by rw [e]; rfl)
  refine ⟨b.box.of_block (Below.heap_setCell _ _ _ _ (Ne.symm hne)), ?_⟩
  have := (World.ownsRow.stored b.own i x).1
  unfold OwnF
  rw [hl, ← hc]
  exact this
theorem bwDead {w : World} {p g n cap : Nat} {F : Nat → Value} {h : Int} {st : List Fr} (b : BW w p F h (.slice (some ⟨g, 0, none⟩) (n + 1) cap) st) (d : Bool) : BW (w.setCell ⟨g, n * 4 + 3, none⟩ (.bool d)) p F h (.slice (some ⟨g, 0, none⟩) (n + 1) cap) (st.set n ⟨(st.getD n dF).op, (st.getD n dF).res, (st.getD n dF).base, d⟩) :=
  bwRow b _ _ (by simp) (cellsF_set3 st n d (by have := b.len; omega))
theorem bwOp {w : World} {p g n cap : Nat} {F : Nat → Value} {h : Int} {st : List Fr} (b : BW w p F h (.slice (some ⟨g, 0, none⟩) (n + 1) cap) st) (o : Int) : BW (w.setCell ⟨g, n * 4, none⟩ (.int .i64 o)) p F h (.slice (some ⟨g, 0, none⟩) (n + 1) cap) (st.set n ⟨o, (st.getD n dF).res, (st.getD n dF).base, (st.getD n dF).dead⟩) :=
  bwRow b _ _ (by simp) (cellsF_set0 st n o (by have := b.len; omega))
set_option maxHeartbeats 1000000 in
theorem die (p g n cap : Nat) (w : World) (F : Nat → Value) (h : Int) (st : List Fr) (b : BW w p F h (.slice (some ⟨g, 0, none⟩) (n + 1) cap) st) (hl : n + 1 ≤ 1048576) :
    Calls Tryz.prog 142 #[.pointer (some ⟨p, 0, none⟩)] w fun e w' => e = .returned (.tuple #[]) ∧ BW w' p F (st.getD n dF).base (.slice (some ⟨g, 0, none⟩) (n + 1) cap) (st.set n ⟨(st.getD n dF).op, (st.getD n dF).res, (st.getD n dF).base, true⟩) ∧ Kp p w w' (.slice (some ⟨g, 0, none⟩) (n + 1) cap) (.slice (some ⟨g, 0, none⟩) (n + 1) cap) := by
  have hn := b.len
  have hp := b.pile
  have hne : g ≠ p := fun e => b.not (by rw [e]; rfl)
  have hc := b.hgt
  have hf := b.frozen 11
  have hf3 := b.rowFrozen (n * 4 + 3)
  obtain ⟨c0, c1, c2, c3⟩ := b.cells n (by omega)
  have b' : Hid (BW w p F h (.slice (some ⟨g, 0, none⟩) (n + 1) cap) st) := b
  have k : Hid (∀ u : World, u.cell? ⟨p, 12, none⟩ = some (.slice (some ⟨g, 0, none⟩) (n + 1) cap) → Calls Tryz.prog 117 #[.pointer (some ⟨p, 0, none⟩)] u fun e w' => e = .returned (.pointer (some ⟨g, n * 4, none⟩)) ∧ ∃ m, w' = u.drewN m) := fun u hu => last p g n cap u hu hl
  have hd : Hid (∀ (u : World) (h' : Int), BW u p F h' (.slice (some ⟨g, 0, none⟩) (n + 1) cap) st → BW (u.setCell ⟨g, n * 4 + 3, none⟩ (.bool true)) p F h' (.slice (some ⟨g, 0, none⟩) (n + 1) cap) (st.set n ⟨(st.getD n dF).op, (st.getD n dF).res, (st.getD n dF).base, true⟩)) := fun u h' bu => bwDead bu true
  clear b hn
  generalize st.set n ⟨(st.getD n dF).op, (st.getD n dF).res, (st.getD n dF).base, true⟩ = st' at *
  generalize st.getD n dF = f at *
  obtain ⟨fo, fr, fb, fd⟩ := f
  dsimp only at *
  go_enter Tryz.func142, Tryz.ntmps142
  go_wp2_with (go_at_call 117; refine (k.out _ hp).mono ?_; rintro e w1 ⟨rfl, m, rfl⟩)
  go_end0
  exact ⟨rfl, hd.out _ _ ((b'.out.drewN m).seth fb), (((Kp.refl p w _).drewN m).trans (Kp.set _ _ _)).trans (Kp.setRow _ _)⟩
/-- The height behind an exchange. -/
def exH (r : Int × Bool) (q : Int) : Int := if r.2 = true then r.1 + q else r.1
set_option maxHeartbeats 2000000 in
theorem exchange (p g n cap : Nat) (w : World) (F : Nat → Value) (h : Int) (st : List Fr) (q : Nat) (r : Int) (b : BW w p F h (.slice (some ⟨g, 0, none⟩) (n + 1) cap) st) (hl : n + 1 ≤ 1048576) (hq : q ≤ 1000) (h0 : -100000 ≤ h) (h1 : h ≤ 1000000) (h2 : -100000 ≤ (st.getD n dF).base) (h3 : (st.getD n dF).base ≤ 1000000) (hr : 0 ≤ r ∧ r ≤ 1000) :
    Calls Tryz.prog 120 #[.pointer (some ⟨p, 0, none⟩), .agg #[.int .i64 (q : Int), .int .i64 r]] w fun e w' => e = .returned (.bool (tk q h (st.getD n dF).base (st.getD n dF).dead).2) ∧ BW w' p F (exH (tk q h (st.getD n dF).base (st.getD n dF).dead) r) (.slice (some ⟨g, 0, none⟩) (n + 1) cap) st ∧ Kp p w w' (.slice (some ⟨g, 0, none⟩) (n + 1) cap) (.slice (some ⟨g, 0, none⟩) (n + 1) cap) := by
  have hT : Hid (∀ u : World, BW u p F h (.slice (some ⟨g, 0, none⟩) (n + 1) cap) st → Calls Tryz.prog 141 #[.pointer (some ⟨p, 0, none⟩), .int .i64 (q : Int)] u fun e w' => e = .returned (.bool (tk q h (st.getD n dF).base (st.getD n dF).dead).2) ∧ BW w' p F (tk q h (st.getD n dF).base (st.getD n dF).dead).1 (.slice (some ⟨g, 0, none⟩) (n + 1) cap) st ∧ Kp p u w' (.slice (some ⟨g, 0, none⟩) (n + 1) cap) (.slice (some ⟨g, 0, none⟩) (n + 1) cap)) := fun u hu => take p g n cap u F h st q hu hl hq (by omega) (by omega) (by omega) (by omega)
  have htk := tk_le q h (st.getD n dF).base (st.getD n dF).dead
  have hA : Hid (BW (w.alloc (.cells #[.int .i64 (q : Int), .int .i64 r] 119)) p F h (.slice (some ⟨g, 0, none⟩) (n + 1) cap) st) := b.alloc _
  have hap : Hid (w.heap.size ≠ p ∧ some w.heap.size ≠ (Value.slice (some ⟨g, 0, none⟩) (n + 1) cap).ownBlock) := b.past (Nat.le_refl _)
  have hK : Hid (Kp p w (w.alloc (.cells #[.int .i64 (q : Int), .int .i64 r] 119)) (.slice (some ⟨g, 0, none⟩) (n + 1) cap) (.slice (some ⟨g, 0, none⟩) (n + 1) cap)) := Kp.alloc p w _ _
  clear b
  generalize (st.getD n dF).base = fb at *
  generalize (st.getD n dF).dead = fd at *
  obtain ⟨t1, t2, t3⟩ := htk
  have hlo : -100000 ≤ (tk q h fb fd).1 := by
    by_cases e : fb ≤ h
    · have := t2 e; omega
    · have := t3 (by omega); omega
  generalize tk q h fb fd = R at *
  obtain ⟨R1, R2⟩ := R
  dsimp only at *
  have hP : Hid (∀ u : World, BW u p F R1 (.slice (some ⟨g, 0, none⟩) (n + 1) cap) st → Calls Tryz.prog 128 #[.pointer (some ⟨p, 0, none⟩), .int .i64 r] u fun e w' => e = .returned (.tuple #[]) ∧ BW w' p F (R1 + r) (.slice (some ⟨g, 0, none⟩) (n + 1) cap) st ∧ Kp p u w' (.slice (some ⟨g, 0, none⟩) (n + 1) cap) (.slice (some ⟨g, 0, none⟩) (n + 1) cap)) := fun u hu => put p u F R1 _ st r hu (by omega) (by omega)
  have hcell : Hid ((w.alloc (.cells #[.int .i64 (q : Int), .int .i64 r] 119)).cell? ⟨w.heap.size, 1, none⟩ = some (.int .i64 r)) := by show _ = _; simp
  clear t1 t2 t3
  cases R2 with
  | false =>
    clear hP
    go_enter Tryz.func120, Tryz.ntmps120
    go_wp2_with (go_at_call 141; refine (hT.out _ hA.out).mono ?_; rintro e w1 ⟨rfl, b1, k1⟩; have b1' : Hid (BW w1 p F R1 (.slice (some ⟨g, 0, none⟩) (n + 1) cap) st) := b1; clear b1)
    go_ret
    exact ⟨rfl, b1'.out, hK.out.trans k1⟩
  | true =>
    go_enter Tryz.func120, Tryz.ntmps120
    go_wp2_with (first | (go_at_call 141; refine (hT.out _ hA.out).mono ?_; rintro e w1 ⟨rfl, b1, k1⟩; have c1 := k1.cell hcell.out hap.out.1 hap.out.2; have b1' : Hid (BW w1 p F R1 (.slice (some ⟨g, 0, none⟩) (n + 1) cap) st) := b1; clear b1) | (go_at_call 128; refine (hP.out _ b1'.out).mono ?_; rintro e w2 ⟨rfl, b2, k2⟩; have b2' : Hid (BW w2 p F (R1 + r) (.slice (some ⟨g, 0, none⟩) (n + 1) cap) st) := b2; clear b2))
    go_ret
    exact ⟨rfl, b2'.out, (hK.out.trans k1).trans k2⟩
end Go.Proofs.YtajlkdidjelpeaaGreatDoor.Walks
