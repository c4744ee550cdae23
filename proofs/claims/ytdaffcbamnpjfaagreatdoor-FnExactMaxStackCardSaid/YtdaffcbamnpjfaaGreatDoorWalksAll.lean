/-
  The program's walk over a body: what its methods answer and leave.
  The program's walk over a body: what its methods answer and leave, more of them. (Written by my walk2gen.py.)
  The program's walk over a body: what its methods answer and leave, the rest of the small ones. (Written by my walk3gen.py.)
  The program's walk over a body: leaving, branching, and what its methods come to in plain words. (Written by my walk4gen.py.)
-/
import Derived.Test.YtdaffcbamnpjfaaGreatDoorPiles
import Derived.Deep.RegionHeld
namespace Go.Proofs.YtdaffcbamnpjfaaGreatDoor.Walks
open Go.RowKit PlainShape PlainValid InsMem Piles

abbrev pv (g n cap : Nat) : Value := .slice (some ⟨g, 0, none⟩) n cap
set_option maxRecDepth 20000 in
set_option maxHeartbeats 3200000 in
theorem take (p g n cap : Nat) (w : World) (F : Nat → Value) (h : Int) (st : List Fr) (q : Nat) (b : BW w p F h (.slice (some ⟨g, 0, none⟩) (n + 1) cap) st) (hl : n + 1 ≤ 1048576) (hq : q ≤ 1000) (h0 : -1000000 ≤ h) (h1 : h ≤ 1000000) (h2 : -1000000 ≤ (st.getD n dF).base) (h3 : (st.getD n dF).base ≤ 1000000) :
    Calls Tryz.prog 141 #[.pointer (some ⟨p, 0, none⟩), .int .i64 (q : Int)] w fun e w' => e = .returned (.bool (tk q h (st.getD n dF).base (st.getD n dF).dead).2) ∧ BW w' p F (tk q h (st.getD n dF).base (st.getD n dF).dead).1 (.slice (some ⟨g, 0, none⟩) (n + 1) cap) st ∧ Kp p w w' (.slice (some ⟨g, 0, none⟩) (n + 1) cap) (.slice (some ⟨g, 0, none⟩) (n + 1) cap) := by
  have hn := b.len
  have hp := b.pile
  have b' : Hid (BW w p F h (.slice (some ⟨g, 0, none⟩) (n + 1) cap) st) := b
  have k : Hid (∀ u : World, u.cell? ⟨p, 12, none⟩ = some (.slice (some ⟨g, 0, none⟩) (n + 1) cap) → Calls Tryz.prog 117 #[.pointer (some ⟨p, 0, none⟩)] u fun e w' => e = .returned (.pointer (some ⟨g, n * 4, none⟩)) ∧ ∃ m, w' = u.drewN m) := fun u hu => last p g n cap u hu hl
  have hcs : Hid (∀ (u : World) (h' : Int), BW u p F h' (.slice (some ⟨g, 0, none⟩) (n + 1) cap) st → u.cell? ⟨p, 11, none⟩ = some (.int .i64 h') ∧ u.frozen? ⟨p, 11, none⟩ = false ∧ u.cell? ⟨g, n * 4 + 2, none⟩ = some (.int .i64 (st.getD n dF).base) ∧ u.cell? ⟨g, n * 4 + 3, none⟩ = some (.bool (st.getD n dF).dead)) := fun u h' bu => ⟨bu.hgt, bu.frozen 11, (bu.cells n (by omega)).2.2.1, (bu.cells n (by omega)).2.2.2⟩
  clear b hn
  generalize (st.getD n dF).base = fb at *
  generalize (st.getD n dF).dead = fd at *
  obtain ⟨R, hR⟩ : ∃ R, tk q h fb fd = R := ⟨_, rfl⟩
  have hF : Hid (tk q h fb fd = R) := hR
  rw [hR]
  clear hR
  go_enter Tryz.func141, Tryz.ntmps141
  go_wp2_with (go_at_call 117; refine (k.out _ hp).mono ?_; rintro e w1 ⟨rfl, m, rfl⟩)
  go_loopw [9] (fun vi wr => ∃ (j f : Nat) (h' : Int), j + f = q ∧ vi = .int .i64 j ∧ tk f h' fb fd = R ∧ -1000000 ≤ h' ∧ h' ≤ 1000000 ∧ BW wr p F h' (.slice (some ⟨g, 0, none⟩) (n + 1) cap) st ∧ Kp p w wr (.slice (some ⟨g, 0, none⟩) (n + 1) cap) (.slice (some ⟨g, 0, none⟩) (n + 1) cap)) (fun vi _ => q - (intOf vi).toNat)
  case atStart => exact ⟨0, q, h, by omega, rfl, hF.out, h0, h1, b'.out.drewN m, (Kp.refl _ _ _).drewN m⟩
  case round =>
    obtain ⟨j, f, h', hj, rfl, hr, l0, l1, bw, kp⟩ := hrel
    have hr' : Hid (tk f h' fb fd = R) := hr
    have bw' : Hid (BW wr p F h' (.slice (some ⟨g, 0, none⟩) (n + 1) cap) st) := bw
    have kp' : Hid (Kp p w wr (.slice (some ⟨g, 0, none⟩) (n + 1) cap) (.slice (some ⟨g, 0, none⟩) (n + 1) cap)) := kp
    obtain ⟨c0, c1, c2, c3⟩ := hcs.out wr h' bw
    clear hr bw kp hF
    by_cases hlt : j < q
    · have hlt' : (j : Int) < (q : Int) := by omega
      obtain ⟨f, rfl⟩ : ∃ i, f = i + 1 := ⟨f - 1, by omega⟩
      by_cases hb : fb < h'
      · have e1 : Hid (tk (f + 1) h' fb fd = tk f (h' - 1) fb fd) := tk_down hb
        go_wp2_with fail
        go_quiet (fail)
        go_wp2_with fail
        go_roundw
        case rel => exact ⟨j + 1, f, h' - 1, by omega, by go_num, by rw [← e1.out]; exact hr'.out, by omega, by omega, (bw'.out.drewN _).seth (h' - 1), (kp'.out.drewN _).trans (Kp.set _ _ _)⟩
        case measure => simp [intOf]; omega
      · cases fd with
        | true =>
          have e1 : Hid (tk (f + 1) h' fb true = tk f h' fb true) := tk_dead hb
          go_wp2_with fail
          go_quiet (fail)
          go_wp2_with fail
          go_roundw
          case rel => exact ⟨j + 1, f, h', by omega, by go_num, by rw [← e1.out]; exact hr'.out, by omega, by omega, bw'.out.drewN _, kp'.out.drewN _⟩
          case measure => simp [intOf]; omega
        | false =>
          have e1 : Hid (R = (h', false)) := by rw [← hr'.out]; exact tk_no hb
          go_wp2_with fail
          go_quiet (fail)
          go_wp2_with fail
          go_ret
          rw [e1.out]
          exact ⟨rfl, bw'.out.drewN _, kp'.out.drewN _⟩
    · obtain rfl : j = q := by omega
      obtain rfl : f = 0 := by omega
      have e1 : Hid (R = (h', true)) := hr'.out.symm
      go_wp2_with fail
      go_ret
      rw [e1.out]
      exact ⟨rfl, bw'.out, kp'.out⟩
theorem cellsF_set3 : ∀ (l : List Fr) (j : Nat) (d : Bool), j < l.length → (cellsF l).set (j * 4 + 3) (.bool d) = cellsF (l.set j ⟨(l.getD j dF).op, (l.getD j dF).res, (l.getD j dF).base, d⟩)
  | [], j, _, h => absurd h (by simp)
  | x :: l, 0, d, _ => rfl
  | x :: l, j + 1, d, h => by
    have h1 := cellsF_set3 l j d (by simpa using h)
    rw [show cellsF (x :: l) = [.int .i64 x.op, .int .i64 x.res, .int .i64 x.base, .bool x.dead] ++ cellsF l from rfl, show (j + 1) * 4 + 3 = (j * 4 + 3) + 4 by omega]
    show _ :: _ :: _ :: _ :: (cellsF l).set (j * 4 + 3) (.bool d) = _
    rw [h1]
    rfl
theorem cellsF_set0 : ∀ (l : List Fr) (j : Nat) (o : Int), j < l.length → (cellsF l).set (j * 4) (.int .i64 o) = cellsF (l.set j ⟨o, (l.getD j dF).res, (l.getD j dF).base, (l.getD j dF).dead⟩)
  | [], j, _, h => absurd h (by simp)
  | x :: l, 0, o, _ => rfl
  | x :: l, j + 1, o, h => by
    have h1 := cellsF_set0 l j o (by simpa using h)
    rw [show cellsF (x :: l) = [.int .i64 x.op, .int .i64 x.res, .int .i64 x.base, .bool x.dead] ++ cellsF l from rfl, show (j + 1) * 4 = (j * 4) + 4 by omega]
    show _ :: _ :: _ :: _ :: (cellsF l).set (j * 4) (.int .i64 o) = _
    rw [h1]
    rfl
theorem bwRow {w : World} {p g n cap : Nat} {F : Nat → Value} {h : Int} {st st' : List Fr} (b : BW w p F h (.slice (some ⟨g, 0, none⟩) n cap) st) (i : Nat) (x : Value) (hl : st'.length = st.length) (hc : (cellsF st).set i x = cellsF st') : BW (w.setCell ⟨g, i, none⟩ x) p F h (.slice (some ⟨g, 0, none⟩) n cap) st' := by
  have hn := b.len
  subst hn
  have hne : g ≠ p := fun e => b.not (by rw [e]; rfl)
  refine ⟨b.box.of_block (Below.heap_setCell _ _ _ _ (Ne.symm hne)), ?_⟩
  have := (World.ownsRow.stored b.own i x).1
  unfold OwnF
  rw [hl, ← hc]
  exact this
theorem bwDead {w : World} {p g n cap : Nat} {F : Nat → Value} {h : Int} {st : List Fr} (b : BW w p F h (.slice (some ⟨g, 0, none⟩) (n + 1) cap) st) (d : Bool) : BW (w.setCell ⟨g, n * 4 + 3, none⟩ (.bool d)) p F h (.slice (some ⟨g, 0, none⟩) (n + 1) cap) (st.set n ⟨(st.getD n dF).op, (st.getD n dF).res, (st.getD n dF).base, d⟩) :=
  bwRow b _ _ (by simp) (cellsF_set3 st n d (by have := b.len; omega))
theorem bwOp {w : World} {p g n cap : Nat} {F : Nat → Value} {h : Int} {st : List Fr} (b : BW w p F h (.slice (some ⟨g, 0, none⟩) (n + 1) cap) st) (o : Int) : BW (w.setCell ⟨g, n * 4, none⟩ (.int .i64 o)) p F h (.slice (some ⟨g, 0, none⟩) (n + 1) cap) (st.set n ⟨o, (st.getD n dF).res, (st.getD n dF).base, (st.getD n dF).dead⟩) :=
  bwRow b _ _ (by simp) (cellsF_set0 st n o (by have := b.len; omega))
set_option maxHeartbeats 1000000 in
theorem die (p g n cap : Nat) (w : World) (F : Nat → Value) (h : Int) (st : List Fr) (b : BW w p F h (.slice (some ⟨g, 0, none⟩) (n + 1) cap) st) (hl : n + 1 ≤ 1048576) :
    Calls Tryz.prog 142 #[.pointer (some ⟨p, 0, none⟩)] w fun e w' => e = .returned (.tuple #[]) ∧ BW w' p F (st.getD n dF).base (.slice (some ⟨g, 0, none⟩) (n + 1) cap) (st.set n ⟨(st.getD n dF).op, (st.getD n dF).res, (st.getD n dF).base, true⟩) ∧ Kp p w w' (.slice (some ⟨g, 0, none⟩) (n + 1) cap) (.slice (some ⟨g, 0, none⟩) (n + 1) cap) := by
  have hn := b.len
  have hp := b.pile
  have hne : g ≠ p := fun e => b.not (by rw [e]; rfl)
  have hc := b.hgt
  have hf := b.frozen 11
  have hf3 := b.rowFrozen (n * 4 + 3)
  obtain ⟨c0, c1, c2, c3⟩ := b.cells n (by omega)
  have b' : Hid (BW w p F h (.slice (some ⟨g, 0, none⟩) (n + 1) cap) st) := b
  have k : Hid (∀ u : World, u.cell? ⟨p, 12, none⟩ = some (.slice (some ⟨g, 0, none⟩) (n + 1) cap) → Calls Tryz.prog 117 #[.pointer (some ⟨p, 0, none⟩)] u fun e w' => e = .returned (.pointer (some ⟨g, n * 4, none⟩)) ∧ ∃ m, w' = u.drewN m) := fun u hu => last p g n cap u hu hl
  have hd : Hid (∀ (u : World) (h' : Int), BW u p F h' (.slice (some ⟨g, 0, none⟩) (n + 1) cap) st → BW (u.setCell ⟨g, n * 4 + 3, none⟩ (.bool true)) p F h' (.slice (some ⟨g, 0, none⟩) (n + 1) cap) (st.set n ⟨(st.getD n dF).op, (st.getD n dF).res, (st.getD n dF).base, true⟩)) := fun u h' bu => bwDead bu true
  clear b hn
  generalize st.set n ⟨(st.getD n dF).op, (st.getD n dF).res, (st.getD n dF).base, true⟩ = st' at *
  generalize st.getD n dF = f at *
  obtain ⟨fo, fr, fb, fd⟩ := f
  dsimp only at *
  go_enter Tryz.func142, Tryz.ntmps142
  go_wp2_with (go_at_call 117; refine (k.out _ hp).mono ?_; rintro e w1 ⟨rfl, m, rfl⟩)
  go_end0
  exact ⟨rfl, hd.out _ _ ((b'.out.drewN m).seth fb), (((Kp.refl p w _).drewN m).trans (Kp.set _ _ _)).trans (Kp.setRow _ _)⟩
/-- The height behind an exchange. -/
def exH (r : Int × Bool) (q : Int) : Int := if r.2 = true then r.1 + q else r.1
set_option maxHeartbeats 2000000 in
theorem exchange (p g n cap : Nat) (w : World) (F : Nat → Value) (h : Int) (st : List Fr) (q : Nat) (r : Int) (b : BW w p F h (.slice (some ⟨g, 0, none⟩) (n + 1) cap) st) (hl : n + 1 ≤ 1048576) (hq : q ≤ 1000) (h0 : -100000 ≤ h) (h1 : h ≤ 1000000) (h2 : -100000 ≤ (st.getD n dF).base) (h3 : (st.getD n dF).base ≤ 1000000) (hr : 0 ≤ r ∧ r ≤ 1000) :
    Calls Tryz.prog 120 #[.pointer (some ⟨p, 0, none⟩), .agg #[.int .i64 (q : Int), .int .i64 r]] w fun e w' => e = .returned (.bool (tk q h (st.getD n dF).base (st.getD n dF).dead).2) ∧ BW w' p F (exH (tk q h (st.getD n dF).base (st.getD n dF).dead) r) (.slice (some ⟨g, 0, none⟩) (n + 1) cap) st ∧ Kp p w w' (.slice (some ⟨g, 0, none⟩) (n + 1) cap) (.slice (some ⟨g, 0, none⟩) (n + 1) cap) := by
  have hT : Hid (∀ u : World, BW u p F h (.slice (some ⟨g, 0, none⟩) (n + 1) cap) st → Calls Tryz.prog 141 #[.pointer (some ⟨p, 0, none⟩), .int .i64 (q : Int)] u fun e w' => e = .returned (.bool (tk q h (st.getD n dF).base (st.getD n dF).dead).2) ∧ BW w' p F (tk q h (st.getD n dF).base (st.getD n dF).dead).1 (.slice (some ⟨g, 0, none⟩) (n + 1) cap) st ∧ Kp p u w' (.slice (some ⟨g, 0, none⟩) (n + 1) cap) (.slice (some ⟨g, 0, none⟩) (n + 1) cap)) := fun u hu => take p g n cap u F h st q hu hl hq (by omega) (by omega) (by omega) (by omega)
  have htk := tk_le q h (st.getD n dF).base (st.getD n dF).dead
  have hA : Hid (BW (w.alloc (.cells #[.int .i64 (q : Int), .int .i64 r] 119)) p F h (.slice (some ⟨g, 0, none⟩) (n + 1) cap) st) := b.alloc _
  have hap : Hid (w.heap.size ≠ p ∧ some w.heap.size ≠ (Value.slice (some ⟨g, 0, none⟩) (n + 1) cap).ownBlock) := b.past (Nat.le_refl _)
  have hK : Hid (Kp p w (w.alloc (.cells #[.int .i64 (q : Int), .int .i64 r] 119)) (.slice (some ⟨g, 0, none⟩) (n + 1) cap) (.slice (some ⟨g, 0, none⟩) (n + 1) cap)) := Kp.alloc p w _ _
  clear b
  generalize (st.getD n dF).base = fb at *
  generalize (st.getD n dF).dead = fd at *
  obtain ⟨t1, t2, t3⟩ := htk
  have hlo : -100000 ≤ (tk q h fb fd).1 := by
    by_cases e : fb ≤ h
    · have := t2 e; omega
    · have := t3 (by omega); omega
  generalize tk q h fb fd = R at *
  obtain ⟨R1, R2⟩ := R
  dsimp only at *
  have hP : Hid (∀ u : World, BW u p F R1 (.slice (some ⟨g, 0, none⟩) (n + 1) cap) st → Calls Tryz.prog 128 #[.pointer (some ⟨p, 0, none⟩), .int .i64 r] u fun e w' => e = .returned (.tuple #[]) ∧ BW w' p F (R1 + r) (.slice (some ⟨g, 0, none⟩) (n + 1) cap) st ∧ Kp p u w' (.slice (some ⟨g, 0, none⟩) (n + 1) cap) (.slice (some ⟨g, 0, none⟩) (n + 1) cap)) := fun u hu => put p u F R1 _ st r hu (by omega) (by omega)
  have hcell : Hid ((w.alloc (.cells #[.int .i64 (q : Int), .int .i64 r] 119)).cell? ⟨w.heap.size, 1, none⟩ = some (.int .i64 r)) := by show _ = _; simp
  clear t1 t2 t3
  cases R2 with
  | false =>
    clear hP
    go_enter Tryz.func120, Tryz.ntmps120
    go_wp2_with (go_at_call 141; refine (hT.out _ hA.out).mono ?_; rintro e w1 ⟨rfl, b1, k1⟩; have b1' : Hid (BW w1 p F R1 (.slice (some ⟨g, 0, none⟩) (n + 1) cap) st) := b1; clear b1)
    go_ret
    exact ⟨rfl, b1'.out, hK.out.trans k1⟩
  | true =>
    go_enter Tryz.func120, Tryz.ntmps120
    go_wp2_with (first | (go_at_call 141; refine (hT.out _ hA.out).mono ?_; rintro e w1 ⟨rfl, b1, k1⟩; have c1 := k1.cell hcell.out hap.out.1 hap.out.2; have b1' : Hid (BW w1 p F R1 (.slice (some ⟨g, 0, none⟩) (n + 1) cap) st) := b1; clear b1) | (go_at_call 128; refine (hP.out _ b1'.out).mono ?_; rintro e w2 ⟨rfl, b2, k2⟩; have b2' : Hid (BW w2 p F (R1 + r) (.slice (some ⟨g, 0, none⟩) (n + 1) cap) st) := b2; clear b2))
    go_ret
    exact ⟨rfl, b2'.out, (hK.out.trans k1).trans k2⟩
end Go.Proofs.YtdaffcbamnpjfaaGreatDoor.Walks
namespace Go.Proofs.YtdaffcbamnpjfaaGreatDoor.Walks2
open Go.RowKit PlainShape PlainValid InsMem Piles Walks
set_option maxRecDepth 20000 in
set_option maxHeartbeats 2000000 in
theorem openUp (p : Nat) (w : World) (F : Nat → Value) (h : Int) (v : Value) (st : List Fr) (o r : Int) (b : BW w p F h v st) (hl : st.length ≤ 1048576) :
    Calls Tryz.prog 115 #[.pointer (some ⟨p, 0, none⟩), .int .i64 o, .int .i64 r] w fun e w' => e = .returned (.tuple #[]) ∧ ∃ g cap, BW w' p F h (.slice (some ⟨g, 0, none⟩) (st.length + 1) cap) (st ++ [⟨o, r, h, false⟩]) ∧ Kp p w w' v (.slice (some ⟨g, 0, none⟩) (st.length + 1) cap) := by
  have hc := b.hgt
  have b' : Hid (BW w p F h v st) := b
  have k : Hid (∀ (u : World) (g0 : Nat), BW u p F h v st → u.heap[g0]? = some (.cells #[.int .i64 o, .int .i64 r, .int .i64 h, .bool false] 172 (0, 0)) → Calls Tryz.prog 139 #[.pointer (some ⟨p, 12, none⟩), .slice (some ⟨g0, 0, none⟩) 1 1] u fun e w' => e = .returned (.tuple #[]) ∧ ∃ g cap, BW w' p F h (.slice (some ⟨g, 0, none⟩) (st.length + 1) cap) (st ++ [⟨o, r, h, false⟩]) ∧ Kp p u w' v (.slice (some ⟨g, 0, none⟩) (st.length + 1) cap)) := fun u g0 hu hg => push p g0 u F h v st o r h false hu hl hg
  have hn : Hid ((w.drew.alloc (.cells #[.int .i64 o, .int .i64 r, .int .i64 h, .bool false] 172)).heap[w.heap.size]? = some (.cells #[.int .i64 o, .int .i64 r, .int .i64 h, .bool false] 172 (0, 0))) := heap_alloc_new w.drew (.cells #[.int .i64 o, .int .i64 r, .int .i64 h, .bool false] 172)
  clear b
  go_enter Tryz.func115, Tryz.ntmps115
  go_region_held3 (fun w' => w'.cell? ⟨p, 11, none⟩ = some (.int .i64 h)) (first | assumption | go_keep) ((go_at_call 139; refine (k.out _ _ (b'.out.drew.alloc _) hn.out).mono ?_; rintro e w1 ⟨rfl, g, cap, b1, k1⟩; have c1 := b1.hgt; have b1' : Hid (BW w1 p F h (.slice (some ⟨g, 0, none⟩) (st.length + 1) cap) (st ++ [⟨o, r, h, false⟩])) := b1; clear b1))
  go_wp2_with fail
  go_end0
  exact ⟨rfl, g, cap, b1'.out, (((Kp.refl p w v).drew).trans (Kp.alloc p _ v _)).trans k1⟩
set_option maxRecDepth 20000 in
set_option maxHeartbeats 4000000 in
theorem leavesResults (p g n cap : Nat) (w : World) (F : Nat → Value) (h : Int) (st : List Fr) (b : BW w p F h (.slice (some ⟨g, 0, none⟩) (n + 1) cap) st) (hl : n + 1 ≤ 1048576) (h0 : -100000 ≤ h) (h1 : h ≤ 1000000) (h2 : -100000 ≤ (st.getD n dF).base) (h3 : (st.getD n dF).base ≤ 1000000) (h4 : 0 ≤ (st.getD n dF).res ∧ (st.getD n dF).res ≤ 1) :
    Calls Tryz.prog 126 #[.pointer (some ⟨p, 0, none⟩)] w fun e w' => e = .returned (.bool ((tk (st.getD n dF).res.toNat h (st.getD n dF).base (st.getD n dF).dead).2 && decide ((tk (st.getD n dF).res.toNat h (st.getD n dF).base (st.getD n dF).dead).1 = (st.getD n dF).base))) ∧ BW w' p F (tk (st.getD n dF).res.toNat h (st.getD n dF).base (st.getD n dF).dead).1 (.slice (some ⟨g, 0, none⟩) (n + 1) cap) st ∧ Kp p w w' (.slice (some ⟨g, 0, none⟩) (n + 1) cap) (.slice (some ⟨g, 0, none⟩) (n + 1) cap) := by
  have hn := b.len
  have hp := b.pile
  obtain ⟨c0, c1, c2, c3⟩ := b.cells n (by omega)
  have b' : Hid (BW w p F h (.slice (some ⟨g, 0, none⟩) (n + 1) cap) st) := b
  have k : Hid (∀ u : World, u.cell? ⟨p, 12, none⟩ = some (.slice (some ⟨g, 0, none⟩) (n + 1) cap) → Calls Tryz.prog 117 #[.pointer (some ⟨p, 0, none⟩)] u fun e w' => e = .returned (.pointer (some ⟨g, n * 4, none⟩)) ∧ ∃ m, w' = u.drewN m) := fun u hu => last p g n cap u hu hl
  have hT : Hid (∀ u : World, BW u p F h (.slice (some ⟨g, 0, none⟩) (n + 1) cap) st → Calls Tryz.prog 141 #[.pointer (some ⟨p, 0, none⟩), .int .i64 (st.getD n dF).res] u fun e w' => e = .returned (.bool (tk (st.getD n dF).res.toNat h (st.getD n dF).base (st.getD n dF).dead).2) ∧ BW w' p F (tk (st.getD n dF).res.toNat h (st.getD n dF).base (st.getD n dF).dead).1 (.slice (some ⟨g, 0, none⟩) (n + 1) cap) st ∧ Kp p u w' (.slice (some ⟨g, 0, none⟩) (n + 1) cap) (.slice (some ⟨g, 0, none⟩) (n + 1) cap)) := fun u hu => by
    have := take p g n cap u F h st (st.getD n dF).res.toNat hu hl (by omega) (by omega) (by omega) (by omega) (by omega)
    rw [Int.toNat_of_nonneg h4.1] at this
    exact this
  have hcs : Hid (∀ (u : World) (h' : Int), BW u p F h' (.slice (some ⟨g, 0, none⟩) (n + 1) cap) st → u.cell? ⟨p, 11, none⟩ = some (.int .i64 h') ∧ u.cell? ⟨g, n * 4 + 1, none⟩ = some (.int .i64 (st.getD n dF).res) ∧ u.cell? ⟨g, n * 4 + 2, none⟩ = some (.int .i64 (st.getD n dF).base)) := fun u h' bu => ⟨bu.hgt, (bu.cells n (by omega)).2.1, (bu.cells n (by omega)).2.2.1⟩
  clear b hn
  generalize (tk (st.getD n dF).res.toNat h (st.getD n dF).base (st.getD n dF).dead) = R at *
  generalize (st.getD n dF).base = fb at *
  generalize (st.getD n dF).res = fr at *
  obtain ⟨R1, R2⟩ := R
  dsimp only at *
  cases R2 with
  | false =>
    go_enter Tryz.func126, Tryz.ntmps126
    go_wp2_with (go_at_call 117; refine (k.out _ hp).mono ?_; rintro e w1 ⟨rfl, m, rfl⟩)
    first | go_region_with (go_at_call 141; refine (hT.out _ (b'.out.drewN m).drew).mono ?_; rintro e w2 ⟨rfl, b2, k2⟩; have b2' : Hid (BW w2 p F R1 (.slice (some ⟨g, 0, none⟩) (n + 1) cap) st) := b2; obtain ⟨_, _, _⟩ := hcs.out _ _ b2; clear b2) | fail
    all_goals
      go_wp2_with fail
      go_ret
      exact ⟨rfl, b2'.out, (((Kp.refl p w _).drewN m).drew).trans k2⟩
  | true =>
    go_enter Tryz.func126, Tryz.ntmps126
    go_wp2_with (go_at_call 117; refine (k.out _ hp).mono ?_; rintro e w1 ⟨rfl, m, rfl⟩)
    go_region_with (go_at_call 141; refine (hT.out _ (b'.out.drewN m).drew).mono ?_; rintro e w2 ⟨rfl, b2, k2⟩; have b2' : Hid (BW w2 p F R1 (.slice (some ⟨g, 0, none⟩) (n + 1) cap) st) := b2; obtain ⟨_, _, _⟩ := hcs.out _ _ b2; clear b2)
    all_goals
      go_wp2_with fail
      go_ret
      refine ⟨?_, b2'.out, (((Kp.refl p w _).drewN m).drew).trans k2⟩
      refine congrArg (fun x => Ending.returned (.bool x)) (?_ : (_ : Bool) = _)
      rw [Bool.eq_iff_iff]
      simp
end Go.Proofs.YtdaffcbamnpjfaaGreatDoor.Walks2
namespace Go.Proofs.YtdaffcbamnpjfaaGreatDoor.Walks3
open Go.RowKit PlainShape PlainValid InsMem Piles Walks Walks2
theorem branchTakes (g j : Nat) (o r : Int) (w : World) (c0 : w.cell? ⟨g, j * 4, none⟩ = some (.int .i64 o)) (c1 : w.cell? ⟨g, j * 4 + 1, none⟩ = some (.int .i64 r)) (b : Int) (d : Bool) :
    Calls Tryz.prog 124 #[.pointer (some ⟨g, j * 4, none⟩)] w fun e w' => e = .returned (.int .i64 (brT ⟨o, r, b, d⟩)) ∧ w = w' := by
  by_cases h : o = 3
  · subst h
    go_enter Tryz.func124, Tryz.ntmps124
    go_wp2_with fail
    go_ret
    exact ⟨rfl, rfl⟩
  · have e1 : Hid (brT ⟨o, r, b, d⟩ = r) := if_neg h
    rw [e1.out]
    have h' : (o == 3) = false := by simpa using h
    clear h
    go_enter Tryz.func124, Tryz.ntmps124
    go_wp2_with fail
    go_ret
    exact ⟨rfl, rfl⟩
theorem told (p g n cap : Nat) (w : World) (F : Nat → Value) (h : Int) (st : List Fr) (b : BW w p F h (.slice (some ⟨g, 0, none⟩) (n + 1) cap) st) (hl : n + 1 ≤ 1048576) :
    Calls Tryz.prog 79 #[.pointer (some ⟨p, 0, none⟩)] w fun e w' => e = .returned (.int .i64 (if (st.getD n dF).dead = true then -1 else h)) ∧ ∃ m, w' = w.drewN m := by
  have hn := b.len
  have hp := b.pile
  have hc := b.hgt
  obtain ⟨c0, c1, c2, c3⟩ := b.cells n (by omega)
  have k : Hid (∀ u : World, u.cell? ⟨p, 12, none⟩ = some (.slice (some ⟨g, 0, none⟩) (n + 1) cap) → Calls Tryz.prog 117 #[.pointer (some ⟨p, 0, none⟩)] u fun e w' => e = .returned (.pointer (some ⟨g, n * 4, none⟩)) ∧ ∃ m, w' = u.drewN m) := fun u hu => last p g n cap u hu hl
  clear b hn
  generalize st.getD n dF = f at *
  obtain ⟨fo, fr, fb, fd⟩ := f
  dsimp only at *
  cases fd with
  | true =>
    go_enter Tryz.func79, Tryz.ntmps79
    go_wp2_with (go_at_call 117; refine (k.out _ hp).mono ?_; rintro e w1 ⟨rfl, m, rfl⟩)
    go_ret
    exact ⟨rfl, m, rfl⟩
  | false =>
    go_enter Tryz.func79, Tryz.ntmps79
    go_wp2_with (go_at_call 117; refine (k.out _ hp).mono ?_; rintro e w1 ⟨rfl, m, rfl⟩)
    go_ret
    exact ⟨rfl, m, rfl⟩
theorem bwElse {w : World} {p g n cap : Nat} {F : Nat → Value} {h : Int} {st : List Fr} (b : BW w p F h (.slice (some ⟨g, 0, none⟩) (n + 1) cap) st) : BW ((w.setCell ⟨g, n * 4, none⟩ (.int .i64 5)).setCell ⟨g, n * 4 + 3, none⟩ (.bool false)) p F h (.slice (some ⟨g, 0, none⟩) (n + 1) cap) (st.set n ⟨5, (st.getD n dF).res, (st.getD n dF).base, false⟩) := by
  have hn := b.len
  have b1 := bwDead (bwOp b 5) false
  have e : (st.set n ⟨5, (st.getD n dF).res, (st.getD n dF).base, (st.getD n dF).dead⟩).getD n dF = ⟨5, (st.getD n dF).res, (st.getD n dF).base, (st.getD n dF).dead⟩ := by
    rw [List.getD_eq_getElem?_getD, List.getElem?_set_self (by omega)]
    rfl
  rw [e, List.set_set] at b1
  exact b1
set_option maxHeartbeats 2000000 in
theorem turn (p g n cap : Nat) (w : World) (F : Nat → Value) (h : Int) (st : List Fr) (b : BW w p F h (.slice (some ⟨g, 0, none⟩) (n + 1) cap) st) (hl : n + 1 ≤ 1048576) (h0 : -100000 ≤ h) (h1 : h ≤ 1000000) (h2 : -100000 ≤ (st.getD n dF).base) (h3 : (st.getD n dF).base ≤ 1000000) (h4 : 0 ≤ (st.getD n dF).res ∧ (st.getD n dF).res ≤ 1) :
    Calls Tryz.prog 122 #[.pointer (some ⟨p, 0, none⟩)] w fun e w' => e = .returned (.bool ((tk (st.getD n dF).res.toNat h (st.getD n dF).base (st.getD n dF).dead).2 && decide ((tk (st.getD n dF).res.toNat h (st.getD n dF).base (st.getD n dF).dead).1 = (st.getD n dF).base))) ∧ BW w' p F (tk (st.getD n dF).res.toNat h (st.getD n dF).base (st.getD n dF).dead).1 (.slice (some ⟨g, 0, none⟩) (n + 1) cap) (st.set n ⟨5, (st.getD n dF).res, (st.getD n dF).base, false⟩) ∧ Kp p w w' (.slice (some ⟨g, 0, none⟩) (n + 1) cap) (.slice (some ⟨g, 0, none⟩) (n + 1) cap) := by
  have hn := b.len
  have b' : Hid (BW w p F h (.slice (some ⟨g, 0, none⟩) (n + 1) cap) st) := b
  have k : Hid (∀ u : World, u.cell? ⟨p, 12, none⟩ = some (.slice (some ⟨g, 0, none⟩) (n + 1) cap) → Calls Tryz.prog 117 #[.pointer (some ⟨p, 0, none⟩)] u fun e w' => e = .returned (.pointer (some ⟨g, n * 4, none⟩)) ∧ ∃ m, w' = u.drewN m) := fun u hu => last p g n cap u hu hl
  have hL : Hid (∀ u : World, BW u p F h (.slice (some ⟨g, 0, none⟩) (n + 1) cap) st → Calls Tryz.prog 126 #[.pointer (some ⟨p, 0, none⟩)] u fun e w' => e = .returned (.bool ((tk (st.getD n dF).res.toNat h (st.getD n dF).base (st.getD n dF).dead).2 && decide ((tk (st.getD n dF).res.toNat h (st.getD n dF).base (st.getD n dF).dead).1 = (st.getD n dF).base))) ∧ BW w' p F (tk (st.getD n dF).res.toNat h (st.getD n dF).base (st.getD n dF).dead).1 (.slice (some ⟨g, 0, none⟩) (n + 1) cap) st ∧ Kp p u w' (.slice (some ⟨g, 0, none⟩) (n + 1) cap) (.slice (some ⟨g, 0, none⟩) (n + 1) cap)) := fun u hu => leavesResults p g n cap u F h st hu hl h0 h1 h2 h3 h4
  have hcs : Hid (∀ (u : World) (h' : Int), BW u p F h' (.slice (some ⟨g, 0, none⟩) (n + 1) cap) st → u.cell? ⟨p, 12, none⟩ = some (.slice (some ⟨g, 0, none⟩) (n + 1) cap) ∧ u.cell? ⟨g, n * 4, none⟩ = some (.int .i64 (st.getD n dF).op) ∧ u.cell? ⟨g, n * 4 + 3, none⟩ = some (.bool (st.getD n dF).dead) ∧ u.frozen? ⟨g, n * 4, none⟩ = false ∧ u.frozen? ⟨g, n * 4 + 3, none⟩ = false) := fun u h' bu => ⟨bu.pile, (bu.cells n (by omega)).1, (bu.cells n (by omega)).2.2.2, bu.rowFrozen _, bu.rowFrozen _⟩
  have hE : Hid (∀ (u : World) (h' : Int), BW u p F h' (.slice (some ⟨g, 0, none⟩) (n + 1) cap) st → BW ((u.setCell ⟨g, n * 4, none⟩ (.int .i64 5)).setCell ⟨g, n * 4 + 3, none⟩ (.bool false)) p F h' (.slice (some ⟨g, 0, none⟩) (n + 1) cap) (st.set n ⟨5, (st.getD n dF).res, (st.getD n dF).base, false⟩)) := fun u h' bu => bwElse bu
  clear b hn
  generalize ((tk (st.getD n dF).res.toNat h (st.getD n dF).base (st.getD n dF).dead).2 && decide ((tk (st.getD n dF).res.toNat h (st.getD n dF).base (st.getD n dF).dead).1 = (st.getD n dF).base)) = E at *
  generalize (tk (st.getD n dF).res.toNat h (st.getD n dF).base (st.getD n dF).dead).1 = R1 at *
  generalize st.set n ⟨5, (st.getD n dF).res, (st.getD n dF).base, false⟩ = st' at *
  generalize (st.getD n dF).op = fo at *
  generalize (st.getD n dF).dead = fd at *
  clear h0 h1 h2 h3 h4
  go_enter Tryz.func122, Tryz.ntmps122
  go_wp2_with (first | (go_at_call 126; refine (hL.out _ b'.out).mono ?_; rintro e w1 ⟨rfl, b1, k1⟩; have b1' : Hid (BW w1 p F R1 (.slice (some ⟨g, 0, none⟩) (n + 1) cap) st) := b1; obtain ⟨d0, _⟩ := hcs.out _ _ b1; clear b1) | (go_at_call 117; refine (k.out _ d0).mono ?_; rintro e w2 ⟨rfl, m, rfl⟩; clear d0; obtain ⟨d0, d1, d2, d3, d4⟩ := hcs.out _ _ (b1'.out.drewN m)))
  go_ret
  exact ⟨rfl, hE.out _ _ (b1'.out.drewN m), ((k1.drewN m).trans (Kp.setRow _ _)).trans (Kp.setRow _ _)⟩
set_option maxRecDepth 20000 in
set_option maxHeartbeats 4000000 in
theorem closeDown (p g n cap : Nat) (w : World) (F : Nat → Value) (h : Int) (st : List Fr) (b : BW w p F h (.slice (some ⟨g, 0, none⟩) (n + 1) cap) st) (hl : n + 1 ≤ 1048576) (h0 : -100000 ≤ h) (h1 : h ≤ 1000000) (h2 : -100000 ≤ (st.getD n dF).base) (h3 : (st.getD n dF).base ≤ 1000000) (h4 : 0 ≤ (st.getD n dF).res ∧ (st.getD n dF).res ≤ 1) :
    Calls Tryz.prog 81 #[.pointer (some ⟨p, 0, none⟩)] w fun e w' => e = .returned (.bool (((tk (st.getD n dF).res.toNat h (st.getD n dF).base (st.getD n dF).dead).2 && decide ((tk (st.getD n dF).res.toNat h (st.getD n dF).base (st.getD n dF).dead).1 = (st.getD n dF).base)) && decide ((st.getD n dF).op ≠ 4 ∨ (st.getD n dF).res = 0))) ∧ BW w' p F ((tk (st.getD n dF).res.toNat h (st.getD n dF).base (st.getD n dF).dead).1 + (st.getD n dF).res) (.slice (some ⟨g, 0, none⟩) n cap) (st.take n) ∧ Kp p w w' (.slice (some ⟨g, 0, none⟩) (n + 1) cap) (.slice (some ⟨g, 0, none⟩) n cap) := by
  have hn := b.len
  have b' : Hid (BW w p F h (.slice (some ⟨g, 0, none⟩) (n + 1) cap) st) := b
  have hL : Hid (∀ u : World, BW u p F h (.slice (some ⟨g, 0, none⟩) (n + 1) cap) st → Calls Tryz.prog 126 #[.pointer (some ⟨p, 0, none⟩)] u fun e w' => e = .returned (.bool ((tk (st.getD n dF).res.toNat h (st.getD n dF).base (st.getD n dF).dead).2 && decide ((tk (st.getD n dF).res.toNat h (st.getD n dF).base (st.getD n dF).dead).1 = (st.getD n dF).base))) ∧ BW w' p F (tk (st.getD n dF).res.toNat h (st.getD n dF).base (st.getD n dF).dead).1 (.slice (some ⟨g, 0, none⟩) (n + 1) cap) st ∧ Kp p u w' (.slice (some ⟨g, 0, none⟩) (n + 1) cap) (.slice (some ⟨g, 0, none⟩) (n + 1) cap)) := fun u hu => leavesResults p g n cap u F h st hu hl h0 h1 h2 h3 h4
  have hP : Hid (∀ (u : World) (h' : Int), BW u p F h' (.slice (some ⟨g, 0, none⟩) (n + 1) cap) st → Calls Tryz.prog 127 #[.pointer (some ⟨p, 12, none⟩)] u fun e w' => e = .returned (.agg #[.int .i64 (st.getD n dF).op, .int .i64 (st.getD n dF).res, .int .i64 (st.getD n dF).base, .bool (st.getD n dF).dead]) ∧ BW w' p F h' (.slice (some ⟨g, 0, none⟩) n cap) (st.take n) ∧ Kp p u w' (.slice (some ⟨g, 0, none⟩) (n + 1) cap) (.slice (some ⟨g, 0, none⟩) n cap)) := fun u h' hu => pop p g n cap u F h' st hu hl
  have htk := tk_le (st.getD n dF).res.toNat h (st.getD n dF).base (st.getD n dF).dead
  have hlo : -100000 ≤ (tk (st.getD n dF).res.toNat h (st.getD n dF).base (st.getD n dF).dead).1 := by
    by_cases e : (st.getD n dF).base ≤ h
    · have := htk.2.1 e; omega
    · have := htk.2.2 (by omega); omega
  have hhi : (tk (st.getD n dF).res.toNat h (st.getD n dF).base (st.getD n dF).dead).1 ≤ 1000000 := by have := htk.1; omega
  have hU : Hid (∀ u : World, BW u p F (tk (st.getD n dF).res.toNat h (st.getD n dF).base (st.getD n dF).dead).1 (.slice (some ⟨g, 0, none⟩) n cap) (st.take n) → Calls Tryz.prog 128 #[.pointer (some ⟨p, 0, none⟩), .int .i64 (st.getD n dF).res] u fun e w' => e = .returned (.tuple #[]) ∧ BW w' p F ((tk (st.getD n dF).res.toNat h (st.getD n dF).base (st.getD n dF).dead).1 + (st.getD n dF).res) (.slice (some ⟨g, 0, none⟩) n cap) (st.take n) ∧ Kp p u w' (.slice (some ⟨g, 0, none⟩) n cap) (.slice (some ⟨g, 0, none⟩) n cap)) := fun u hu => put p u F _ _ _ _ hu (by omega) (by omega)
  clear b hn
  generalize ((tk (st.getD n dF).res.toNat h (st.getD n dF).base (st.getD n dF).dead).2 && decide ((tk (st.getD n dF).res.toNat h (st.getD n dF).base (st.getD n dF).dead).1 = (st.getD n dF).base)) = E at *
  clear htk
  generalize (tk (st.getD n dF).res.toNat h (st.getD n dF).base (st.getD n dF).dead).1 = R1 at *
  generalize st.getD n dF = f at *
  obtain ⟨fo, fr, fb, fd⟩ := f
  dsimp only at *
  have hcn : Hid (∀ u : World, (u.alloc (.cells #[.int .i64 fo, .int .i64 fr, .int .i64 fb, .bool fd] 172)).cell? ⟨u.heap.size, 0, none⟩ = some (.int .i64 fo) ∧ (u.alloc (.cells #[.int .i64 fo, .int .i64 fr, .int .i64 fb, .bool fd] 172)).cell? ⟨u.heap.size, 1, none⟩ = some (.int .i64 fr)) := fun u => ⟨by simp, by simp⟩
  clear h0 h1 h2 h3 hlo hhi
  have hsplit : (E = false) ∨ (E = true ∧ (fo == 4) = false ∧ (fo != 4) = true ∧ fo ≠ 4) ∨ (E = true ∧ fo = 4 ∧ (fr == 0) = true ∧ fr = 0) ∨ (E = true ∧ fo = 4 ∧ (fr == 0) = false ∧ fr ≠ 0) := by
    cases E with
    | false => exact .inl rfl
    | true =>
      by_cases x : fo = 4
      · by_cases y : fr = 0
        · exact .inr (.inr (.inl ⟨rfl, x, by simp [y], y⟩))
        · exact .inr (.inr (.inr ⟨rfl, x, by simp [y], y⟩))
      · exact .inr (.inl ⟨rfl, by simp [x], by simp [x], x⟩)
  rcases hsplit with rfl | ⟨rfl, x1, x2, x3⟩ | ⟨rfl, rfl, y1, y2⟩ | ⟨rfl, rfl, y1, y2⟩
  · go_enter Tryz.func81, Tryz.ntmps81
    go_wp2_with (first | (go_at_call 126; refine (hL.out _ b'.out).mono ?_; rintro e w1 ⟨rfl, b1, k1⟩; have b1' : Hid (BW w1 p F R1 (.slice (some ⟨g, 0, none⟩) (n + 1) cap) st) := b1; clear b1) | (go_at_call 127; refine (hP.out _ _ b1'.out).mono ?_; rintro e w2 ⟨rfl, b2, k2⟩; have b2' : Hid (BW w2 p F R1 (.slice (some ⟨g, 0, none⟩) n cap) (st.take n)) := b2; have ap2 : Hid (w2.heap.size ≠ p ∧ some w2.heap.size ≠ (Value.slice (some ⟨g, 0, none⟩) n cap).ownBlock) := b2.past (Nat.le_refl _); clear b2) | (go_at_call 128; refine (hU.out _ (b2'.out.alloc _)).mono ?_; rintro e w3 ⟨rfl, b3, k3⟩; have b3' : Hid (BW w3 p F (R1 + fr) (.slice (some ⟨g, 0, none⟩) n cap) (st.take n)) := b3; obtain ⟨x0, x1⟩ := hcn.out w2; have d0 := k3.cell x0 ap2.out.1 ap2.out.2; have d1 := k3.cell x1 ap2.out.1 ap2.out.2; clear b3 x0 x1))
    go_ret
    exact ⟨rfl, b3'.out, ((k1.trans k2).trans (Kp.alloc p _ _ _)).trans k3⟩
  · have e1 : Hid ((true && decide (fo ≠ 4 ∨ fr = 0)) = true) := by show _ = _; simp [x3]
    rw [e1.out]
    clear x3
    go_enter Tryz.func81, Tryz.ntmps81
    go_wp2_with (first | (go_at_call 126; refine (hL.out _ b'.out).mono ?_; rintro e w1 ⟨rfl, b1, k1⟩; have b1' : Hid (BW w1 p F R1 (.slice (some ⟨g, 0, none⟩) (n + 1) cap) st) := b1; clear b1) | (go_at_call 127; refine (hP.out _ _ b1'.out).mono ?_; rintro e w2 ⟨rfl, b2, k2⟩; have b2' : Hid (BW w2 p F R1 (.slice (some ⟨g, 0, none⟩) n cap) (st.take n)) := b2; have ap2 : Hid (w2.heap.size ≠ p ∧ some w2.heap.size ≠ (Value.slice (some ⟨g, 0, none⟩) n cap).ownBlock) := b2.past (Nat.le_refl _); clear b2) | (go_at_call 128; refine (hU.out _ (b2'.out.alloc _)).mono ?_; rintro e w3 ⟨rfl, b3, k3⟩; have b3' : Hid (BW w3 p F (R1 + fr) (.slice (some ⟨g, 0, none⟩) n cap) (st.take n)) := b3; obtain ⟨x0, x1⟩ := hcn.out w2; have d0 := k3.cell x0 ap2.out.1 ap2.out.2; have d1 := k3.cell x1 ap2.out.1 ap2.out.2; clear b3 x0 x1))
    go_ret
    exact ⟨rfl, b3'.out, ((k1.trans k2).trans (Kp.alloc p _ _ _)).trans k3⟩
  · have e1 : Hid ((true && decide ((4 : Int) ≠ 4 ∨ fr = 0)) = true) := by show _ = _; simp [y2]
    rw [e1.out]
    clear y2
    go_enter Tryz.func81, Tryz.ntmps81
    go_wp2_with (first | (go_at_call 126; refine (hL.out _ b'.out).mono ?_; rintro e w1 ⟨rfl, b1, k1⟩; have b1' : Hid (BW w1 p F R1 (.slice (some ⟨g, 0, none⟩) (n + 1) cap) st) := b1; clear b1) | (go_at_call 127; refine (hP.out _ _ b1'.out).mono ?_; rintro e w2 ⟨rfl, b2, k2⟩; have b2' : Hid (BW w2 p F R1 (.slice (some ⟨g, 0, none⟩) n cap) (st.take n)) := b2; have ap2 : Hid (w2.heap.size ≠ p ∧ some w2.heap.size ≠ (Value.slice (some ⟨g, 0, none⟩) n cap).ownBlock) := b2.past (Nat.le_refl _); clear b2) | (go_at_call 128; refine (hU.out _ (b2'.out.alloc _)).mono ?_; rintro e w3 ⟨rfl, b3, k3⟩; have b3' : Hid (BW w3 p F (R1 + fr) (.slice (some ⟨g, 0, none⟩) n cap) (st.take n)) := b3; obtain ⟨x0, x1⟩ := hcn.out w2; have d0 := k3.cell x0 ap2.out.1 ap2.out.2; have d1 := k3.cell x1 ap2.out.1 ap2.out.2; clear b3 x0 x1))
    go_ret
    exact ⟨rfl, b3'.out, ((k1.trans k2).trans (Kp.alloc p _ _ _)).trans k3⟩
  · have e1 : Hid ((true && decide ((4 : Int) ≠ 4 ∨ fr = 0)) = false) := by show _ = _; simp [y2]
    rw [e1.out]
    clear y2
    go_enter Tryz.func81, Tryz.ntmps81
    go_wp2_with (first | (go_at_call 126; refine (hL.out _ b'.out).mono ?_; rintro e w1 ⟨rfl, b1, k1⟩; have b1' : Hid (BW w1 p F R1 (.slice (some ⟨g, 0, none⟩) (n + 1) cap) st) := b1; clear b1) | (go_at_call 127; refine (hP.out _ _ b1'.out).mono ?_; rintro e w2 ⟨rfl, b2, k2⟩; have b2' : Hid (BW w2 p F R1 (.slice (some ⟨g, 0, none⟩) n cap) (st.take n)) := b2; have ap2 : Hid (w2.heap.size ≠ p ∧ some w2.heap.size ≠ (Value.slice (some ⟨g, 0, none⟩) n cap).ownBlock) := b2.past (Nat.le_refl _); clear b2) | (go_at_call 128; refine (hU.out _ (b2'.out.alloc _)).mono ?_; rintro e w3 ⟨rfl, b3, k3⟩; have b3' : Hid (BW w3 p F (R1 + fr) (.slice (some ⟨g, 0, none⟩) n cap) (st.take n)) := b3; obtain ⟨x0, x1⟩ := hcn.out w2; have d0 := k3.cell x0 ap2.out.1 ap2.out.2; have d1 := k3.cell x1 ap2.out.1 ap2.out.2; clear b3 x0 x1))
    go_ret
    exact ⟨rfl, b3'.out, ((k1.trans k2).trans (Kp.alloc p _ _ _)).trans k3⟩
end Go.Proofs.YtdaffcbamnpjfaaGreatDoor.Walks3
namespace Go.Proofs.YtdaffcbamnpjfaaGreatDoor.Walks4
open Go.RowKit PlainShape PlainValid InsMem Piles Walks Walks2 Walks3

/-- What a method comes to: whether it goes, and the walk as it stands then. -/
def Res (w : World) (p : Nat) (F : Nat → Value) (v : Value) (r : Option S2) (e : Ending) (w' : World) : Prop :=
  ∃ ok h' v' st', e = .returned (.bool ok) ∧ BW w' p F h' v' st' ∧ Kp p w w' v v' ∧ r = if ok = true then some (h', st') else none
theorem Res.from {w0 w : World} {p : Nat} {F : Nat → Value} {v0 v : Value} {r : Option S2} {e : Ending} {w' : World} (k : Kp p w0 w v0 v) (h : Res w p F v r e w') : Res w0 p F v0 r e w' := by
  obtain ⟨ok, h', v', st', a, b, c, d⟩ := h
  exact ⟨ok, h', v', st', a, b, k.trans c, d⟩
theorem top_is {st : List Fr} {n : Nat} (h : n + 1 = st.length) : topF st = st.getD n dF := by
  unfold topF
  rw [← h, Nat.add_sub_cancel]
set_option maxHeartbeats 2000000 in
theorem leaveC (p g n cap : Nat) (w : World) (F : Nat → Value) (h : Int) (st : List Fr) (q : Nat) (b : BW w p F h (.slice (some ⟨g, 0, none⟩) (n + 1) cap) st) (hl : n + 1 ≤ 1048576) (h0 : -100000 ≤ h) (h1 : h ≤ 1000000) (h2 : -100000 ≤ (st.getD n dF).base) (h3 : (st.getD n dF).base ≤ 1000000) (hq : q ≤ 1000) :
    Calls Tryz.prog 119 #[.pointer (some ⟨p, 0, none⟩), .int .i64 (q : Int)] w fun e w' => e = .returned (.bool (tk q h (st.getD n dF).base (st.getD n dF).dead).2) ∧ BW w' p F (st.getD n dF).base (.slice (some ⟨g, 0, none⟩) (n + 1) cap) (st.set n ⟨(st.getD n dF).op, (st.getD n dF).res, (st.getD n dF).base, true⟩) ∧ Kp p w w' (.slice (some ⟨g, 0, none⟩) (n + 1) cap) (.slice (some ⟨g, 0, none⟩) (n + 1) cap) := by
  have b' : Hid (BW w p F h (.slice (some ⟨g, 0, none⟩) (n + 1) cap) st) := b
  have hT : Hid (∀ u : World, BW u p F h (.slice (some ⟨g, 0, none⟩) (n + 1) cap) st → Calls Tryz.prog 141 #[.pointer (some ⟨p, 0, none⟩), .int .i64 (q : Int)] u fun e w' => e = .returned (.bool (tk q h (st.getD n dF).base (st.getD n dF).dead).2) ∧ BW w' p F (tk q h (st.getD n dF).base (st.getD n dF).dead).1 (.slice (some ⟨g, 0, none⟩) (n + 1) cap) st ∧ Kp p u w' (.slice (some ⟨g, 0, none⟩) (n + 1) cap) (.slice (some ⟨g, 0, none⟩) (n + 1) cap)) := fun u hu => Walks.take p g n cap u F h st q hu hl hq (by omega) (by omega) (by omega) (by omega)
  have hD : Hid (∀ (u : World) (h' : Int), BW u p F h' (.slice (some ⟨g, 0, none⟩) (n + 1) cap) st → Calls Tryz.prog 142 #[.pointer (some ⟨p, 0, none⟩)] u fun e w' => e = .returned (.tuple #[]) ∧ BW w' p F (st.getD n dF).base (.slice (some ⟨g, 0, none⟩) (n + 1) cap) (st.set n ⟨(st.getD n dF).op, (st.getD n dF).res, (st.getD n dF).base, true⟩) ∧ Kp p u w' (.slice (some ⟨g, 0, none⟩) (n + 1) cap) (.slice (some ⟨g, 0, none⟩) (n + 1) cap)) := fun u h' hu => Walks.die p g n cap u F h' st hu hl
  clear b
  generalize (st.set n ⟨(st.getD n dF).op, (st.getD n dF).res, (st.getD n dF).base, true⟩) = st' at *
  generalize (tk q h (st.getD n dF).base (st.getD n dF).dead) = R at *
  obtain ⟨R1, R2⟩ := R
  generalize (st.getD n dF).base = fb at *
  dsimp only at *
  go_enter Tryz.func119, Tryz.ntmps119
  go_wp2_with (first | (go_at_call 141; refine (hT.out _ b'.out).mono ?_; rintro e w1 ⟨rfl, b1, k1⟩; have b1' : Hid (BW w1 p F R1 (.slice (some ⟨g, 0, none⟩) (n + 1) cap) st) := b1; clear b1) | (go_at_call 142; refine (hD.out _ _ b1'.out).mono ?_; rintro e w2 ⟨rfl, b2, k2⟩; have b2' : Hid (BW w2 p F fb (.slice (some ⟨g, 0, none⟩) (n + 1) cap) st') := b2; clear b2))
  go_ret
  exact ⟨rfl, b2'.out, k1.trans k2⟩
theorem leaveR (p g n cap : Nat) (w : World) (F : Nat → Value) (h : Int) (st : List Fr) (q : Int) (b : BW w p F h (.slice (some ⟨g, 0, none⟩) (n + 1) cap) st) (hl : n + 1 ≤ 1048576) (h0 : -100000 ≤ h) (h1 : h ≤ 1000000) (h2 : -100000 ≤ (st.getD n dF).base) (h3 : (st.getD n dF).base ≤ 1000000) (hq0 : 0 ≤ q) (hq : q ≤ 1000) :
    Calls Tryz.prog 119 #[.pointer (some ⟨p, 0, none⟩), .int .i64 q] w (Res w p F (.slice (some ⟨g, 0, none⟩) (n + 1) cap) (PlainValid.leave q (h, st))) := by
  have hn := b.len
  have := leaveC p g n cap w F h st q.toNat b hl h0 h1 h2 h3 (by omega)
  rw [Int.toNat_of_nonneg hq0] at this
  refine this.mono fun e w' ⟨a, b1, k1⟩ => ⟨_, _, _, _, a, b1, k1, ?_⟩
  unfold PlainValid.leave
  simp only [top_is hn, ← hn, Nat.add_sub_cancel]
theorem exchR (p g n cap : Nat) (w : World) (F : Nat → Value) (h : Int) (st : List Fr) (q r : Int) (b : BW w p F h (.slice (some ⟨g, 0, none⟩) (n + 1) cap) st) (hl : n + 1 ≤ 1048576) (h0 : -100000 ≤ h) (h1 : h ≤ 1000000) (h2 : -100000 ≤ (st.getD n dF).base) (h3 : (st.getD n dF).base ≤ 1000000) (hq0 : 0 ≤ q) (hq : q ≤ 1000) (hr : 0 ≤ r ∧ r ≤ 1000) :
    Calls Tryz.prog 120 #[.pointer (some ⟨p, 0, none⟩), .agg #[.int .i64 q, .int .i64 r]] w fun e w' => ∃ ok h', e = .returned (.bool ok) ∧ BW w' p F h' (.slice (some ⟨g, 0, none⟩) (n + 1) cap) st ∧ Kp p w w' (.slice (some ⟨g, 0, none⟩) (n + 1) cap) (.slice (some ⟨g, 0, none⟩) (n + 1) cap) ∧ exch q r (h, st) = if ok = true then some (h', st) else none := by
  have hn := b.len
  have := exchange p g n cap w F h st q.toNat r b hl (by omega) h0 h1 h2 h3 hr
  rw [Int.toNat_of_nonneg hq0] at this
  refine this.mono fun e w' ⟨a, b1, k1⟩ => ⟨_, _, a, b1, k1, ?_⟩
  unfold exch exH
  simp only [top_is hn]
  split <;> rfl
theorem turnR (p g n cap : Nat) (w : World) (F : Nat → Value) (h : Int) (st : List Fr) (b : BW w p F h (.slice (some ⟨g, 0, none⟩) (n + 1) cap) st) (hl : n + 1 ≤ 1048576) (h0 : -100000 ≤ h) (h1 : h ≤ 1000000) (h2 : -100000 ≤ (st.getD n dF).base) (h3 : (st.getD n dF).base ≤ 1000000) (h4 : 0 ≤ (st.getD n dF).res ∧ (st.getD n dF).res ≤ 1) :
    Calls Tryz.prog 122 #[.pointer (some ⟨p, 0, none⟩)] w (Res w p F (.slice (some ⟨g, 0, none⟩) (n + 1) cap) (PlainValid.turn (h, st))) := by
  have hn := b.len
  refine (Walks3.turn p g n cap w F h st b hl h0 h1 h2 h3 h4).mono fun e w' ⟨a, b1, k1⟩ => ⟨_, _, _, _, a, b1, k1, ?_⟩
  unfold PlainValid.turn ends
  simp only [top_is hn, ← hn, Nat.add_sub_cancel]
  split
  · rename_i hh
    simp only [Bool.and_eq_true, decide_eq_true_eq] at hh
    rw [hh.2]
  · rfl
theorem closeR (p g n cap : Nat) (w : World) (F : Nat → Value) (h : Int) (st : List Fr) (b : BW w p F h (.slice (some ⟨g, 0, none⟩) (n + 1) cap) st) (hl : n + 1 ≤ 1048576) (h0 : -100000 ≤ h) (h1 : h ≤ 1000000) (h2 : -100000 ≤ (st.getD n dF).base) (h3 : (st.getD n dF).base ≤ 1000000) (h4 : 0 ≤ (st.getD n dF).res ∧ (st.getD n dF).res ≤ 1) :
    Calls Tryz.prog 81 #[.pointer (some ⟨p, 0, none⟩)] w fun e w' => e = .returned (.bool (closes (h, st))) ∧ Res w p F (.slice (some ⟨g, 0, none⟩) (n + 1) cap) (PlainValid.close (h, st)) e w' := by
  have hn := b.len
  refine (closeDown p g n cap w F h st b hl h0 h1 h2 h3 h4).mono fun e w' ⟨a, b1, k1⟩ => ⟨?_, _, _, _, _, a, b1, k1, ?_⟩
  · rw [a]
    unfold closes ends
    simp only [top_is hn]
  · unfold PlainValid.close closes ends
    simp only [top_is hn, ← hn, Nat.add_sub_cancel]
    split
    · rename_i hh
      simp only [Bool.and_eq_true, decide_eq_true_eq] at hh
      rw [hh.1.2]
    · rfl
set_option maxHeartbeats 4000000 in
theorem branchIfR (p g j k cap : Nat) (w : World) (F : Nat → Value) (h : Int) (st : List Fr) (b : BW w p F h (.slice (some ⟨g, 0, none⟩) (j + k + 1) cap) st) (hl : j + k + 1 ≤ 1048576) (h0 : -100000 ≤ h) (h1 : h ≤ 1000000) (h2 : -100000 ≤ (st.getD (j + k) dF).base) (h3 : (st.getD (j + k) dF).base ≤ 1000000) (h5 : 0 ≤ brT (st.getD j dF) ∧ brT (st.getD j dF) ≤ 1) :
    Calls Tryz.prog 125 #[.pointer (some ⟨p, 0, none⟩), .int .i64 (k : Int)] w (Res w p F (.slice (some ⟨g, 0, none⟩) (j + k + 1) cap) (brIf (brT (st.getD j dF)) (h, st))) := by
  have hn := b.len
  obtain ⟨c0, c1, c2, c3⟩ := b.cells j (by omega)
  have b' : Hid (BW w p F h (.slice (some ⟨g, 0, none⟩) (j + k + 1) cap) st) := b
  have hp := b.pile
  have hF : Hid (∀ u : World, u.cell? ⟨p, 12, none⟩ = some (.slice (some ⟨g, 0, none⟩) (j + k + 1) cap) → Calls Tryz.prog 123 #[.pointer (some ⟨p, 12, none⟩), .int .i64 (k : Int)] u fun e w' => e = .returned (.pointer (some ⟨g, j * 4, none⟩)) ∧ ∃ m, w' = u.drewN m) := fun u hu => fromTop p g j k cap u hu hl
  have hB : Hid (∀ u : World, BW u p F h (.slice (some ⟨g, 0, none⟩) (j + k + 1) cap) st → Calls Tryz.prog 124 #[.pointer (some ⟨g, j * 4, none⟩)] u fun e w' => e = .returned (.int .i64 (brT (st.getD j dF))) ∧ u = w') := fun u hu => branchTakes g j _ _ u (hu.cells j (by omega)).1 (hu.cells j (by omega)).2.1 _ _
  have hT : Hid (∀ u : World, BW u p F h (.slice (some ⟨g, 0, none⟩) (j + k + 1) cap) st → Calls Tryz.prog 141 #[.pointer (some ⟨p, 0, none⟩), .int .i64 1] u fun e w' => e = .returned (.bool (tk 1 h (st.getD (j + k) dF).base (st.getD (j + k) dF).dead).2) ∧ BW w' p F (tk 1 h (st.getD (j + k) dF).base (st.getD (j + k) dF).dead).1 (.slice (some ⟨g, 0, none⟩) (j + k + 1) cap) st ∧ Kp p u w' (.slice (some ⟨g, 0, none⟩) (j + k + 1) cap) (.slice (some ⟨g, 0, none⟩) (j + k + 1) cap)) := fun u hu => Walks.take p g (j + k) cap u F h st 1 hu hl (by omega) (by omega) (by omega) (by omega) (by omega)
  have htk := tk_le 1 h (st.getD (j + k) dF).base (st.getD (j + k) dF).dead
  have hlo : -100000 ≤ (tk 1 h (st.getD (j + k) dF).base (st.getD (j + k) dF).dead).1 := by
    by_cases e : (st.getD (j + k) dF).base ≤ h
    · have := htk.2.1 e; omega
    · have := htk.2.2 (by omega); omega
  have hhi : (tk 1 h (st.getD (j + k) dF).base (st.getD (j + k) dF).dead).1 ≤ 1000000 := by have := htk.1; omega
  have hX : Hid (∀ u : World, BW u p F (tk 1 h (st.getD (j + k) dF).base (st.getD (j + k) dF).dead).1 (.slice (some ⟨g, 0, none⟩) (j + k + 1) cap) st → Calls Tryz.prog 120 #[.pointer (some ⟨p, 0, none⟩), .agg #[.int .i64 (brT (st.getD j dF)), .int .i64 (brT (st.getD j dF))]] u fun e w' => ∃ ok h', e = .returned (.bool ok) ∧ BW w' p F h' (.slice (some ⟨g, 0, none⟩) (j + k + 1) cap) st ∧ Kp p u w' (.slice (some ⟨g, 0, none⟩) (j + k + 1) cap) (.slice (some ⟨g, 0, none⟩) (j + k + 1) cap) ∧ exch (brT (st.getD j dF)) (brT (st.getD j dF)) ((tk 1 h (st.getD (j + k) dF).base (st.getD (j + k) dF).dead).1, st) = if ok = true then some (h', st) else none) := fun u hu => exchR p g (j + k) cap u F _ st _ _ hu hl hlo hhi h2 h3 h5.1 (by omega) (by omega)
  have hbr : Hid (brIf (brT (st.getD j dF)) (h, st) = if (tk 1 h (st.getD (j + k) dF).base (st.getD (j + k) dF).dead).2 = true then exch (brT (st.getD j dF)) (brT (st.getD j dF)) ((tk 1 h (st.getD (j + k) dF).base (st.getD (j + k) dF).dead).1, st) else none) := by
    show _ = _
    unfold brIf
    have e1 : exch 1 0 (h, st) = if (tk 1 h (st.getD (j + k) dF).base (st.getD (j + k) dF).dead).2 = true then some ((tk 1 h (st.getD (j + k) dF).base (st.getD (j + k) dF).dead).1 + 0, st) else none := by
      unfold exch
      simp only [top_is hn]
      rfl
    rw [e1]
    split
    · simp
    · rfl
  rw [hbr.out]
  clear b hn htk hlo hhi hbr h0 h1 h2 h3 h5 c2 c3
  generalize brT (st.getD j dF) = c at *
  generalize tk 1 h (st.getD (j + k) dF).base (st.getD (j + k) dF).dead = R at *
  obtain ⟨R1, R2⟩ := R
  dsimp only at *
  generalize exch c c (R1, st) = X at *
  cases R2 with
  | false =>
    go_enter Tryz.func125, Tryz.ntmps125
    go_wp2_with (first | (go_at_call 123; refine (hF.out _ hp).mono ?_; rintro e w1 ⟨rfl, m, rfl⟩) | (go_at_call 124; refine (hB.out _ (b'.out.drewN m)).mono ?_; rintro e w2 ⟨rfl, rfl⟩) | (go_at_call 141; refine (hT.out _ (b'.out.drewN m)).mono ?_; rintro e w3 ⟨rfl, b3, k3⟩; have b3' : Hid (BW w3 p F R1 (.slice (some ⟨g, 0, none⟩) (j + k + 1) cap) st) := b3; clear b3))
    go_ret
    exact ⟨false, _, _, _, rfl, b3'.out, ((Kp.refl p w _).drewN m).trans k3, rfl⟩
  | true =>
    go_enter Tryz.func125, Tryz.ntmps125
    go_wp2_with (first | (go_at_call 123; refine (hF.out _ hp).mono ?_; rintro e w1 ⟨rfl, m, rfl⟩) | (go_at_call 124; refine (hB.out _ (b'.out.drewN m)).mono ?_; rintro e w2 ⟨rfl, rfl⟩) | (go_at_call 141; refine (hT.out _ (b'.out.drewN m)).mono ?_; rintro e w3 ⟨rfl, b3, k3⟩; have b3' : Hid (BW w3 p F R1 (.slice (some ⟨g, 0, none⟩) (j + k + 1) cap) st) := b3; clear b3) | (go_at_call 120; refine (hX.out _ b3'.out).mono ?_; rintro e w4 ⟨ok, h', rfl, b4, k4, hr⟩; have b4' : Hid (BW w4 p F h' (.slice (some ⟨g, 0, none⟩) (j + k + 1) cap) st) := b4; have hr' : Hid (X = if ok = true then some (h', st) else none) := hr; clear b4 hr))
    go_ret
    exact ⟨ok, h', _, st, rfl, b4'.out, (((Kp.refl p w _).drewN m).trans k3).trans k4, hr'.out⟩
end Go.Proofs.YtdaffcbamnpjfaaGreatDoor.Walks4
