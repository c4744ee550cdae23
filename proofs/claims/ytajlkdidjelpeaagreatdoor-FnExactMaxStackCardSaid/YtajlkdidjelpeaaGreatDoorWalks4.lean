/-
  The program's walk over a body: leaving, branching, and what its methods come to in plain words. (Written by my walk4gen.py.)
-/
import Derived.Test.YtajlkdidjelpeaaGreatDoorWalks3
namespace Go.Proofs.YtajlkdidjelpeaaGreatDoor.Walks4
open Go.RowKit PlainShape PlainValid InsMem Piles Walks Walks2 Walks3

/-- What a method comes to: whether it goes, and the walk as it stands then. -/
def Res (w : World) (p : Nat) (F : Nat → Value) (v : Value) (r : Option S2) (e : Ending) (w' : World) : Prop :=
  ∃ ok h' v' st', e = .returned (.bool ok) ∧ BW w' p F h' v' st' ∧ Kp p w w' v v' ∧ r = if ok = true then some (h', st') else none
theorem Res.from {w0 w : World} {p : Nat} {F : Nat → Value} {v0 v : Value} {r : Option S2} {e : Ending} {w' : World} (k : Kp p w0 w v0 v) (h : Res w p F v r e w') : Res w0 p F v0 r e w' := by
  obtain ⟨ok, h', v', st', a, b, c, d⟩ := h
  exact ⟨ok, h', v', st', a, b, k.trans c, d⟩
theorem top_is {st : List Fr} {n : Nat} (h : n + 1 = st.length) : topF st = st.getD n dF := by
  unfold topF
  rw [← h, Nat.add_sub_cancel]
set_option maxHeartbeats 2000000 in
theorem leaveC (p g n cap : Nat) (w : World) (F : Nat → Value) (h : Int) (st : List Fr) (q : Nat) (b : BW w p F h (.slice (some ⟨g, 0, none⟩) (n + 1) cap) st) (hl : n + 1 ≤ 1048576) (h0 : -100000 ≤ h) (h1 : h ≤ 1000000) (h2 : -100000 ≤ (st.getD n dF).base) (h3 : (st.getD n dF).base ≤ 1000000) (hq : q ≤ 1000) :
    Calls Tryz.prog 119 #[.pointer (some ⟨p, 0, none⟩), .int .i64 (q : Int)] w fun e w' => e = .returned (.bool (tk q h (st.getD n dF).base (st.getD n dF).dead).2) ∧ BW w' p F (st.getD n dF).base (.slice (some ⟨g, 0, none⟩) (n + 1) cap) (st.set n ⟨(st.getD n dF).op, (st.getD n dF).res, (st.getD n dF).base, true⟩) ∧ Kp p w w' (.slice (some ⟨g, 0, none⟩) (n + 1) cap) (.slice (some ⟨g, 0, none⟩) (n + 1) cap) := by
  have b' : Hid (BW w p F h (.slice (some ⟨g, 0, none⟩) (n + 1) cap) st) := b
  have hT : Hid (∀ u : World, BW u p F h (.slice (some ⟨g, 0, none⟩) (n + 1) cap) st → Calls Tryz.prog 141 #[.pointer (some ⟨p, 0, none⟩), .int .i64 (q : Int)] u fun e w' => e = .returned (.bool (tk q h (st.getD n dF).base (st.getD n dF).dead).2) ∧ BW w' p F (tk q h (st.getD n dF).base (st.getD n dF).dead).1 (.slice (some ⟨g, 0, none⟩) (n + 1) cap) st ∧ Kp p u w' (.slice (some ⟨g, 0, none⟩) (n + 1) cap) (.slice (some ⟨g, 0, none⟩) (n + 1) cap)) := fun u hu => Walks.take p g n cap u F h st q hu hl hq (by omega) (by omega) (by omega) (by omega)
  have hD : Hid (∀ (u : World) (h' : Int), BW u p F h' (.slice (some ⟨g, 0, none⟩) (n + 1) cap) st → Calls Tryz.prog 142 #[.pointer (some ⟨p, 0, none⟩)] u fun e w' => e = .returned (.tuple #[]) ∧ BW w' p F (st.getD n dF).base (.slice (some ⟨g, 0, none⟩) (n + 1) cap) (st.set n ⟨(st.getD n dF).op, (st.getD n dF).res, (st.getD n dF).base, true⟩) ∧ Kp p u w' (.slice (some ⟨g, 0, none⟩) (n + 1) cap) (.slice (some ⟨g, 0, none⟩) (n + 1) cap)) := fun u h' hu => Walks.die p g n cap u F h' st hu hl
  clear b
  generalize (st.set n ⟨(st.getD n dF).op, (st.getD n dF).res, (st.getD n dF).base, true⟩) = st' at *
  generalize (tk q h (st.getD n dF).base (st.getD n dF).dead) = R at *
  obtain ⟨R1, R2⟩ := R
  generalize (st.getD n dF).base = fb at *
  dsimp only at *
  go_enter Tryz.func119, Tryz.ntmps119
  go_wp2_with (first | (go_at_call 141; refine (hT.out _ b'.out).mono ?_; rintro e w1 ⟨rfl, b1, k1⟩; have b1' : Hid (BW w1 p F R1 (.slice (some ⟨g, 0, none⟩) (n + 1) cap) st) := b1; clear b1) | (go_at_call 142; refine (hD.out _ _ b1'.out).mono ?_; rintro e w2 ⟨rfl, b2, k2⟩; have b2' : Hid (BW w2 p F fb (.slice (some ⟨g, 0, none⟩) (n + 1) cap) st') := b2; clear b2))
  go_ret
  exact ⟨rfl, b2'.out, k1.trans k2⟩
theorem leaveR (p g n cap : Nat) (w : World) (F : Nat → Value) (h : Int) (st : List Fr) (q : Int) (b : BW w p F h (.slice (some ⟨g, 0, none⟩) (n + 1) cap) st) (hl : n + 1 ≤ 1048576) (h0 : -100000 ≤ h) (h1 : h ≤ 1000000) (h2 : -100000 ≤ (st.getD n dF).base) (h3 : (st.getD n dF).base ≤ 1000000) (hq0 : 0 ≤ q) (hq : q ≤ 1000) :
    Calls Tryz.prog 119 #[.pointer (some ⟨p, 0, none⟩), .int .i64 q] w (Res w p F (.slice (some ⟨g, 0, none⟩) (n + 1) cap) (PlainValid.leave q (h, st))) := by
  have hn := b.len
  have := leaveC p g n cap w F h st q.toNat b hl h0 h1 h2 h3 (by omega)
  rw [Int.toNat_of_nonneg hq0] at this
  refine this.mono fun e w' ⟨a, b1, k1⟩ => ⟨_, _, _, _, a, b1, k1, ?_⟩
  unfold PlainValid.leave
  simp only [top_is hn, ← hn, Nat.add_sub_cancel]
theorem exchR (p g n cap : Nat) (w : World) (F : Nat → Value) (h : Int) (st : List Fr) (q r : Int) (b : BW w p F h (.slice (some ⟨g, 0, none⟩) (n + 1) cap) st) (hl : n + 1 ≤ 1048576) (h0 : -100000 ≤ h) (h1 : h ≤ 1000000) (h2 : -100000 ≤ (st.getD n dF).base) (h3 : (st.getD n dF).base ≤ 1000000) (hq0 : 0 ≤ q) (hq : q ≤ 1000) (hr : 0 ≤ r ∧ r ≤ 1000) :
    Calls Tryz.prog 120 #[.pointer (some ⟨p, 0, none⟩), .agg #[.int .i64 q, .int .i64 r]] w fun e w' => ∃ ok h', e = .returned (.bool ok) ∧ BW w' p F h' (.slice (some ⟨g, 0, none⟩) (n + 1) cap) st ∧ Kp p w w' (.slice (some ⟨g, 0, none⟩) (n + 1) cap) (.slice (some ⟨g, 0, none⟩) (n + 1) cap) ∧ exch q r (h, st) = if ok = true then some (h', st) else none := by
  have hn := b.len
  have := exchange p g n cap w F h st q.toNat r b hl (by omega) h0 h1 h2 h3 hr
  rw [Int.toNat_of_nonneg hq0] at this
  refine this.mono fun e w' ⟨a, b1, k1⟩ => ⟨_, _, a, b1, k1, ?_⟩
  unfold exch exH
  simp only [top_is hn]
  split <;> rfl
theorem turnR (p g n cap : Nat) (w : World) (F : Nat → Value) (h : Int) (st : List Fr) (b : BW w p F h (.slice (some ⟨g, 0, none⟩) (n + 1) cap) st) (hl : n + 1 ≤ 1048576) (h0 : -100000 ≤ h) (h1 : h ≤ 1000000) (h2 : -100000 ≤ (st.getD n dF).base) (h3 : (st.getD n dF).base ≤ 1000000) (h4 : 0 ≤ (st.getD n dF).res ∧ (st.getD n dF).res ≤ 1) :
    Calls Tryz.prog 122 #[.pointer (some ⟨p, 0, none⟩)] w (Res w p F (.slice (some ⟨g, 0, none⟩) (n + 1) cap) (PlainValid.turn (h, st))) := by
  have hn := b.len
  refine (Walks3.turn p g n cap w F h st b hl h0 h1 h2 h3 h4).mono fun e w' ⟨a, b1, k1⟩ => ⟨_, _, _, _, a, b1, k1, ?_⟩
  unfold PlainValid.turn ends
  simp only [top_is hn, ← hn, Nat.add_sub_cancel]
  split
  · rename_i hh
    simp only [Bool.and_eq_true, decide_eq_true_eq] at hh
    rw [hh.2]
  · rfl
theorem closeR (p g n cap : Nat) (w : World) (F : Nat → Value) (h : Int) (st : List Fr) (b : BW w p F h (.slice (some ⟨g, 0, none⟩) (n + 1) cap) st) (hl : n + 1 ≤ 1048576) (h0 : -100000 ≤ h) (h1 : h ≤ 1000000) (h2 : -100000 ≤ (st.getD n dF).base) (h3 : (st.getD n dF).base ≤ 1000000) (h4 : 0 ≤ (st.getD n dF).res ∧ (st.getD n dF).res ≤ 1) :
    Calls Tryz.prog 81 #[.pointer (some ⟨p, 0, none⟩)] w fun e w' => e = .returned (.bool (closes (h, st))) ∧ Res w p F (.slice (some ⟨g, 0, none⟩) (n + 1) cap) (PlainValid.close (h, st)) e w' := by
  have hn := b.len
  refine (closeDown p g n cap w F h st b hl h0 h1 h2 h3 h4).mono fun e w' ⟨a, b1, k1⟩ => ⟨?_, _, _, _, _, a, b1, k1, ?_⟩
  · rw [a]
    unfold closes ends
    simp only [top_is hn]
  · unfold PlainValid.close closes ends
    simp only [top_is hn, ← hn, Nat.add_sub_cancel]
    split
    · rename_i hh
      simp only [Bool.and_eq_true, decide_eq_true_eq] at hh
      rw [hh.1.2]
    · rfl
set_option maxHeartbeats 4000000 in
theorem branchIfR (p g j k cap : Nat) (w : World) (F : Nat → Value) (h : Int) (st : List Fr) (b : BW w p F h (.slice (some ⟨g, 0, none⟩) (j + k + 1) cap) st) (hl : j + k + 1 ≤ 1048576) (h0 : -100000 ≤ h) (h1 : h ≤ 1000000) (h2 : -100000 ≤ (st.getD (j + k) dF).base) (h3 : (st.getD (j + k) dF).base ≤ 1000000) (h5 : 0 ≤ brT (st.getD j dF) ∧ brT (st.getD j dF) ≤ 1) :
    Calls Tryz.prog 125 #[.pointer (some ⟨p, 0, none⟩), .int .i64 (k : Int)] w (Res w p F (.slice (some ⟨g, 0, none⟩) (j + k + 1) cap) (brIf (brT (st.getD j dF)) (h, st))) := by
  have hn := b.len
  obtain ⟨c0, c1, c2, c3⟩ := b.cells j (by omega)
  have b' : Hid (BW w p F h (.slice (some ⟨g, 0, none⟩) (j + k + 1) cap) st) := b
  have hp := b.pile
  have hF : Hid (∀ u : World, u.cell? ⟨p, 12, none⟩ = some (.slice (some ⟨g, 0, none⟩) (j + k + 1) cap) → Calls Tryz.prog 123 #[.pointer (some ⟨p, 12, none⟩), .int .i64 (k : Int)] u fun e w' => e = .returned (.pointer (some ⟨g, j * 4, none⟩)) ∧ ∃ m, w' = u.drewN m) := fun u hu => fromTop p g j k cap u hu hl
  have hB : Hid (∀ u : World, BW u p F h (.slice (some ⟨g, 0, none⟩) (j + k + 1) cap) st → Calls Tryz.prog 124 #[.pointer (some ⟨g, j * 4, none⟩)] u fun e w' => e = .returned (.int .i64 (brT (st.getD j dF))) ∧ u = w') := fun u hu => branchTakes g j _ _ u (hu.cells j (by omega)).1 (hu.cells j (by omega)).2.1 _ _
  have hT : Hid (∀ u : World, BW u p F h (.slice (some ⟨g, 0, none⟩) (j + k + 1) cap) st → Calls Tryz.prog 141 #[.pointer (some ⟨p, 0, none⟩), .int .i64 1] u fun e w' => e = .returned (.bool (tk 1 h (st.getD (j + k) dF).base (st.getD (j + k) dF).dead).2) ∧ BW w' p F (tk 1 h (st.getD (j + k) dF).base (st.getD (j + k) dF).dead).1 (.slice (some ⟨g, 0, none⟩) (j + k + 1) cap) st ∧ Kp p u w' (.slice (some ⟨g, 0, none⟩) (j + k + 1) cap) (.slice (some ⟨g, 0, none⟩) (j + k + 1) cap)) := fun u hu => Walks.take p g (j + k) cap u F h st 1 hu hl (by omega) (by omega) (by omega) (by omega) (by omega)
  have htk := tk_le 1 h (st.getD (j + k) dF).base (st.getD (j + k) dF).dead
  have hlo : -100000 ≤ (tk 1 h (st.getD (j + k) dF).base (st.getD (j + k) dF).dead).1 := by
    by_cases e : (st.getD (j + k) dF).base ≤ h
    · have := htk.2.1 e; omega
    · have := htk.2.2 (by omega); omega
  have hhi : (tk 1 h (st.getD (j + k) dF).base (st.getD (j + k) dF).dead).1 ≤ 1000000 := by have := htk.1; omega
  have hX : Hid (∀ u : World, BW u p F (tk 1 h (st.getD (j + k) dF).base (st.getD (j + k) dF).dead).1 (.slice (some ⟨g, 0, none⟩) (j + k + 1) cap) st → Calls Tryz.prog 120 #[.pointer (some ⟨p, 0, none⟩), .agg #[.int .i64 (brT (st.getD j dF)), .int .i64 (brT (st.getD j dF))]] u fun e w' => ∃ ok h', e = .returned (.bool ok) ∧ BW w' p F h' (.slice (some ⟨g, 0, none⟩) (j + k + 1) cap) st ∧ Kp p u w' (.slice (some ⟨g, 0, none⟩) (j + k + 1) cap) (.slice (some ⟨g, 0, none⟩) (j + k + 1) cap) ∧ exch (brT (st.getD j dF)) (brT (st.getD j dF)) ((tk 1 h (st.getD (j + k) dF).base (st.getD (j + k) dF).dead).1, st) = if ok = true then some (h', st) else none) := fun u hu => exchR p g (j + k) cap u F _ st _ _ hu hl hlo hhi h2 h3 h5.1 (by omega) (by omega)
  have hbr : Hid (brIf (brT (st.getD j dF)) (h, st) = if (tk 1 h (st.getD (j + k) dF).base (st.getD (j + k) dF).dead).2 = true then exch (brT (st.getD j dF)) (brT (st.getD j dF)) ((tk 1 h (st.getD (j + k) dF).base (st.getD (j + k) dF).dead).1, st) else none) := by
    show _ = _
    unfold brIf
    have e1 : exch 1 0 (h, st) = if (tk 1 h (st.getD (j + k) dF).base (st.getD (j + k) dF).dead).2 = true then some ((tk 1 h (st.getD (j + k) dF).base (st.getD (j + k) dF).dead).1 + 0, st) else none := by
      unfold exch
      simp only [top_is hn]
      rfl
    rw [e1]
    split
    · simp
    · rfl
  rw [hbr.out]
  clear b hn htk hlo hhi hbr h0 h1 h2 h3 h5 c2 c3
  generalize brT (st.getD j dF) = c at *
  generalize tk 1 h (st.getD (j + k) dF).base (st.getD (j + k) dF).dead = R at *
  obtain ⟨R1, R2⟩ := R
  dsimp only at *
  generalize exch c c (R1, st) = X at *
  cases R2 with
  | false =>
    go_enter Tryz.func125, Tryz.ntmps125
    go_wp2_with (first | (go_at_call 123; refine (hF.out _ hp).mono ?_; rintro e w1 ⟨rfl, m, rfl⟩) | (go_at_call 124; refine (hB.out _ (b'.out.drewN m)).mono ?_; rintro e w2 ⟨rfl, rfl⟩) | (go_at_call 141; refine (hT.out _ (b'.out.drewN m)).mono ?_; rintro e w3 ⟨rfl, b3, k3⟩; have b3' : Hid (BW w3 p F R1 (.slice (some ⟨g, 0, none⟩) (j + k + 1) cap) st) := b3; clear b3))
    go_ret
    exact ⟨false, _, _, _, rfl, b3'.out, ((Kp.refl p w _).drewN m).trans k3, rfl⟩
  | true =>
    go_enter Tryz.func125, Tryz.ntmps125
    go_wp2_with (first | (go_at_call 123; refine (hF.out _ hp).mono ?_; rintro e w1 ⟨rfl, m, rfl⟩) | (go_at_call 124; refine (hB.out _ (b'.out.drewN m)).mono ?_; rintro e w2 ⟨rfl, rfl⟩) | (go_at_call 141; refine (hT.out _ (b'.out.drewN m)).mono ?_; rintro e w3 ⟨rfl, b3, k3⟩; have b3' : Hid (BW w3 p F R1 (.slice (some ⟨g, 0, none⟩) (j + k + 1) cap) st) := b3; clear b3) | (go_at_call 120; refine (hX.out _ b3'.out).mono ?_; rintro e w4 ⟨ok, h', rfl, b4, k4, hr⟩; have b4' : Hid (BW w4 p F h' (.slice (some ⟨g, 0, none⟩) (j + k + 1) cap) st) := b4; have hr' : Hid (X = if ok = true then some (h', st) else none) := hr; clear b4 hr))
    go_ret
    exact ⟨ok, h', _, st, rfl, b4'.out, (((Kp.refl p w _).drewN m).trans k3).trans k4, hr'.out⟩
end Go.Proofs.YtajlkdidjelpeaaGreatDoor.Walks4
