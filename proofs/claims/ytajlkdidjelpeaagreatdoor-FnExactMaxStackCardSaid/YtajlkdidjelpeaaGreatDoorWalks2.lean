/-
  The program's walk over a body: what its methods answer and leave, more of them. (Written by my walk2gen.py.)
-/
import Derived.Test.YtajlkdidjelpeaaGreatDoorWalks
namespace Go.Proofs.YtajlkdidjelpeaaGreatDoor.Walks2
open Go.RowKit PlainShape PlainValid InsMem Piles Walks
set_option maxRecDepth 20000 in
set_option maxHeartbeats 2000000 in
theorem openUp (p : Nat) (w : World) (F : Nat → Value) (h : Int) (v : Value) (st : List Fr) (o r : Int) (b : BW w p F h v st) (hl : st.length ≤ 1048576) :
    Calls Tryz.prog 115 #[.pointer (some ⟨p, 0, none⟩), .int .i64 o, .int .i64 r] w fun e w' => e = .returned (.tuple #[]) ∧ ∃ g cap, BW w' p F h (.slice (some ⟨g, 0, none⟩) (st.length + 1) cap) (st ++ [⟨o, r, h, false⟩]) ∧ Kp p w w' v (.slice (some ⟨g, 0, none⟩) (st.length + 1) cap) := by
  have hc := b.hgt
  have b' : Hid (BW w p F h v st) := b
  have k : Hid (∀ u : World, BW u p F h v st → Calls Tryz.prog 139 #[.pointer (some ⟨p, 12, none⟩), .agg #[.int .i64 o, .int .i64 r, .int .i64 h, .bool false]] u fun e w' => e = .returned (.tuple #[]) ∧ ∃ g cap, BW w' p F h (.slice (some ⟨g, 0, none⟩) (st.length + 1) cap) (st ++ [⟨o, r, h, false⟩]) ∧ Kp p u w' v (.slice (some ⟨g, 0, none⟩) (st.length + 1) cap)) := fun u hu => push p u F h v st o r h false hu hl
  clear b
  go_enter Tryz.func115, Tryz.ntmps115
  go_region_held3 (fun w' => w'.cell? ⟨p, 11, none⟩ = some (.int .i64 h)) (first | assumption | go_keep) ((go_at_call 139; refine (k.out _ b'.out.drew).mono ?_; rintro e w1 ⟨rfl, g, cap, b1, k1⟩; have c1 := b1.hgt; have b1' : Hid (BW w1 p F h (.slice (some ⟨g, 0, none⟩) (st.length + 1) cap) (st ++ [⟨o, r, h, false⟩])) := b1; clear b1))
  go_wp2_with fail
  go_end0
  exact ⟨rfl, g, cap, b1'.out, ((Kp.refl p w v).drew).trans k1⟩
set_option maxRecDepth 20000 in
set_option maxHeartbeats 4000000 in
theorem leavesResults (p g n cap : Nat) (w : World) (F : Nat → Value) (h : Int) (st : List Fr) (b : BW w p F h (.slice (some ⟨g, 0, none⟩) (n + 1) cap) st) (hl : n + 1 ≤ 1048576) (h0 : -100000 ≤ h) (h1 : h ≤ 1000000) (h2 : -100000 ≤ (st.getD n dF).base) (h3 : (st.getD n dF).base ≤ 1000000) (h4 : 0 ≤ (st.getD n dF).res ∧ (st.getD n dF).res ≤ 1) :
    Calls Tryz.prog 126 #[.pointer (some ⟨p, 0, none⟩)] w fun e w' => e = .returned (.bool ((tk (st.getD n dF).res.toNat h (st.getD n dF).base (st.getD n dF).dead).2 && decide ((tk (st.getD n dF).res.toNat h (st.getD n dF).base (st.getD n dF).dead).1 = (st.getD n dF).base))) ∧ BW w' p F (tk (st.getD n dF).res.toNat h (st.getD n dF).base (st.getD n dF).dead).1 (.slice (some ⟨g, 0, none⟩) (n + 1) cap) st ∧ Kp p w w' (.slice (some ⟨g, 0, none⟩) (n + 1) cap) (.slice (some ⟨g, 0, none⟩) (n + 1) cap) := by
  have hn := b.len
  have hp := b.pile
  obtain ⟨c0, c1, c2, c3⟩ := b.cells n (by omega)
  have b' : Hid (BW w p F h (.slice (some ⟨g, 0, none⟩) (n + 1) cap) st) := b
  have k : Hid (∀ u : World, u.cell? ⟨p, 12, none⟩ = some (.slice (some ⟨g, 0, none⟩) (n + 1) cap) → Calls Tryz.prog 117 #[.pointer (some ⟨p, 0, none⟩)] u fun e w' => e = .returned (.pointer (some ⟨g, n * 4, none⟩)) ∧ ∃ m, w' = u.drewN m) := fun u hu => last p g n cap u hu hl
  have hT : Hid (∀ u : World, BW u p F h (.slice (some ⟨g, 0, none⟩) (n + 1) cap) st → Calls Tryz.prog 141 #[.pointer (some ⟨p, 0, none⟩), .int .i64 (st.getD n dF).res] u fun e w' => e = .returned (.bool (tk (st.getD n dF).res.toNat h (st.getD n dF).base (st.getD n dF).dead).2) ∧ BW w' p F (tk (st.getD n dF).res.toNat h (st.getD n dF).base (st.getD n dF).dead).1 (.slice (some ⟨g, 0, none⟩) (n + 1) cap) st ∧ Kp p u w' (.slice (some ⟨g, 0, none⟩) (n + 1) cap) (.slice (some ⟨g, 0, none⟩) (n + 1) cap)) := fun u hu => by
    have := take p g n cap u F h st (st.getD n dF).res.toNat hu hl (by omega) (by omega) (by omega) (by omega) (by omega)
    rw [Int.toNat_of_nonneg h4.1] at this
    exact this
  have hcs : Hid (∀ (u : World) (h' : Int), BW u p F h' (.slice (some ⟨g, 0, none⟩) (n + 1) cap) st → u.cell? ⟨p, 11, none⟩ = some (.int .i64 h') ∧ u.cell? ⟨g, n * 4 + 1, none⟩ = some (.int .i64 (st.getD n dF).res) ∧ u.cell? ⟨g, n * 4 + 2, none⟩ = some (.int .i64 (st.getD n dF).base)) := fun u h' bu => ⟨bu.hgt, (bu.cells n (by omega)).2.1, (bu.cells n (by omega)).2.2.1⟩
  clear b hn
  generalize (tk (st.getD n dF).res.toNat h (st.getD n dF).base (st.getD n dF).dead) = R at *
  generalize (st.getD n dF).base = fb at *
  generalize (st.getD n dF).res = fr at *
  obtain ⟨R1, R2⟩ := R
  dsimp only at *
  cases R2 with
  | false =>
    go_enter Tryz.func126, Tryz.ntmps126
    go_wp2_with (go_at_call 117; refine (k.out _ hp).mono ?_; rintro e w1 ⟨rfl, m, rfl⟩)
    first | go_region_with (go_at_call 141; refine (hT.out _ (b'.out.drewN m).drew).mono ?_; rintro e w2 ⟨rfl, b2, k2⟩; have b2' : Hid (BW w2 p F R1 (.slice (some ⟨g, 0, none⟩) (n + 1) cap) st) := b2; obtain ⟨_, _, _⟩ := hcs.out _ _ b2; clear b2) | fail
    all_goals
      go_wp2_with fail
      go_ret
      exact ⟨rfl, b2'.out, (((Kp.refl p w _).drewN m).drew).trans k2⟩
  | true =>
    go_enter Tryz.func126, Tryz.ntmps126
    go_wp2_with (go_at_call 117; refine (k.out _ hp).mono ?_; rintro e w1 ⟨rfl, m, rfl⟩)
    go_region_with (go_at_call 141; refine (hT.out _ (b'.out.drewN m).drew).mono ?_; rintro e w2 ⟨rfl, b2, k2⟩; have b2' : Hid (BW w2 p F R1 (.slice (some ⟨g, 0, none⟩) (n + 1) cap) st) := b2; obtain ⟨_, _, _⟩ := hcs.out _ _ b2; clear b2)
    all_goals
      go_wp2_with fail
      go_ret
      refine ⟨?_, b2'.out, (((Kp.refl p w _).drewN m).drew).trans k2⟩
      refine congrArg (fun x => Ending.returned (.bool x)) (?_ : (_ : Bool) = _)
      rw [Bool.eq_iff_iff]
      simp
end Go.Proofs.YtajlkdidjelpeaaGreatDoor.Walks2
