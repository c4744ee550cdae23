/-
  textIns at a name and two numbers.
-/
import Derived.Test.YtjbhelcdakhjbaaDoorTextIns
namespace Go.Proofs.YtjbhelcdakhjbaaDoor.TextIns3
open Go.RowKit PlainOps NameCalls PlainNum NumCalls InsCalls InsImpl PlainShape PlainBody PlainRead PlainCut SpecTextB SpecTextC BodyImpl TextIns

set_option maxRecDepth 20000 in
set_option maxHeartbeats 16000000 in
/-- A name and two numbers. -/
theorem ins_three (t q0 q1 q2 : List UInt8) (hQ : cutL 32 t = [q0, q1, q2]) (hl : t.length ≤ 1048576) (w : World) (hT : Tb w) (hm : fC (kd (nmOp (tx q0))) = 2) (v1 : Int) (B1 : Bool) (h1 : T q1 = (v1, B1)) (hl1 : q1.length ≤ 1048576) (v2 : Int) (B2 : Bool) (h2 : T q2 = (v2, B2)) (hl2 : q2.length ≤ 1048576) :
    Calls Tryd.prog 14 #[.string (tx t)] w fun e w' => (∃ x y z, e = .returned (.tuple #[.agg #[.int .i64 x, .int .i64 y, .int .i64 z], .bool (B1 && (B2 && insOk (nmOp (tx q0)) v1 v2))]) ∧ (B1 = true → B2 = true → x = nmOp (tx q0) ∧ y = v1 ∧ z = v2)) ∧ Below w.heap.size w w' := by
  have hsp : Hid _ := fun u => split t hl u
  rw [hQ] at hsp
  have hT' : Hid (Tb w) := hT
  have hno : Hid _ := fun (s : ByteArray) u => impl_nameOp s u
  have hfl : Hid _ := fun u => impl_fieldsOf (nmOp (tx q0)) u
  have htn : Hid _ := fun u => text_num q1 hl1 u
  rw [h1] at htn
  have htn2 : Hid _ := fun u => text_num q2 hl2 u
  rw [h2] at htn2
  have hrc := run_count
  obtain ⟨X, hX⟩ : ∃ X, nmOp (tx q0) = X := ⟨_, rfl⟩
  rw [hX] at hm hfl ⊢
  have hX' : Hid (nmOp (tx q0) = X) := hX
  rw [hm] at hfl
  have hio : Hid _ := fun u => impl_insOk X v1 v2 u
  obtain ⟨R, hR⟩ : ∃ R, insOk X v1 v2 = R := ⟨_, rfl⟩
  rw [hR] at hio ⊢
  clear hT hX hm hQ hR h1 hl1 h2 hl2
  go_enter Tryd.func14, Tryd.ntmps14
  go_wp2_with (first
    | (go_at_call 22; refine (hsp.out _ (hT'.out.later ((Below.refl _ _).alloc (Nat.le_refl _) _))).mono ?_; rintro e w1 ⟨rfl, c1, q1⟩; have rb1 : Hid (RB w1 w.heap.size) := RB.first q1; have b1 : Hid (Below w.heap.size w w1) := ((Below.refl _ _).alloc (Nat.le_refl _) _).trans (q1.mono (by simp)); have d0 := c1 0 (by simp); have d1 := c1 1 (by simp); have d2 := c1 2 (by simp); rw [World.size_alloc] at d0 d1 d2; simp only [List.getD_cons_zero, List.getD_cons_succ] at d0 d1 d2; clear c1 q1 hsp)
    | (go_at_call 23; refine (hno.out _ _ (hT'.out.tab.later b1.out)).mono ?_; rw [hX'.out]; rintro e w2 ⟨rfl, rfl⟩)
    | (go_at_call 24; refine (hfl.out _).mono ?_; rintro e w3 ⟨rfl, q3⟩; have b3 : Hid (Below w.heap.size w w3) := b1.out.trans (q3.mono b1.out.size); have rb3 : Hid (RB w3 w.heap.size) := rb1.out.later q3; have sz3 : w.heap.size < w3.heap.size := rb3.out.lt; have e1 := (q3.cell (World.block_lt_of_cell? w1 _ d1)).trans d1; have e2 := (q3.cell (World.block_lt_of_cell? w1 _ d2)).trans d2; have sr := World.block_lt_of_cell? w3 _ e1; clear q3))
  refine wp_loop_rounds 3 ?_
  rw [rounds_succ]
  have bo : Hid (Below w.heap.size w (w3.alloc (.cells #[.int .i64 0, .int .i64 0] 50))) := b3.out.alloc b3.out.size _
  have rbo : Hid (RB (w3.alloc (.cells #[.int .i64 0, .int .i64 0] 50)) w.heap.size) := rb3.out.alloc _
  have e1' : (w3.alloc (.cells #[.int .i64 0, .int .i64 0] 50)).cell? ⟨w.heap.size + 1, 1, none⟩ = some (.string (tx q1)) := (Below.cell (p := ⟨w.heap.size + 1, 1, none⟩) ((Below.refl w3.heap.size w3).alloc (Nat.le_refl _) _) sr).trans e1
  have e2' : (w3.alloc (.cells #[.int .i64 0, .int .i64 0] 50)).cell? ⟨w.heap.size + 1, 2, none⟩ = some (.string (tx q2)) := (Below.cell (p := ⟨w.heap.size + 1, 2, none⟩) ((Below.refl w3.heap.size w3).alloc (Nat.le_refl _) _) sr).trans e2
  cases B1 with
  | false =>
    go_wp2_with (go_at_call 25; refine (htn.out _ (hT'.out.later bo.out)).mono ?_; rintro e w4 ⟨rfl, q4⟩; have b4 : Hid (Below w.heap.size w w4) := bo.out.trans (q4.mono bo.out.size); obtain ⟨s0, s1, s2, k0, k1, k2⟩ := rbo.out.later q4)
    obtain ⟨g0, g1, g2⟩ := set3 s0 s1 s2 (.int .i64 0) (.int .i64 0) (.int .i64 0)
    first | refine bodyPost_ret ?_ rfl ⟨⟨0, 0, 0, rfl, by simp⟩, below3 b4.out (Nat.le_refl _) _ _ _⟩ | refine bodyPost_ret ?_ rfl ⟨⟨0, 0, 0, rfl⟩, below3 b4.out (Nat.le_refl _) _ _ _⟩
    generalize (((w4.setCell ⟨w.heap.size, 0, none⟩ (.int .i64 0)).setCell ⟨w.heap.size, 1, none⟩ (.int .i64 0)).setCell ⟨w.heap.size, 2, none⟩ (.int .i64 0)) = u at *
    simp [results, go_sem, g0, g1, g2]
  | true =>
    go_wp2_with (go_at_call 25; refine (htn.out _ (hT'.out.later bo.out)).mono ?_; rintro e w4 ⟨rfl, q4⟩; have b4 : Hid (Below w.heap.size w w4) := bo.out.trans (q4.mono bo.out.size); have rb4 : Hid (RB w4 w.heap.size) := rbo.out.later q4; have hz4 : w3.heap.size < w4.heap.size := (by have := q4.size; simp at this; omega); obtain ⟨o0, o1, p0, p1⟩ := own2 q4; obtain ⟨i0, i1⟩ := set2 o0 o1 (.int .i64 v1); have j2 : w4.cell? ⟨w.heap.size + 1, 2, none⟩ = some (.string (tx q2)) := (q4.cell (World.block_lt_of_cell? _ _ e2')).trans e2'; have j2' : (w4.setCell ⟨w3.heap.size, 0, none⟩ (.int .i64 v1)).cell? ⟨w.heap.size + 1, 2, none⟩ = some (.string (tx q2)) := (by rw [World.cell?_setCell_far _ _ _ _ (by show w3.heap.size ≠ w.heap.size + 1; omega)]; exact j2); clear htn q4)
    have m1 : (w4.setCell ⟨w3.heap.size, 0, none⟩ (.int .i64 v1)).frozen? ⟨w3.heap.size, 1, none⟩ = false := by rw [World.frozen?_setCell]; exact p1
    have b6 : Hid (Below w.heap.size w (w4.setCell ⟨w3.heap.size, 0, none⟩ (.int .i64 v1))) := b4.out.setCell (p := ⟨w3.heap.size, 0, none⟩) (by show w.heap.size ≤ w3.heap.size; omega) _
    have rb6 : Hid (RB (w4.setCell ⟨w3.heap.size, 0, none⟩ (.int .i64 v1)) w.heap.size) := rb4.out.set ⟨w3.heap.size, 0, none⟩ (.int .i64 v1) (by show w3.heap.size ≠ w.heap.size; omega)
    have z6 : w3.heap.size < (w4.setCell ⟨w3.heap.size, 0, none⟩ (.int .i64 v1)).heap.size := by rw [World.size_setCell]; exact hz4
    clear b4 rb4 o0 o1 p0 p1 j2 e1 e1' e2 e2' d0 d1 d2
    generalize w4.setCell ⟨w3.heap.size, 0, none⟩ (.int .i64 v1) = w6 at *
    rw [rounds_succ]
    cases B2 with
    | false =>
      go_wp2_with (go_at_call 25; refine (htn2.out _ (hT'.out.later b6.out)).mono ?_; rintro e w7 ⟨rfl, q7⟩; have b7 : Hid (Below w.heap.size w w7) := b6.out.trans (q7.mono b6.out.size); obtain ⟨s0, s1, s2, k0, k1, k2⟩ := rb6.out.later q7)
      obtain ⟨g0, g1, g2⟩ := set3 s0 s1 s2 (.int .i64 0) (.int .i64 0) (.int .i64 0)
      first | refine bodyPost_ret ?_ rfl ⟨⟨0, 0, 0, rfl, by simp⟩, below3 b7.out (Nat.le_refl _) _ _ _⟩ | refine bodyPost_ret ?_ rfl ⟨⟨0, 0, 0, rfl⟩, below3 b7.out (Nat.le_refl _) _ _ _⟩
      generalize (((w7.setCell ⟨w.heap.size, 0, none⟩ (.int .i64 0)).setCell ⟨w.heap.size, 1, none⟩ (.int .i64 0)).setCell ⟨w.heap.size, 2, none⟩ (.int .i64 0)) = u at *
      simp [results, go_sem, g0, g1, g2]
    | true =>
      go_wp2_with (go_at_call 25; refine (htn2.out _ (hT'.out.later b6.out)).mono ?_; rintro e w7 ⟨rfl, q7⟩; have b7 : Hid (Below w.heap.size w w7) := b6.out.trans (q7.mono b6.out.size); have rb7 : Hid (RB w7 w.heap.size) := rb6.out.later q7; have i0' := (q7.cell (p := ⟨w3.heap.size, 0, none⟩) z6).trans i0; have i1' := (q7.cell (p := ⟨w3.heap.size, 1, none⟩) z6).trans i1; have m1' := (q7.frozen (p := ⟨w3.heap.size, 1, none⟩) z6).trans m1; have t0 : (w7.setCell ⟨w3.heap.size, 1, none⟩ (.int .i64 v2)).cell? ⟨w3.heap.size, 0, none⟩ = some (.int .i64 v1) := (by rw [World.cell?_setCell_other _ _ _ _ (by simp)]; exact i0'); have t1 : (w7.setCell ⟨w3.heap.size, 1, none⟩ (.int .i64 v2)).cell? ⟨w3.heap.size, 1, none⟩ = some (.int .i64 v2) := World.cell?_setCell_same _ _ _ i1'; have z7 := Nat.lt_of_lt_of_le z6 q7.size; clear htn2 q7)
      rw [rounds_succ]
      go_wp2_with fail
      have b8 : Below w.heap.size w (w7.setCell ⟨w3.heap.size, 1, none⟩ (.int .i64 v2)) := b7.out.setCell (p := ⟨w3.heap.size, 1, none⟩) (by show w.heap.size ≤ w3.heap.size; omega) _
      have lb := (rb7.out.set ⟨w3.heap.size, 1, none⟩ (.int .i64 v2) (by show w3.heap.size ≠ w.heap.size; omega)).lb 32 (.int .i64 X) (.int .i64 v1) (.int .i64 v2)
      have bn : Below w.heap.size w ((w7.setCell ⟨w3.heap.size, 1, none⟩ (.int .i64 v2)).alloc (.cells #[.int .i64 X, .int .i64 v1, .int .i64 v2] 32)) := b8.alloc b8.size _
      rw [World.size_setCell] at lb
      generalize ((w7.setCell ⟨w3.heap.size, 1, none⟩ (.int .i64 v2)).alloc (.cells #[.int .i64 X, .int .i64 v1, .int .i64 v2] 32)) = Wn at *
      have lb' : Hid (LB Wn w.heap.size w7.heap.size (.int .i64 X) (.int .i64 v1) (.int .i64 v2)) := lb
      have bn' : Hid (Below w.heap.size w Wn) := bn
      obtain ⟨r0, r1, r2, k0, k1, k2, x0, x1, x2⟩ := lb
      clear bn b8 i0 i1 i0' i1' m1 m1' t0 t1 j2'
      go_region_with (go_at_call 26; refine (hio.out _ (hT'.out.tab.later bn'.out.drew)).mono ?_; rintro e w5 ⟨rfl, q5⟩; have b5 : Hid (Below w.heap.size w w5) := bn'.out.drew.trans (q5.mono bn'.out.size); obtain ⟨s0, s1, s2, _, _, _, _, _, _⟩ := lb'.out.later (((Below.refl _ _).drew).trans q5))
      all_goals
        go_wp2_with fail
        obtain ⟨g0, g1, g2⟩ := set3 s0 s1 s2 (.int .i64 X) (.int .i64 v1) (.int .i64 v2)
        first | refine bodyPost_ret ?_ rfl ⟨⟨X, v1, v2, rfl, by simp⟩, below3 b5.out (Nat.le_refl _) _ _ _⟩ | refine bodyPost_ret ?_ rfl ⟨⟨X, v1, v2, rfl⟩, below3 b5.out (Nat.le_refl _) _ _ _⟩
        generalize (((w5.setCell ⟨w.heap.size, 0, none⟩ (.int .i64 X)).setCell ⟨w.heap.size, 1, none⟩ (.int .i64 v1)).setCell ⟨w.heap.size, 2, none⟩ (.int .i64 v2)) = u at *
        simp [results, go_sem, g0, g1, g2]
end Go.Proofs.YtjbhelcdakhjbaaDoor.TextIns3
