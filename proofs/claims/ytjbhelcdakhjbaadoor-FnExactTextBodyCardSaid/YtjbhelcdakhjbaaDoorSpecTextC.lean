/-
  The walk of the specification's TextBody.
-/
import Derived.Test.YtjbhelcdakhjbaaDoorSpecTextB
namespace Go.Proofs.YtjbhelcdakhjbaaDoor.SpecTextC
open Go.RowKit PlainOps NameCalls PlainNum InsCalls PlainShape PlainAll PlainBody PlainRead PlainCut CutCalls InsMem OwnIns SpecTextB

/-- Two rows of different types lie apart. -/
theorem apart {B B' : Nat} {w : World} {v v' : Value} {P : List (List UInt8)} {l : List I3} {g cap : Nat} (hv : v = .slice (some ⟨g, 0, none⟩) P.length cap) (h : OwnT B w v P) (h' : OwnI B' w v' l) : v'.ownBlock ≠ some g := fun e => by
  rcases h.2 with ⟨h0, _⟩ | ⟨g1, c1, cur1, hv1, _, hh1, _⟩
  · rw [hv] at h0; cases h0
  · rw [hv] at hv1
    injection hv1 with e1 _ _
    injection e1 with e1
    injection e1 with e1
    subst e1
    rcases h'.2 with ⟨h0, _⟩ | ⟨g2, c2, cur2, hv2, _, hh2, _⟩
    · rw [h0] at e; simp [Value.ownBlock] at e
    · rw [hv2] at e
      simp [Value.ownBlock] at e
      subst e
      rw [hh1] at hh2
      injection hh2 with q
      injection q with _ q _
      exact absurd q (by decide)
theorem ownT_below {B : Nat} {w w' : World} {v : Value} {P : List (List UInt8)} (h : OwnT B w v P) (hb : Below w.heap.size w w') : OwnT B w' v P := by
  refine ⟨h.1, ?_⟩
  rcases h.2 with h0 | ⟨g, cap, cur, hv, hg, hh, r⟩
  · exact .inl h0
  · exact .inr ⟨g, cap, cur, hv, hg, by rw [hb.block g (Array.getElem?_eq_some_iff.1 hh).1]; exact hh, r⟩
theorem ownI_below {B : Nat} {w w' : World} {v : Value} {l : List I3} (h : OwnI B w v l) (hb : Below w.heap.size w w') : OwnI B w' v l := by
  refine ⟨h.1, ?_⟩
  rcases h.2 with h0 | ⟨g, cap, cur, hv, hg, hh, r⟩
  · exact .inl h0
  · exact .inr ⟨g, cap, cur, hv, hg, by rw [hb.block g (Array.getElem?_eq_some_iff.1 hh).1]; exact hh, r⟩
theorem ownT_grown {B : Nat} {w w' : World} {r : Option Nat} {v : Value} {P : List (List UInt8)} {g cap : Nat} (hv : v = .slice (some ⟨g, 0, none⟩) P.length cap) (h : OwnT B w v P) (hg : w.grownBy w' r) (hne : r ≠ some g) : OwnT B w' v P := by
  refine ⟨h.1, ?_⟩
  rcases h.2 with h0 | ⟨g1, c1, cur, hv1, hb, hh, q⟩
  · exact .inl h0
  · refine .inr ⟨g1, c1, cur, hv1, hb, ?_, q⟩
    rw [hv] at hv1
    injection hv1 with e1 _ _
    injection e1 with e1
    injection e1 with e1
    subst e1
    rw [hg.block g (Array.getElem?_eq_some_iff.1 hh).1 (fun e => hne e.symm)]
    exact hh
theorem grown_set {w w' : World} {r : Option Nat} {p : Addr} (x : Value) (hp : r = some p.block) (h : w' = w.setCell p x) : w.grownBy w' r := by
  subst h
  exact ⟨rfl, rfl, rfl, by simp, fun k _ hne => Below.heap_setCell w p x k (fun e => hne (by rw [hp, e]))⟩
/-- What a round must keep: the parts, what was read so far, what lay below. -/
structure RS (w : World) (g cap : Nat) (P : List (List UInt8)) (v : Value) (l : List I3) (u : World) : Prop where
  ot : OwnT (w.heap.size + 1) u (.slice (some ⟨g, 0, none⟩) P.length cap) P
  oi : OwnI w.heap.size u v l
  bl : Below w.heap.size w u
theorem RS.call {w u u' : World} {g cap : Nat} {P : List (List UInt8)} {v : Value} {l : List I3} (h : RS w g cap P v l u) (q : Below u.heap.size u u') : RS w g cap P v l u' := ⟨ownT_below h.ot q, ownI_below h.oi q, h.bl.trans (q.mono h.bl.size)⟩
theorem RS.alloc {w u : World} {g cap : Nat} {P : List (List UInt8)} {v : Value} {l : List I3} (h : RS w g cap P v l u) (o : Obj) : RS w g cap P v l (u.alloc o) := h.call ((Below.refl _ _).alloc (Nat.le_refl _) _)
theorem RS.set {w u : World} {g cap : Nat} {P : List (List UInt8)} {v : Value} {l : List I3} (h : RS w g cap P v l u) {p : Addr} (x : Value) (hw : w.heap.size ≤ p.block) (hg : g ≠ p.block) (hv : v.ownBlock ≠ some p.block) : RS w g cap P v l (u.setCell p x) := by
  refine ⟨ownT_grown rfl h.ot (grown_set x rfl rfl) (fun e => hg (by injection e with e; exact e.symm)), ⟨h.oi.1, ?_⟩, h.bl.setCell hw x⟩
  rcases h.oi.2 with h0 | ⟨g', cap', cur, hv', hb, hh, r⟩
  · exact .inl h0
  · exact .inr ⟨g', cap', cur, hv', hb, by rw [Below.heap_setCell _ _ _ _ (fun e => hv (by rw [hv']; simp [Value.ownBlock, e]))]; exact hh, r⟩
theorem RS.app {w u u' : World} {g cap : Nat} {P : List (List UInt8)} {v v' : Value} {l l' : List I3} (h : RS w g cap P v l u) (hg : u.grownBy u' v.ownBlock) (ho : OwnI w.heap.size u' v' l') : RS w g cap P v' l' u' :=
  ⟨ownT_grown rfl h.ot hg (apart rfl h.ot h.oi), ho, h.bl.grown hg h.bl.size (fun k hk => (World.ownsRow.lt h.oi k hk).1)⟩
theorem RS.out_of {w u : World} {g cap : Nat} {P : List (List UInt8)} {v : Value} {l : List I3} (h : RS w g cap P v l u) {b : Nat} (hb : u.heap.size ≤ b) : g ≠ b ∧ v.ownBlock ≠ some b :=
  ⟨fun e => by have := (World.ownsRow.lt h.ot g rfl).2; omega, fun e => by have := (World.ownsRow.lt h.oi b e).2; omega⟩
theorem keep3 {w w' : World} {x y z : Value} {t : TypeId} (h : Below (w.alloc (.cells #[x, y, z] t)).heap.size (w.alloc (.cells #[x, y, z] t)) w') :
    w'.cell? ⟨w.heap.size, 0, none⟩ = some x ∧ w'.cell? ⟨w.heap.size, 1, none⟩ = some y ∧ w'.cell? ⟨w.heap.size, 2, none⟩ = some z ∧ w'.frozen? ⟨w.heap.size, 1, none⟩ = false ∧ w'.frozen? ⟨w.heap.size, 2, none⟩ = false := by
  have hs : w.heap.size < (w.alloc (.cells #[x, y, z] t)).heap.size := by simp
  refine ⟨?_, ?_, ?_, ?_, ?_⟩ <;> first | (rw [h.cell hs]; simp; done) | (rw [h.frozen hs]; simp)
theorem keep3s {w w' : World} {b : Nat} {x y z : Value} (h0 : w.cell? ⟨b, 0, none⟩ = some x) (h2 : w.cell? ⟨b, 2, none⟩ = some z) (hf : w.frozen? ⟨b, 2, none⟩ = false)
    (h : Below (w.setCell ⟨b, 1, none⟩ y).heap.size (w.setCell ⟨b, 1, none⟩ y) w') {y0 : Value} (h1 : w.cell? ⟨b, 1, none⟩ = some y0) :
    w'.cell? ⟨b, 0, none⟩ = some x ∧ w'.cell? ⟨b, 1, none⟩ = some y ∧ w'.cell? ⟨b, 2, none⟩ = some z ∧ w'.frozen? ⟨b, 2, none⟩ = false := by
  have hb := World.block_lt_of_cell? w _ h0
  have hs : b < (w.setCell ⟨b, 1, none⟩ y).heap.size := by simpa using hb
  refine ⟨?_, ?_, ?_, ?_⟩
  · rw [h.cell hs, World.cell?_setCell_other _ _ _ _ (by simp)]; exact h0
  · rw [h.cell hs]; exact World.cell?_setCell_same _ _ _ h1
  · rw [h.cell hs, World.cell?_setCell_other _ _ _ _ (by simp)]; exact h2
  · rw [h.frozen hs]; simpa using hf
theorem far3 {w w' : World} {o : Obj} (h : Below (w.alloc o).heap.size (w.alloc o) w') {p : Addr} {v : Value} (hp : w.cell? p = some v) (y : Value) : (w'.setCell ⟨w.heap.size, 1, none⟩ y).cell? p = some v := by
  have hb := World.block_lt_of_cell? w _ hp
  have e1 : (w.alloc o).cell? p = some v := (Below.cell ((Below.refl _ _).alloc (Nat.le_refl _) _) hb).trans hp
  have e2 : w'.cell? p = some v := (h.cell (by simp; omega)).trans e1
  rw [World.cell?_setCell_far _ _ _ _ (fun e => by simp at e; omega)]
  exact e2
/-- What the specification answers. -/
noncomputable def ansL (l : List UInt8) : List I3 := if okB l = true then rdB l else []
set_option maxRecDepth 20000 in
set_option maxHeartbeats 8000000 in
theorem spec_empty (w : World) :
    Calls Tryd.prog 4 #[.string ⟨#[]⟩] w fun e w' => ∃ v, e = .returned (.tuple #[v, .bool true]) ∧ OwnI w.heap.size w' v [] ∧ Below w.heap.size w w' := by
  go_enter Tryd.func4, Tryd.ntmps4
  go_wp2_with fail
  go_ret2
  exact ⟨_, rfl, World.ownsRow_made w #[] 0 (Nat.le_refl _) (by decide) rfl, (Below.refl _ _).alloc (Nat.le_refl _) _⟩
set_option maxRecDepth 20000 in
set_option maxHeartbeats 16000000 in
theorem spec_textBody (s : ByteArray) (l : List UInt8) (hl : s.data.toList = l) (hne : l ≠ []) (w : World) (hs : s.size ≤ 1048576) :
    Calls Tryd.prog 4 #[.string s] w fun e w' => ∃ v, e = .returned (.tuple #[v, .bool (okB l)]) ∧ OwnI w.heap.size w' v (ansL l) ∧ Below w.heap.size w w' := by
  have hsz : l.length = s.size := by rw [← hl]; rfl
  have hsn : ¬ s = ⟨#[]⟩ := fun e => hne (by rw [← hl, e])
  obtain ⟨n1, n2⟩ := str_nil hsn
  have hcut : Hid (∀ u, Calls Tryd.prog 9 #[.string s, .int .u8 59] u fun e w' => ∃ v, e = .returned v ∧ OwnT u.heap.size w' v (cutL 59 l) ∧ Below u.heap.size u w') := fun u => by rw [← hl]; exact spec_cut s 59 u hs
  have hP0 := cutL_ne 59 l
  have hPn := cut_count 59 l
  have hPs : Hid (∀ j, ((cutL 59 l).getD j []).length ≤ 1048576) := fun j => by have := getD_size 59 l j; omega
  generalize hP : cutL 59 l = P at *
  have hP' : Hid (cutL 59 l = P) := hP
  have hiff : Hid (bodyText (P.map rdI) = s ↔ okB l = true) := by
    have := body_iff l hne
    unfold rdB at this
    rw [hP] at this
    have e : tx l = s := by rw [← hl]; rfl
    rw [e] at this
    exact this
  have hans : Hid (ansL l = if okB l = true then P.map rdI else []) := by show _ = _; unfold ansL rdB; rw [hP]
  clear hP hl hne hsn
  generalize okB l = OK at *
  go_enter Tryd.func4, Tryd.ntmps4
  go_wp2_with (go_at_call 9; refine (hcut.out _).mono ?_; rintro e w1 ⟨v1, rfl, oT, b1⟩; obtain ⟨g, cap, rfl, hgB, hgl, _⟩ := ownT_cell oT hP0; have oT' : Hid (OwnT (w.heap.size + 1) w1 (.slice (some ⟨g, 0, none⟩) P.length cap) P) := (by simp only [World.size_alloc] at oT; exact oT); have b1' : Hid (Below w.heap.size w w1) := ((Below.refl _ _).alloc (Nat.le_refl _) _).trans (b1.mono (by simp)); have oI : Hid (OwnI w.heap.size w1 (.slice (some ⟨w.heap.size, 0, none⟩) 0 0) []) := ownI_below (World.ownsRow_made w #[] 0 (Nat.le_refl _) (by decide) rfl) b1; clear oT b1)
  go_loopw [4, 16] (fun vo vk wr => ∃ k : Nat, k ≤ P.length ∧ vk = .int .i64 k ∧ OwnT (w.heap.size + 1) wr (.slice (some ⟨g, 0, none⟩) P.length cap) P ∧ OwnI w.heap.size wr vo (rdK P k) ∧ Below w.heap.size w wr) (fun _ vk _ => P.length - (intOf vk).toNat)
  case atStart => exact ⟨0, Nat.zero_le _, rfl, oT'.out, oI.out, b1'.out⟩
  case round =>
    obtain ⟨k, hk, rfl, oTk, oIk, hb⟩ := hrel
    obtain ⟨ao, co, No, rfl, hNo⟩ := oIk.form
    have oT1 : Hid (OwnT (w.heap.size + 1) wr (.slice (some ⟨g, 0, none⟩) P.length cap) P) := oTk
    have oI1 : Hid (OwnI w.heap.size wr (.slice ao No co) (rdK P k)) := oIk
    have hb1 : Hid (Below w.heap.size w wr) := hb
    have hwz := hb.size
    have hlen : (rdK P k).length ≤ 2000000 := by unfold rdK; simp; omega
    by_cases hlt : k < P.length
    · have hlt' : (k : Int) < (P.length : Int) := by omega
      obtain ⟨_, _, hv, _, hgw, hcells⟩ := ownT_cell oTk hP0
      injection hv with q1 _ q3
      injection q1 with q1
      injection q1 with q1
      subst q1 q3
      have c0 := hcells k hlt
      have hstep : Hid (rdK P (k + 1) = rdK P k ++ [rdI (P.getD k [])]) := rdK_step P k hlt
      have htl := hPs.out k
      clear hcells oTk oIk hb
      generalize P.getD k [] = t at *
      have hI : Hid (rdI t = (nmOp (tx ((cutL 32 t).getD 0 [])), if 1 < (cutL 32 t).length then (T ((cutL 32 t).getD 1 [])).1 else 0, if 2 < (cutL 32 t).length then (T ((cutL 32 t).getD 2 [])).1 else 0)) := rfl
      have hc2 : Hid (∀ u, Calls Tryd.prog 9 #[.string (tx t), .int .u8 32] u fun e w' => ∃ v, e = .returned v ∧ OwnT u.heap.size w' v (cutL 32 t) ∧ Below u.heap.size u w') := fun u => by
        have := spec_cut (tx t) 32 u (by rw [tx_len]; exact htl)
        rw [tx_l] at this
        exact this
      have hT : Hid (∀ (j : Nat) u, Calls Tryd.prog 11 #[.string (tx ((cutL 32 t).getD j []))] u fun e w' => e = .returned (.tuple #[.int .i64 (T ((cutL 32 t).getD j [])).1, .bool (T ((cutL 32 t).getD j [])).2]) ∧ Below u.heap.size u w') := fun j u => by
        have hj := getD_size 32 t j
        have := ReadCalls.spec_textNum (tx ((cutL 32 t).getD j [])) (by rw [tx_len]; omega) u
        rw [tx_l] at this
        exact this
      have hQ0 := cutL_ne 32 t
      generalize cutL 32 t = Q at *
      have hQl : 0 < Q.length := List.length_pos_iff.2 hQ0
      obtain ⟨q0, hq0⟩ : ∃ q, Q.getD 0 [] = q := ⟨_, rfl⟩
      obtain ⟨q1, hq1⟩ : ∃ q, Q.getD 1 [] = q := ⟨_, rfl⟩
      obtain ⟨q2, hq2⟩ : ∃ q, Q.getD 2 [] = q := ⟨_, rfl⟩
      have hT1 : Hid (∀ u, Calls Tryd.prog 11 #[.string (tx q1)] u fun e w' => e = .returned (.tuple #[.int .i64 (T q1).1, .bool (T q1).2]) ∧ Below u.heap.size u w') := fun u => by rw [← hq1]; exact hT.out 1 u
      have hT2 : Hid (∀ u, Calls Tryd.prog 11 #[.string (tx q2)] u fun e w' => e = .returned (.tuple #[.int .i64 (T q2).1, .bool (T q2).2]) ∧ Below u.heap.size u w') := fun u => by rw [← hq2]; exact hT.out 2 u
      rw [hq0, hq1, hq2] at hI
      have hqs : Hid (Q.getD 0 [] = q0 ∧ Q.getD 1 [] = q1 ∧ Q.getD 2 [] = q2) := ⟨hq0, hq1, hq2⟩
      clear hT hq0 hq1 hq2
      have R1 : Hid (RS w g cap P (.slice ao No co) (rdK P k) wr) := ⟨oT1.out, oI1.out, hb1.out⟩
      by_cases hQ1 : Q.length = 1
      · have z1 : ¬ (1 < (Q.length : Int)) := by omega
        have z2 : ¬ (2 < (Q.length : Int)) := by omega
        have y1 : decide (1 < (Q.length : Int)) = false := decide_eq_false z1
        have y2 : decide (2 < (Q.length : Int)) = false := decide_eq_false z2
        rw [if_neg (by omega), if_neg (by omega)] at hI
        clear hQ1
        go_wp2_with (first | (go_at_call 9; refine (hc2.out _).mono ?_; rintro e w2 ⟨v2, rfl, oQ, q2⟩; obtain ⟨g2, cap2, rfl, _, hg2, hcQ⟩ := ownT_cell oQ hQ0; have d0 := hcQ 0 hQl; rw [hqs.out.1] at d0; have hcQ' : Hid (∀ j, j < Q.length → w2.cell? ⟨g2, j, none⟩ = some (.string (tx (Q.getD j [])))) := hcQ; have R2 : Hid (RS w g cap P (.slice ao No co) (rdK P k) w2) := R1.out.call q2; clear hcQ oQ q2 hc2) | (go_at_call 10; refine (spec_nameOp _ _).mono ?_; rintro e w3 ⟨rfl, q3⟩; have R3 : Hid (RS w g cap P (.slice ao No co) (rdK P k) w3) := R2.out.call q3; have q3' : Hid (Below w2.heap.size w2 w3) := q3; have sz3 := R3.out.bl.size; clear q3) | (at_builtin; refine wp_appI rfl _ _ rfl (R3.out.alloc _).oi (by simp; omega) (nmOp (tx q0)) 0 0 (by omega) rfl _ _ (by simp) rfl ?_; intro g9 c9 N9 w9 hN9 o9 q9; have R9 : Hid (RS w g cap P (.slice (some ⟨g9, 0, none⟩) N9 c9) (rdK P k ++ [(nmOp (tx q0), 0, 0)]) w9) := ((R3.out.alloc _).alloc _).app q9 o9; clear hN9 o9 q9))
        go_roundw
        case rel => exact ⟨k + 1, by omega, by go_num, R9.out.ot, by rw [hstep.out, hI.out]; exact R9.out.oi, R9.out.bl⟩
        case measure => simp [intOf]; omega
      · have z1 : (1 < (Q.length : Int)) := by omega
        have y1 : decide (1 < (Q.length : Int)) = true := decide_eq_true z1
        by_cases hQ2 : Q.length = 2
        · have z2 : ¬ (2 < (Q.length : Int)) := by omega
          have y2 : decide (2 < (Q.length : Int)) = false := decide_eq_false z2
          rw [if_pos (by omega), if_neg (by omega)] at hI
          go_wp2_with (first | (go_at_call 9; refine (hc2.out _).mono ?_; rintro e w2 ⟨v2, rfl, oQ, q2⟩; obtain ⟨g2, cap2, rfl, _, hg2, hcQ⟩ := ownT_cell oQ hQ0; have d0 := hcQ 0 hQl; rw [hqs.out.1] at d0; have d1 := hcQ 1 (by omega); rw [hqs.out.2.1] at d1; have hcQ' : Hid (∀ j, j < Q.length → w2.cell? ⟨g2, j, none⟩ = some (.string (tx (Q.getD j [])))) := hcQ; have R2 : Hid (RS w g cap P (.slice ao No co) (rdK P k) w2) := R1.out.call q2; clear hcQ oQ q2 hc2) | (go_at_call 10; refine (spec_nameOp _ _).mono ?_; rintro e w3 ⟨rfl, q3⟩; have R3 : Hid (RS w g cap P (.slice ao No co) (rdK P k) w3) := R2.out.call q3; have q3' : Hid (Below w2.heap.size w2 w3) := q3; have d1' : w3.cell? ⟨g2, 1, none⟩ = some (.string (tx q1)) := (q3.cell (World.block_lt_of_cell? w2 _ d1)).trans d1; have d1'' : (w3.alloc (.cells #[.int .i64 (nmOp (tx q0)), .int .i64 0, .int .i64 0] 32)).cell? ⟨g2, 1, none⟩ = some (.string (tx q1)) := (Below.cell ((Below.refl _ _).alloc (Nat.le_refl _) _) (World.block_lt_of_cell? w3 _ d1')).trans d1'; have sz3 := R3.out.bl.size; clear q3) | (go_at_call 11; refine (hT1.out _).mono ?_; rintro e w4 ⟨rfl, q4⟩; obtain ⟨_, _, _, _, _⟩ := keep3 q4; have R4 : Hid (RS w g cap P (.slice ao No co) (rdK P k) (w4.setCell ⟨w3.heap.size, 1, none⟩ (.int .i64 (T q1).1))) := ((R3.out.alloc _).call q4).set (p := ⟨w3.heap.size, 1, none⟩) _ sz3 (R3.out.out_of (Nat.le_refl _)).1 (R3.out.out_of (Nat.le_refl _)).2; have sz4 := R4.out.bl.size; clear hT1 q4) | (at_builtin; refine wp_appI rfl _ _ rfl R4.out.oi sz4 (nmOp (tx q0)) (T q1).1 0 (by omega) rfl _ _ (by simp) rfl ?_; intro g9 c9 N9 w9 hN9 o9 q9; have R9 : Hid (RS w g cap P (.slice (some ⟨g9, 0, none⟩) N9 c9) (rdK P k ++ [(nmOp (tx q0), (T q1).1, 0)]) w9) := (R4.out.alloc _).app q9 o9; clear hN9 o9 q9))
          go_roundw
          case rel => exact ⟨k + 1, by omega, by go_num, R9.out.ot, by rw [hstep.out, hI.out]; exact R9.out.oi, R9.out.bl⟩
          case measure => simp [intOf]; omega
        · have z2 : (2 < (Q.length : Int)) := by omega
          have y2 : decide (2 < (Q.length : Int)) = true := decide_eq_true z2
          rw [if_pos (by omega), if_pos (by omega)] at hI
          go_wp2_with (first | (go_at_call 9; refine (hc2.out _).mono ?_; rintro e w2 ⟨v2, rfl, oQ, qb⟩; obtain ⟨g2, cap2, rfl, _, hg2, hcQ⟩ := ownT_cell oQ hQ0; have d0 := hcQ 0 hQl; rw [hqs.out.1] at d0; have d1 := hcQ 1 (by omega); rw [hqs.out.2.1] at d1; have d2 := hcQ 2 (by omega); rw [hqs.out.2.2] at d2; have hcQ' : Hid (∀ j, j < Q.length → w2.cell? ⟨g2, j, none⟩ = some (.string (tx (Q.getD j [])))) := hcQ; have R2 : Hid (RS w g cap P (.slice ao No co) (rdK P k) w2) := R1.out.call qb; clear hcQ oQ qb hc2) | (go_at_call 10; refine (spec_nameOp _ _).mono ?_; rintro e w3 ⟨rfl, q3⟩; have R3 : Hid (RS w g cap P (.slice ao No co) (rdK P k) w3) := R2.out.call q3; have q3' : Hid (Below w2.heap.size w2 w3) := q3; have d1' : w3.cell? ⟨g2, 1, none⟩ = some (.string (tx q1)) := (q3.cell (World.block_lt_of_cell? w2 _ d1)).trans d1; have d2' : w3.cell? ⟨g2, 2, none⟩ = some (.string (tx q2)) := (q3.cell (World.block_lt_of_cell? w2 _ d2)).trans d2; have d1'' : (w3.alloc (.cells #[.int .i64 (nmOp (tx q0)), .int .i64 0, .int .i64 0] 32)).cell? ⟨g2, 1, none⟩ = some (.string (tx q1)) := (Below.cell ((Below.refl _ _).alloc (Nat.le_refl _) _) (World.block_lt_of_cell? w3 _ d1')).trans d1'; have sz3 := R3.out.bl.size; clear q3) | (go_at_call 11; refine (hT1.out _).mono ?_; rintro e w4 ⟨rfl, q4⟩; obtain ⟨f0, f1, f2, f3, f4⟩ := keep3 q4; have R4 : Hid (RS w g cap P (.slice ao No co) (rdK P k) (w4.setCell ⟨w3.heap.size, 1, none⟩ (.int .i64 (T q1).1))) := ((R3.out.alloc _).call q4).set (p := ⟨w3.heap.size, 1, none⟩) _ sz3 (R3.out.out_of (Nat.le_refl _)).1 (R3.out.out_of (Nat.le_refl _)).2; have sz4 := R4.out.bl.size; have d3' := far3 q4 d2' (.int .i64 (T q1).1); clear hT1 q4) | (go_at_call 11; refine (hT2.out _).mono ?_; rintro e w5 ⟨rfl, q5⟩; obtain ⟨_, _, _, _⟩ := keep3s f0 f2 f4 q5 f1; have R5 : Hid (RS w g cap P (.slice ao No co) (rdK P k) (w5.setCell ⟨w3.heap.size, 2, none⟩ (.int .i64 (T q2).1))) := (R4.out.call q5).set (p := ⟨w3.heap.size, 2, none⟩) _ sz3 (R3.out.out_of (Nat.le_refl _)).1 (R3.out.out_of (Nat.le_refl _)).2; have sz5 := R5.out.bl.size; clear hT2 q5) | (at_builtin; refine wp_appI rfl _ _ rfl R5.out.oi sz5 (nmOp (tx q0)) (T q1).1 (T q2).1 (by omega) rfl _ _ (by simp) rfl ?_; intro g9 c9 N9 w9 hN9 o9 q9; have R9 : Hid (RS w g cap P (.slice (some ⟨g9, 0, none⟩) N9 c9) (rdK P k ++ [(nmOp (tx q0), (T q1).1, (T q2).1)]) w9) := (R5.out.alloc _).app q9 o9; clear hN9 o9 q9))
          go_roundw
          case rel => exact ⟨k + 1, by omega, by go_num, R9.out.ot, by rw [hstep.out, hI.out]; exact R9.out.oi, R9.out.bl⟩
          case measure => simp [intOf]; omega
    · obtain rfl : k = P.length := by omega
      have hR : Hid (rdK P P.length = P.map rdI) := by show _ = _; unfold rdK; rw [List.take_length]
      rw [hR.out] at oI1 hlen
      have hrd : RdI wr ao (P.map rdI) := ownI_rd (by rw [hNo.out, hR.out]) oI1.out
      have hNo' : Hid (No = (P.map rdI).length) := by show No = _; rw [hNo.out, hR.out]
      have hB : Hid (Calls Tryd.prog 12 #[.slice ao No co] wr fun e w' => e = .returned (.string (bodyText (P.map rdI))) ∧ Below wr.heap.size wr w') := by
        rw [hNo'.out]
        exact BodyCalls.spec_bodyText wr ao co (P.map rdI) hrd (by omega)
      clear hrd oTk oIk hb hNo hlen
      cases OK with
      | true =>
        have e1 := hiff.out.2 rfl
        have e2 : Hid (ansL l = P.map rdI) := by rw [hans.out]; exact if_pos rfl
        rw [e1] at hB
        clear hiff hans e1
        go_wp2_with (go_at_call 12; refine hB.out.mono ?_; rintro e w2 ⟨rfl, q2⟩)
        go_ret2
        exact ⟨_, rfl, by rw [e2.out]; exact ownI_below oI1.out q2, hb1.out.trans (q2.mono hwz)⟩
      | false =>
        have e1 : ¬ bodyText (P.map rdI) = s := fun e => by have := hiff.out.1 e; cases this
        have e2 : Hid (ansL l = []) := by rw [hans.out]; exact if_neg (by decide)
        clear hiff hans
        generalize bodyText (P.map rdI) = X at *
        have d1 := str_ne e1
        have d2 : (X.toList != s.toList) = true := by rw [bne, d1]; rfl
        clear e1
        go_wp2_with (go_at_call 12; refine hB.out.mono ?_; rintro e w2 ⟨rfl, q2⟩)
        go_ret2
        exact ⟨_, rfl, by rw [e2.out]; exact OwnI.nil _ _, hb1.out.trans (q2.mono hwz)⟩
end Go.Proofs.YtjbhelcdakhjbaaDoor.SpecTextC
