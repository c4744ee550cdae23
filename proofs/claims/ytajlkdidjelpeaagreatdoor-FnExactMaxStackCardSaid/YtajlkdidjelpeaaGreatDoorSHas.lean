/-
  The specification on what is there and on what is taken and put. (Written by my spechas.py.)
-/
import Derived.Test.YtajlkdidjelpeaaGreatDoorSIns
import Derived.Test.YtajlkdidjelpeaaGreatDoorValidStep
namespace Go.Proofs.YtajlkdidjelpeaaGreatDoor.SHas
open Go.RowKit PlainOps NameCalls PlainNum NumCalls InsCalls InsImpl PlainShape InsMem FormCalls ModMem FormImpl PlainValid ValidCtx Piles Walks SPiles SWalks SIns

structure SEnv (B q g n cap : Nat) (w : World) (p : P) (m : M) (s x : Int) (h : Int) (bad : Bool) (st : List Fr) (o i : Int) : Prop where
  b : SV B w q (sF p m (ctxOf m s x).loc) h (.slice (some ⟨g, 0, none⟩) (n + 1) cap) bad st
  hR : Rd w p m
  f : Facts m
  h0 : 0 ≤ s
  h1 : s < m.sigs.length
  hn : n ≤ 100000
  hi : InsF o i
theorem senvLater {B q g n cap : Nat} {w u : World} {p : P} {m : M} {s x : Int} {h : Int} {bad : Bool} {st : List Fr} {o i : Int} (E : SEnv B q g n cap w p m s x h bad st o i) (hb : Below w.heap.size w u) : SEnv B q g n cap u p m s x h bad st o i :=
  ⟨E.b.later hb, E.hR.later hb, E.f, E.h0, E.h1, E.hn, E.hi⟩
set_option maxRecDepth 20000 in
set_option maxHeartbeats 8000000 in
theorem hasCall (B q g n cap : Nat) (w : World) (p : P) (m : M) (s x : Int) (h : Int) (bad : Bool) (st : List Fr) (o i b0 : Int) (E : SEnv B q g n cap w p m s x h bad st o i) (N : Nat) (ho : o = 16) :
    Calls Tryz.prog 68 #[.pointer (some ⟨q, 0, none⟩), .agg #[.int .i64 o, .int .i64 i, .int .i64 b0]] w fun e w' => e = .returned (.bool (PlainValid.there (ctxOf m s x) o i N)) ∧ Below w.heap.size w w' := by
  obtain ⟨b, hR, f, h0, h1, hn, hi⟩ := E
  subst ho
  obtain ⟨hi0, hi1⟩ := hi.idx (by omega)
  obtain ⟨j, rfl⟩ : ∃ j : Nat, i = j := ⟨i.toNat, by omega⟩
  have hco := f.co
  have e1 : Hid (PlainValid.there (ctxOf m s x) 16 (j : Int) N = decide (j < m.imps.length + m.fns.length)) := by
    show _ = _
    unfold PlainValid.there ctxOf
    rw [if_neg (by omega), if_pos rfl]
    simp
    omega
  rw [e1.out]
  clear e1
  have kS : Hid (∀ u : World, Below w.heap.size w u → Calls Tryz.prog 112 #[.agg #[.slice p.a0 m.sigs.length p.c0, .slice p.a1 m.imps.length p.c1, .slice p.a2 m.fns.length p.c2, .int .i64 m.pages, .int .i64 m.most, .slice p.a3 m.gls.length p.c3, .slice p.a4 m.exs.length p.c4, .slice p.a5 m.dat.length p.c5], .int .i64 (j : Int)] u fun e w' => ∃ X0 X1 : Int, e = .returned (.tuple #[.agg #[.int .i64 X0, .int .i64 X1], .bool (decide (j < m.imps.length + m.fns.length))]) ∧ Below u.heap.size u w') := fun u hu => by
    by_cases hj : j < m.imps.length + m.fns.length
    · rw [decide_eq_true hj]
      exact (sigYes p m u j (hR.later hu) f hj).mono fun _ _ ⟨z1, z2⟩ => ⟨_, _, z1, z2⟩
    · rw [decide_eq_false hj]
      exact (sigNo p m u (j : Int) (by omega) (.inr (by omega))).mono fun _ _ ⟨z1, z2⟩ => ⟨_, _, z1, z2⟩
  have hcs : Hid (∀ u : World, Below (w.alloc (.cells #[.int .i64 16, .int .i64 (j : Int), .int .i64 b0] 62)).heap.size (w.alloc (.cells #[.int .i64 16, .int .i64 (j : Int), .int .i64 b0] 62)) u → u.cell? ⟨q, 0, none⟩ = some (.slice p.a0 m.sigs.length p.c0) ∧ u.cell? ⟨q, 1, none⟩ = some (.slice p.a1 m.imps.length p.c1) ∧ u.cell? ⟨q, 2, none⟩ = some (.slice p.a2 m.fns.length p.c2) ∧ u.cell? ⟨q, 3, none⟩ = some (.int .i64 m.pages) ∧ u.cell? ⟨q, 4, none⟩ = some (.int .i64 m.most) ∧ u.cell? ⟨q, 5, none⟩ = some (.slice p.a3 m.gls.length p.c3) ∧ u.cell? ⟨q, 6, none⟩ = some (.slice p.a4 m.exs.length p.c4) ∧ u.cell? ⟨q, 7, none⟩ = some (.slice p.a5 m.dat.length p.c5) ∧ u.cell? ⟨q, 8, none⟩ = some (.int .i64 (ctxOf m s x).loc) ∧ u.cell? ⟨w.heap.size, 1, none⟩ = some (.int .i64 (j : Int))) := fun u hu => by
    obtain ⟨a0, a1, a2, a3, a4, a5, a6, a7, a8⟩ := sfixed ((b.alloc _).later hu)
    refine ⟨a0, a1, a2, a3, a4, a5, a6, a7, a8, ?_⟩
    rw [hu.cell (by simp)]
    simp
  obtain ⟨d0, d1, d2, d3, d4, d5, d6, d7, d8⟩ := sfixed b
  have hq := b.lt
  have BA : Hid (Below w.heap.size w ((w.alloc (.cells #[.int .i64 16, .int .i64 (j : Int), .int .i64 b0] 62)).drew)) := ((Below.refl _ _).alloc (Nat.le_refl _) _).drew
  have BB : Hid (Below w.heap.size w (((w.alloc (.cells #[.int .i64 16, .int .i64 (j : Int), .int .i64 b0] 62)).alloc (.cells #[.int .i64 0, .int .i64 0] 119)).drew)) := (((Below.refl _ _).alloc (Nat.le_refl _) _).alloc (by simp) _).drew
  have BC : Hid (Below (w.alloc (.cells #[.int .i64 16, .int .i64 (j : Int), .int .i64 b0] 62)).heap.size (w.alloc (.cells #[.int .i64 16, .int .i64 (j : Int), .int .i64 b0] 62)) (((w.alloc (.cells #[.int .i64 16, .int .i64 (j : Int), .int .i64 b0] 62)).alloc (.cells #[.int .i64 0, .int .i64 0] 119)).drew)) := ((Below.refl _ _).alloc (Nat.le_refl _) _).drew
  have rr : Hid (∀ u : World, Below ((w.alloc (.cells #[.int .i64 16, .int .i64 (j : Int), .int .i64 b0] 62)).alloc (.cells #[.int .i64 0, .int .i64 0] 119)).heap.size ((w.alloc (.cells #[.int .i64 16, .int .i64 (j : Int), .int .i64 b0] 62)).alloc (.cells #[.int .i64 0, .int .i64 0] 119)) u → u.rowIs (w.heap.size + 1) 119 2 (fun _ => .int .i64 0)) := fun u hu => by
    have r := World.rowIs_alloc (w.alloc (.cells #[.int .i64 16, .int .i64 (j : Int), .int .i64 b0] 62)) #[.int .i64 0, .int .i64 0] 119 (fun _ => .int .i64 0) (fun i hi => by
      match i, hi with
      | 0, _ => rfl
      | 1, _ => rfl)
    simp only [World.size_alloc] at r
    exact r.of_block (hu.block _ r.lt)
  clear b hR f hi h0 h1 hi0 hi1 hco
  generalize decide (j < m.imps.length + m.fns.length) = R at *
  generalize m.sigs.length = N0 at *
  generalize m.imps.length = N1 at *
  generalize m.fns.length = N2 at *
  generalize m.gls.length = N3 at *
  generalize m.exs.length = N4 at *
  generalize m.dat.length = N5 at *
  go_enter Tryz.func68, Tryz.ntmps68
  go_wp2_with fail
  go_region_with (go_at_call 112; first | (refine (kS.out _ BA.out).mono ?_; rintro e w1 ⟨X0, X1, rfl, q1⟩; have x1 : Hid (Below w.heap.size w w1) := BA.out.trans (q1.mono (by simp)); obtain ⟨_, _, _, _, _, _, _, _, _, _⟩ := hcs.out _ (((Below.refl _ _).drew).trans q1)) | (refine (kS.out _ BB.out).mono ?_; rintro e w1 ⟨X0, X1, rfl, q1⟩; have x1 : Hid (Below w.heap.size w w1) := BB.out.trans (q1.mono (by simp; omega)); have r1 := rr.out _ (((Below.refl _ _).drew).trans q1); have y0 := r1.cell (i := 0) (by omega); have y1 := r1.cell (i := 1) (by omega); have y2 := r1.frozen 0; have y3 := r1.frozen 1; obtain ⟨_, _, _, _, _, _, _, _, _, _⟩ := hcs.out _ (BC.out.trans (q1.mono (by simp)))))
  all_goals
    go_wp2_with fail
    go_ret
    refine ⟨rfl, ?_⟩
    first
      | exact x1.out.alloc x1.out.size _
      | exact (x1.out.alloc x1.out.size _).trans ⟨rfl, rfl, rfl, Nat.le_refl _, fun _ _ => rfl⟩
      | exact ((x1.out.alloc x1.out.size _).setCell (p := ⟨w1.heap.size, 0, none⟩) x1.out.size _).setCell (p := ⟨w1.heap.size, 1, none⟩) x1.out.size _
      | exact (x1.out.setCell (p := ⟨w.heap.size + 1, 0, none⟩) (by simp) _).setCell (p := ⟨w.heap.size + 1, 1, none⟩) (by simp) _
set_option maxRecDepth 20000 in
set_option maxHeartbeats 8000000 in
theorem hasLoc (B q g n cap : Nat) (w : World) (p : P) (m : M) (s x : Int) (h : Int) (bad : Bool) (st : List Fr) (o i b0 : Int) (E : SEnv B q g n cap w p m s x h bad st o i) (N : Nat) (ho : o = 32 ∨ o = 33 ∨ o = 34) :
    Calls Tryz.prog 68 #[.pointer (some ⟨q, 0, none⟩), .agg #[.int .i64 o, .int .i64 i, .int .i64 b0]] w fun e w' => e = .returned (.bool (PlainValid.there (ctxOf m s x) o i N)) ∧ Below w.heap.size w w' := by
  obtain ⟨b, hR, f, h0, h1, hn, hi⟩ := E
  have e1 : Hid (PlainValid.there (ctxOf m s x) o i N = decide (i < (ctxOf m s x).loc)) := by
    show _ = _
    unfold PlainValid.there
    rw [if_neg (by omega), if_neg (by omega), if_pos ho]
  rw [e1.out]
  clear e1
  obtain ⟨d0, d1, d2, d3, d4, d5, d6, d7, d8⟩ := sfixed b
  have hq := b.lt
  clear b hR f hi h0 h1
  generalize (ctxOf m s x).loc = X0 at *
  rcases ho with rfl | rfl | rfl
  all_goals
    go_enter Tryz.func68, Tryz.ntmps68
    go_wp2_with fail
    go_quiet (fail)
    go_wp2_with fail
    go_ret
    exact ⟨rfl, ((Below.refl _ _).alloc (Nat.le_refl _) _).trans ⟨rfl, rfl, rfl, Nat.le_refl _, fun _ _ => rfl⟩⟩
set_option maxRecDepth 20000 in
set_option maxHeartbeats 8000000 in
theorem hasGlob (B q g n cap : Nat) (w : World) (p : P) (m : M) (s x : Int) (h : Int) (bad : Bool) (st : List Fr) (o i b0 : Int) (E : SEnv B q g n cap w p m s x h bad st o i) (N : Nat) (ho : o = 35) :
    Calls Tryz.prog 68 #[.pointer (some ⟨q, 0, none⟩), .agg #[.int .i64 o, .int .i64 i, .int .i64 b0]] w fun e w' => e = .returned (.bool (PlainValid.there (ctxOf m s x) o i N)) ∧ Below w.heap.size w w' := by
  obtain ⟨b, hR, f, h0, h1, hn, hi⟩ := E
  subst ho
  have e1 : Hid (PlainValid.there (ctxOf m s x) 35 i N = decide (i < (m.gls.length : Int))) := by
    show _ = _
    unfold PlainValid.there ctxOf
    rw [if_neg (by omega), if_neg (by omega), if_neg (by omega), if_pos rfl]
  rw [e1.out]
  clear e1
  obtain ⟨d0, d1, d2, d3, d4, d5, d6, d7, d8⟩ := sfixed b
  have hq := b.lt
  clear b hR f hi h0 h1
  generalize m.gls.length = N3 at *
  go_enter Tryz.func68, Tryz.ntmps68
  go_wp2_with fail
  go_quiet (fail)
  go_wp2_with fail
  go_ret
  exact ⟨rfl, ((Below.refl _ _).alloc (Nat.le_refl _) _).trans ⟨rfl, rfl, rfl, Nat.le_refl _, fun _ _ => rfl⟩⟩
set_option maxRecDepth 20000 in
set_option maxHeartbeats 8000000 in
theorem hasMut (B q g n cap : Nat) (w : World) (p : P) (m : M) (s x : Int) (h : Int) (bad : Bool) (st : List Fr) (o i b0 : Int) (E : SEnv B q g n cap w p m s x h bad st o i) (N : Nat) (ho : o = 36) :
    Calls Tryz.prog 68 #[.pointer (some ⟨q, 0, none⟩), .agg #[.int .i64 o, .int .i64 i, .int .i64 b0]] w fun e w' => e = .returned (.bool (PlainValid.there (ctxOf m s x) o i N)) ∧ Below w.heap.size w w' := by
  obtain ⟨b, hR, f, h0, h1, hn, hi⟩ := E
  subst ho
  obtain ⟨hi0, hi1⟩ := hi.idx (by omega)
  obtain ⟨j, rfl⟩ : ∃ j : Nat, i = j := ⟨i.toNat, by omega⟩
  obtain ⟨d0, d1, d2, d3, d4, d5, d6, d7, d8⟩ := sfixed b
  have hq := b.lt
  by_cases hlt : j < m.gls.length
  · have hlt' : (j : Int) < (m.gls.length : Int) := by omega
    have e1 : Hid (PlainValid.there (ctxOf m s x) 36 (j : Int) N = MemGlobal.f0At m.gls j) := by
      show _ = _
      unfold PlainValid.there ctxOf
      rw [if_neg (by omega), if_neg (by omega), if_neg (by omega), if_neg (by omega), if_pos rfl]
      simp [hlt]
    rw [e1.out]
    obtain ⟨_, _, _, hG, _, _⟩ := hR
    rcases hG with h3 | ⟨b3, o3, ha3, hc3⟩
    · omega
    · obtain ⟨y0, _⟩ := hc3 j hlt
      have hb3 : b3 < w.heap.size := World.block_lt_of_cell? w _ y0
      rw [ha3] at d5
      generalize MemGlobal.f0At m.gls j = R at *
      clear b f hi h0 h1 hc3 hlt e1
      generalize m.gls.length = N3 at *
      go_enter Tryz.func68, Tryz.ntmps68
      go_wp2_with fail
      go_quiet (fail)
      go_wp2_with fail
      go_ret
      exact ⟨rfl, ((Below.refl _ _).alloc (Nat.le_refl _) _).trans ⟨rfl, rfl, rfl, Nat.le_refl _, fun _ _ => rfl⟩⟩
  · have hlt' : ¬ (j : Int) < (m.gls.length : Int) := by omega
    have hd : decide ((j : Int) < (m.gls.length : Int)) = false := decide_eq_false hlt'
    have hd2 : decide (j < m.gls.length) = false := decide_eq_false hlt
    have e1 : Hid (PlainValid.there (ctxOf m s x) 36 (j : Int) N = false) := by
      show _ = _
      unfold PlainValid.there ctxOf
      rw [if_neg (by omega), if_neg (by omega), if_neg (by omega), if_neg (by omega), if_pos rfl]
      simp [hlt]
    rw [e1.out]
    clear b hR f hi h0 h1 e1
    generalize m.gls.length = N3 at *
    go_enter Tryz.func68, Tryz.ntmps68
    go_wp2_with fail
    go_quiet (fail)
    go_wp2_with fail
    go_ret
    exact ⟨rfl, ((Below.refl _ _).alloc (Nat.le_refl _) _).trans ⟨rfl, rfl, rfl, Nat.le_refl _, fun _ _ => rfl⟩⟩
set_option maxRecDepth 20000 in
set_option maxHeartbeats 8000000 in
theorem hasMem (B q g n cap : Nat) (w : World) (p : P) (m : M) (s x : Int) (h : Int) (bad : Bool) (st : List Fr) (o i b0 : Int) (E : SEnv B q g n cap w p m s x h bad st o i) (N : Nat) (ho : o = 40 ∨ o = 54 ∨ o = 63 ∨ o = 64) :
    Calls Tryz.prog 68 #[.pointer (some ⟨q, 0, none⟩), .agg #[.int .i64 o, .int .i64 i, .int .i64 b0]] w fun e w' => e = .returned (.bool (PlainValid.there (ctxOf m s x) o i N)) ∧ Below w.heap.size w w' := by
  obtain ⟨b, hR, f, h0, h1, hn, hi⟩ := E
  have hpg := f.pg
  have e1 : Hid (PlainValid.there (ctxOf m s x) o i N = decide (0 ≤ m.pages)) := by
    show _ = _
    unfold PlainValid.there ctxOf
    rw [if_neg (by omega), if_neg (by omega), if_neg (by omega), if_neg (by omega), if_neg (by omega), if_pos ho, Bool.eq_iff_iff]
    simp
    omega
  rw [e1.out]
  clear e1 hpg
  obtain ⟨d0, d1, d2, d3, d4, d5, d6, d7, d8⟩ := sfixed b
  have hq := b.lt
  clear b hR f hi h0 h1
  generalize m.pages = PG at *
  rcases ho with rfl | rfl | rfl | rfl
  all_goals
    go_enter Tryz.func68, Tryz.ntmps68
    go_wp2_with fail
    go_ret
    exact ⟨rfl, (Below.refl _ _).alloc (Nat.le_refl _) _⟩
set_option maxRecDepth 20000 in
set_option maxHeartbeats 8000000 in
theorem hasElse (B q g n cap : Nat) (w : World) (p : P) (m : M) (s x : Int) (h : Int) (bad : Bool) (st : List Fr) (o i b0 : Int) (E : SEnv B q g n cap w p m s x h bad st o i) (N : Nat) (ho : o ≠ 16 ∧ o ≠ 32 ∧ o ≠ 33 ∧ o ≠ 34 ∧ o ≠ 35 ∧ o ≠ 36 ∧ o ≠ 40 ∧ o ≠ 54 ∧ o ≠ 63 ∧ o ≠ 64) (ho2 : o ≠ 12 ∧ o ≠ 13) :
    Calls Tryz.prog 68 #[.pointer (some ⟨q, 0, none⟩), .agg #[.int .i64 o, .int .i64 i, .int .i64 b0]] w fun e w' => e = .returned (.bool (PlainValid.there (ctxOf m s x) o i N)) ∧ Below w.heap.size w w' := by
  obtain ⟨b, hR, f, h0, h1, hn, hi⟩ := E
  have e1 : Hid (PlainValid.there (ctxOf m s x) o i N = true) := by
    show _ = _
    unfold PlainValid.there ctxOf
    rw [if_neg (by omega), if_neg (by omega), if_neg (by omega), if_neg (by omega), if_neg (by omega), if_neg (by omega)]
  rw [e1.out]
  clear e1 b hR f hi h0 h1
  have n16 : (o == 16) = false := by simpa using (show o ≠ 16 by omega)
  have n32 : (o == 32) = false := by simpa using (show o ≠ 32 by omega)
  have n33 : (o == 33) = false := by simpa using (show o ≠ 33 by omega)
  have n34 : (o == 34) = false := by simpa using (show o ≠ 34 by omega)
  have n35 : (o == 35) = false := by simpa using (show o ≠ 35 by omega)
  have n36 : (o == 36) = false := by simpa using (show o ≠ 36 by omega)
  have n40 : (o == 40) = false := by simpa using (show o ≠ 40 by omega)
  have n54 : (o == 54) = false := by simpa using (show o ≠ 54 by omega)
  have n63 : (o == 63) = false := by simpa using (show o ≠ 63 by omega)
  have n64 : (o == 64) = false := by simpa using (show o ≠ 64 by omega)
  clear ho ho2
  go_enter Tryz.func68, Tryz.ntmps68
  go_wp2_with fail
  go_ret
  exact ⟨rfl, (Below.refl _ _).alloc (Nat.le_refl _) _⟩
theorem has (B q g n cap : Nat) (w : World) (p : P) (m : M) (s x : Int) (h : Int) (bad : Bool) (st : List Fr) (o i b0 : Int) (E : SEnv B q g n cap w p m s x h bad st o i) (N : Nat) (ho2 : o ≠ 12 ∧ o ≠ 13) :
    Calls Tryz.prog 68 #[.pointer (some ⟨q, 0, none⟩), .agg #[.int .i64 o, .int .i64 i, .int .i64 b0]] w fun e w' => e = .returned (.bool (PlainValid.there (ctxOf m s x) o i N)) ∧ Below w.heap.size w w' := by
  by_cases c2 : o = 16
  · exact hasCall B q g n cap w p m s x h bad st o i b0 E N c2
  by_cases c3 : o = 32 ∨ o = 33 ∨ o = 34
  · exact hasLoc B q g n cap w p m s x h bad st o i b0 E N c3
  by_cases c4 : o = 35
  · exact hasGlob B q g n cap w p m s x h bad st o i b0 E N c4
  by_cases c5 : o = 36
  · exact hasMut B q g n cap w p m s x h bad st o i b0 E N c5
  by_cases c6 : o = 40 ∨ o = 54 ∨ o = 63 ∨ o = 64
  · exact hasMem B q g n cap w p m s x h bad st o i b0 E N c6
  exact hasElse B q g n cap w p m s x h bad st o i b0 E N (by omega) ho2
set_option maxHeartbeats 4000000 in
theorem takes0 (w : World) (c : Ctx) (v0 v1 v2 v3 v4 v5 v6 v7 : Value) (o i b0 : Int) (ho : o = 1) :
    Calls Tryz.prog 69 #[.agg #[v0, v1, v2, v3, v4, v5, v6, v7], .agg #[.int .i64 o, .int .i64 i, .int .i64 b0]] w fun e w' => e = .returned (.tuple #[.int .i64 (effT c o i), .int .i64 (effP c o i)]) ∧ Below w.heap.size w w' := by
  have e1 : Hid (effT c o i = 0) := by rcases ho with rfl <;> rfl
  have e2 : Hid (effP c o i = 0) := by rcases ho with rfl <;> rfl
  rw [e1.out, e2.out]
  clear e1 e2
  rcases ho with rfl
  all_goals
    go_enter Tryz.func69, Tryz.ntmps69
    go_wp2_with fail
    go_ret2
    exact ⟨rfl, (((Below.refl _ _).alloc (Nat.le_refl _) _).alloc (by simp) _)⟩
set_option maxHeartbeats 4000000 in
theorem takes1 (w : World) (c : Ctx) (v0 v1 v2 v3 v4 v5 v6 v7 : Value) (o i b0 : Int) (ho : o = 26 ∨ o = 33 ∨ o = 36) :
    Calls Tryz.prog 69 #[.agg #[v0, v1, v2, v3, v4, v5, v6, v7], .agg #[.int .i64 o, .int .i64 i, .int .i64 b0]] w fun e w' => e = .returned (.tuple #[.int .i64 (effT c o i), .int .i64 (effP c o i)]) ∧ Below w.heap.size w w' := by
  have e1 : Hid (effT c o i = 1) := by rcases ho with rfl | rfl | rfl <;> rfl
  have e2 : Hid (effP c o i = 0) := by rcases ho with rfl | rfl | rfl <;> rfl
  rw [e1.out, e2.out]
  clear e1 e2
  rcases ho with rfl | rfl | rfl
  all_goals
    go_enter Tryz.func69, Tryz.ntmps69
    go_wp2_with fail
    go_ret2
    exact ⟨rfl, (((Below.refl _ _).alloc (Nat.le_refl _) _).alloc (by simp) _)⟩
set_option maxHeartbeats 4000000 in
theorem takes2 (w : World) (c : Ctx) (v0 v1 v2 v3 v4 v5 v6 v7 : Value) (o i b0 : Int) (ho : o = 27) :
    Calls Tryz.prog 69 #[.agg #[v0, v1, v2, v3, v4, v5, v6, v7], .agg #[.int .i64 o, .int .i64 i, .int .i64 b0]] w fun e w' => e = .returned (.tuple #[.int .i64 (effT c o i), .int .i64 (effP c o i)]) ∧ Below w.heap.size w w' := by
  have e1 : Hid (effT c o i = 3) := by rcases ho with rfl <;> rfl
  have e2 : Hid (effP c o i = 1) := by rcases ho with rfl <;> rfl
  rw [e1.out, e2.out]
  clear e1 e2
  rcases ho with rfl
  all_goals
    go_enter Tryz.func69, Tryz.ntmps69
    go_wp2_with fail
    go_ret2
    exact ⟨rfl, (((Below.refl _ _).alloc (Nat.le_refl _) _).alloc (by simp) _)⟩
set_option maxHeartbeats 4000000 in
theorem takes3 (w : World) (c : Ctx) (v0 v1 v2 v3 v4 v5 v6 v7 : Value) (o i b0 : Int) (ho : o = 32 ∨ o = 35 ∨ o = 63 ∨ o = 65) :
    Calls Tryz.prog 69 #[.agg #[v0, v1, v2, v3, v4, v5, v6, v7], .agg #[.int .i64 o, .int .i64 i, .int .i64 b0]] w fun e w' => e = .returned (.tuple #[.int .i64 (effT c o i), .int .i64 (effP c o i)]) ∧ Below w.heap.size w w' := by
  have e1 : Hid (effT c o i = 0) := by rcases ho with rfl | rfl | rfl | rfl <;> rfl
  have e2 : Hid (effP c o i = 1) := by rcases ho with rfl | rfl | rfl | rfl <;> rfl
  rw [e1.out, e2.out]
  clear e1 e2
  rcases ho with rfl | rfl | rfl | rfl
  all_goals
    go_enter Tryz.func69, Tryz.ntmps69
    go_wp2_with fail
    go_ret2
    exact ⟨rfl, (((Below.refl _ _).alloc (Nat.le_refl _) _).alloc (by simp) _)⟩
set_option maxHeartbeats 4000000 in
theorem takes4 (w : World) (c : Ctx) (v0 v1 v2 v3 v4 v5 v6 v7 : Value) (o i b0 : Int) (ho : o = 34 ∨ o = 40 ∨ o = 64 ∨ o = 69) :
    Calls Tryz.prog 69 #[.agg #[v0, v1, v2, v3, v4, v5, v6, v7], .agg #[.int .i64 o, .int .i64 i, .int .i64 b0]] w fun e w' => e = .returned (.tuple #[.int .i64 (effT c o i), .int .i64 (effP c o i)]) ∧ Below w.heap.size w w' := by
  have e1 : Hid (effT c o i = 1) := by rcases ho with rfl | rfl | rfl | rfl <;> rfl
  have e2 : Hid (effP c o i = 1) := by rcases ho with rfl | rfl | rfl | rfl <;> rfl
  rw [e1.out, e2.out]
  clear e1 e2
  rcases ho with rfl | rfl | rfl | rfl
  all_goals
    go_enter Tryz.func69, Tryz.ntmps69
    go_wp2_with fail
    go_ret2
    exact ⟨rfl, (((Below.refl _ _).alloc (Nat.le_refl _) _).alloc (by simp) _)⟩
set_option maxHeartbeats 4000000 in
theorem takes5 (w : World) (c : Ctx) (v0 v1 v2 v3 v4 v5 v6 v7 : Value) (o i b0 : Int) (ho : o = 54) :
    Calls Tryz.prog 69 #[.agg #[v0, v1, v2, v3, v4, v5, v6, v7], .agg #[.int .i64 o, .int .i64 i, .int .i64 b0]] w fun e w' => e = .returned (.tuple #[.int .i64 (effT c o i), .int .i64 (effP c o i)]) ∧ Below w.heap.size w w' := by
  have e1 : Hid (effT c o i = 2) := by rcases ho with rfl <;> rfl
  have e2 : Hid (effP c o i = 0) := by rcases ho with rfl <;> rfl
  rw [e1.out, e2.out]
  clear e1 e2
  rcases ho with rfl
  all_goals
    go_enter Tryz.func69, Tryz.ntmps69
    go_wp2_with fail
    go_ret2
    exact ⟨rfl, (((Below.refl _ _).alloc (Nat.le_refl _) _).alloc (by simp) _)⟩
set_option maxRecDepth 20000 in
set_option maxHeartbeats 4000000 in
theorem takesElse (w : World) (c : Ctx) (v0 v1 v2 v3 v4 v5 v6 v7 : Value) (o i b0 : Int) (ho : o ≠ 1 ∧ o ≠ 16 ∧ o ≠ 26 ∧ o ≠ 33 ∧ o ≠ 36 ∧ o ≠ 27 ∧ o ≠ 32 ∧ o ≠ 35 ∧ o ≠ 63 ∧ o ≠ 65 ∧ o ≠ 34 ∧ o ≠ 40 ∧ o ≠ 64 ∧ o ≠ 69 ∧ o ≠ 54) (ho2 : o ≠ 2 ∧ o ≠ 3 ∧ o ≠ 4) :
    Calls Tryz.prog 69 #[.agg #[v0, v1, v2, v3, v4, v5, v6, v7], .agg #[.int .i64 o, .int .i64 i, .int .i64 b0]] w fun e w' => e = .returned (.tuple #[.int .i64 (effT c o i), .int .i64 (effP c o i)]) ∧ Below w.heap.size w w' := by
  have e1 : Hid (effT c o i = if 103 ≤ o ∧ o ≤ 105 then 1 else 2) := by
    show _ = _
    unfold effT
    rw [if_neg (by omega), if_neg (by omega), if_neg (by omega), if_neg (by omega), if_neg (by omega), if_neg (by omega), if_neg (by omega)]
  have e2 : Hid (effP c o i = 1) := by
    show _ = _
    unfold effP
    rw [if_neg (by omega), if_neg (by omega), if_neg (by omega), if_neg (by omega), if_neg (by omega), if_neg (by omega)]
    split <;> rfl
  rw [e1.out, e2.out]
  clear e1 e2
  have n1 : (o == 1) = false := by simpa using (show o ≠ 1 by omega)
  have n16 : (o == 16) = false := by simpa using (show o ≠ 16 by omega)
  have n26 : (o == 26) = false := by simpa using (show o ≠ 26 by omega)
  have n33 : (o == 33) = false := by simpa using (show o ≠ 33 by omega)
  have n36 : (o == 36) = false := by simpa using (show o ≠ 36 by omega)
  have n27 : (o == 27) = false := by simpa using (show o ≠ 27 by omega)
  have n32 : (o == 32) = false := by simpa using (show o ≠ 32 by omega)
  have n35 : (o == 35) = false := by simpa using (show o ≠ 35 by omega)
  have n63 : (o == 63) = false := by simpa using (show o ≠ 63 by omega)
  have n65 : (o == 65) = false := by simpa using (show o ≠ 65 by omega)
  have n34 : (o == 34) = false := by simpa using (show o ≠ 34 by omega)
  have n40 : (o == 40) = false := by simpa using (show o ≠ 40 by omega)
  have n64 : (o == 64) = false := by simpa using (show o ≠ 64 by omega)
  have n69 : (o == 69) = false := by simpa using (show o ≠ 69 by omega)
  have n54 : (o == 54) = false := by simpa using (show o ≠ 54 by omega)
  clear ho ho2
  by_cases hb : 103 ≤ o
  · by_cases hc : o ≤ 105
    · rw [if_pos ⟨hb, hc⟩]
      go_enter Tryz.func69, Tryz.ntmps69
      go_wp2_with fail
      go_ret2
      exact ⟨rfl, (((Below.refl _ _).alloc (Nat.le_refl _) _).alloc (by simp) _)⟩
    · rw [if_neg (fun z => hc z.2)]
      have hc' : decide (o ≤ 105) = false := decide_eq_false hc
      go_enter Tryz.func69, Tryz.ntmps69
      go_wp2_with fail
      go_ret2
      exact ⟨rfl, (((Below.refl _ _).alloc (Nat.le_refl _) _).alloc (by simp) _)⟩
  · rw [if_neg (fun z => hb z.1)]
    have hb' : decide (103 ≤ o) = false := decide_eq_false hb
    go_enter Tryz.func69, Tryz.ntmps69
    go_wp2_with fail
    go_ret2
    exact ⟨rfl, (((Below.refl _ _).alloc (Nat.le_refl _) _).alloc (by simp) _)⟩
set_option maxRecDepth 20000 in
set_option maxHeartbeats 4000000 in
theorem takesCall (w : World) (p : P) (m : M) (s x : Int) (j : Nat) (b0 : Int) (hR : Rd w p m) (f : Facts m) (hj : j < m.imps.length + m.fns.length) :
    Calls Tryz.prog 69 #[.agg #[.slice p.a0 m.sigs.length p.c0, .slice p.a1 m.imps.length p.c1, .slice p.a2 m.fns.length p.c2, .int .i64 m.pages, .int .i64 m.most, .slice p.a3 m.gls.length p.c3, .slice p.a4 m.exs.length p.c4, .slice p.a5 m.dat.length p.c5], .agg #[.int .i64 16, .int .i64 (j : Int), .int .i64 b0]] w fun e w' => e = .returned (.tuple #[.int .i64 (effT (ctxOf m s x) 16 (j : Int)), .int .i64 (effP (ctxOf m s x) 16 (j : Int))]) ∧ Below w.heap.size w w' := by
  have e1 : Hid (effT (ctxOf m s x) 16 (j : Int) = MemSig.f0At m.sigs (sgI m j).toNat) := rfl
  have e2 : Hid (effP (ctxOf m s x) 16 (j : Int) = MemSig.f1At m.sigs (sgI m j).toNat) := rfl
  rw [e1.out, e2.out]
  clear e1 e2
  have kS : Hid (∀ u : World, Below w.heap.size w u → Calls Tryz.prog 112 #[.agg #[.slice p.a0 m.sigs.length p.c0, .slice p.a1 m.imps.length p.c1, .slice p.a2 m.fns.length p.c2, .int .i64 m.pages, .int .i64 m.most, .slice p.a3 m.gls.length p.c3, .slice p.a4 m.exs.length p.c4, .slice p.a5 m.dat.length p.c5], .int .i64 (j : Int)] u fun e w' => e = .returned (.tuple #[.agg #[.int .i64 (MemSig.f0At m.sigs (sgI m j).toNat), .int .i64 (MemSig.f1At m.sigs (sgI m j).toNat)], .bool true]) ∧ Below u.heap.size u w') := fun u hu => sigYes p m u j (hR.later hu) f hj
  generalize MemSig.f0At m.sigs (sgI m j).toNat = X0 at *
  generalize MemSig.f1At m.sigs (sgI m j).toNat = X1 at *
  clear hR f hj
  generalize m.sigs.length = N0 at *
  generalize m.imps.length = N1 at *
  generalize m.fns.length = N2 at *
  generalize m.gls.length = N3 at *
  generalize m.exs.length = N4 at *
  generalize m.dat.length = N5 at *
  go_enter Tryz.func69, Tryz.ntmps69
  go_wp2_with (go_at_call 112; refine (kS.out _ (((Below.refl _ _).alloc (Nat.le_refl _) _).alloc (by simp) _)).mono ?_; rintro e w1 ⟨rfl, q1⟩)
  go_quiet (fail)
  go_wp2_with fail
  go_ret2
  have x1 := ((((Below.refl _ _).alloc (Nat.le_refl _) _).alloc (by simp) _) : Below w.heap.size w ((w.alloc (.cells #[.slice p.a0 N0 p.c0, .slice p.a1 N1 p.c1, .slice p.a2 N2 p.c2, .int .i64 m.pages, .int .i64 m.most, .slice p.a3 N3 p.c3, .slice p.a4 N4 p.c4, .slice p.a5 N5 p.c5] 39)).alloc (.cells #[.int .i64 16, .int .i64 (j : Int), .int .i64 b0] 62))).trans (q1.mono (by simp; omega))
  exact ⟨rfl, (x1.alloc x1.size _).trans ⟨rfl, rfl, rfl, Nat.le_refl _, fun _ _ => rfl⟩⟩
theorem takesC (w : World) (p : P) (m : M) (s x : Int) (o i b0 : Int) (N : Nat) (hR : Rd w p m) (f : Facts m) (hi : InsF o i) (ht : PlainValid.there (ctxOf m s x) o i N = true) (ho2 : o ≠ 2 ∧ o ≠ 3 ∧ o ≠ 4) :
    Calls Tryz.prog 69 #[.agg #[.slice p.a0 m.sigs.length p.c0, .slice p.a1 m.imps.length p.c1, .slice p.a2 m.fns.length p.c2, .int .i64 m.pages, .int .i64 m.most, .slice p.a3 m.gls.length p.c3, .slice p.a4 m.exs.length p.c4, .slice p.a5 m.dat.length p.c5], .agg #[.int .i64 o, .int .i64 i, .int .i64 b0]] w fun e w' => e = .returned (.tuple #[.int .i64 (effT (ctxOf m s x) o i), .int .i64 (effP (ctxOf m s x) o i)]) ∧ Below w.heap.size w w' := by
  by_cases c0 : o = 1
  · exact takes0 w _ _ _ _ _ _ _ _ _ o i b0 c0
  by_cases c1 : o = 26 ∨ o = 33 ∨ o = 36
  · exact takes1 w _ _ _ _ _ _ _ _ _ o i b0 c1
  by_cases c2 : o = 27
  · exact takes2 w _ _ _ _ _ _ _ _ _ o i b0 c2
  by_cases c3 : o = 32 ∨ o = 35 ∨ o = 63 ∨ o = 65
  · exact takes3 w _ _ _ _ _ _ _ _ _ o i b0 c3
  by_cases c4 : o = 34 ∨ o = 40 ∨ o = 64 ∨ o = 69
  · exact takes4 w _ _ _ _ _ _ _ _ _ o i b0 c4
  by_cases c5 : o = 54
  · exact takes5 w _ _ _ _ _ _ _ _ _ o i b0 c5
  by_cases c6 : o = 16
  · subst c6
    obtain ⟨i0, i1⟩ := hi.idx (by omega)
    obtain ⟨j, rfl⟩ : ∃ j : Nat, i = j := ⟨i.toNat, by omega⟩
    have := of_decide_eq_true (show decide ((j : Int) < (((ctxOf m s x).nf : Nat) : Int)) = true from ht)
    simp only [ctxOf] at this
    exact takesCall w p m s x j b0 hR f (by omega)
  exact takesElse w _ _ _ _ _ _ _ _ _ o i b0 (by omega) ho2
end Go.Proofs.YtajlkdidjelpeaaGreatDoor.SHas
