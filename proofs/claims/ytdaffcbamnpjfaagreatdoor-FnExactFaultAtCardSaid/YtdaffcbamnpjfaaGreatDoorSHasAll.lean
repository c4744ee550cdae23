/-
  The specification on what is there and on what is taken and put. (Written by my spechas.py.)
  What opens, closes and leaves, as the specification goes through it. (Written by my specflow.py.)
-/
import Derived.Test.YtdaffcbamnpjfaaGreatDoorSWalksAll
import Derived.Test.YtdaffcbamnpjfaaGreatDoorValidAll
namespace Go.Proofs.YtdaffcbamnpjfaaGreatDoor.SHas
open Go.RowKit PlainOps NameCalls PlainNum NumCalls InsCalls InsImpl PlainShape InsMem FormCalls ModMem FormImpl PlainValid ValidCtx Piles Walks SPiles SWalks SIns

structure SEnv (B q g n cap : Nat) (w : World) (p : P) (m : M) (s x : Int) (h : Int) (bad : Bool) (st : List Fr) (o i : Int) : Prop where
  b : SV B w q (sF p m (ctxOf m s x).loc) h (.slice (some ⟨g, 0, none⟩) (n + 1) cap) bad st
  hR : Rd w p m
  f : Facts m
  h0 : 0 ≤ s
  h1 : s < m.sigs.length
  hn : n ≤ 100000
  hi : InsF o i
theorem senvLater {B q g n cap : Nat} {w u : World} {p : P} {m : M} {s x : Int} {h : Int} {bad : Bool} {st : List Fr} {o i : Int} (E : SEnv B q g n cap w p m s x h bad st o i) (hb : Below w.heap.size w u) : SEnv B q g n cap u p m s x h bad st o i :=
  ⟨E.b.later hb, E.hR.later hb, E.f, E.h0, E.h1, E.hn, E.hi⟩
set_option maxRecDepth 20000 in
set_option maxHeartbeats 8000000 in
theorem hasCall (B q g n cap : Nat) (w : World) (p : P) (m : M) (s x : Int) (h : Int) (bad : Bool) (st : List Fr) (o i b0 : Int) (E : SEnv B q g n cap w p m s x h bad st o i) (N : Nat) (ho : o = 16) :
    Calls Tryz.prog 68 #[.pointer (some ⟨q, 0, none⟩), .agg #[.int .i64 o, .int .i64 i, .int .i64 b0]] w fun e w' => e = .returned (.bool (PlainValid.there (ctxOf m s x) o i N)) ∧ Below w.heap.size w w' := by
  obtain ⟨b, hR, f, h0, h1, hn, hi⟩ := E
  subst ho
  obtain ⟨hi0, hi1⟩ := hi.idx (by omega)
  obtain ⟨j, rfl⟩ : ∃ j : Nat, i = j := ⟨i.toNat, by omega⟩
  have hco := f.co
  have e1 : Hid (PlainValid.there (ctxOf m s x) 16 (j : Int) N = decide (j < m.imps.length + m.fns.length)) := by
    show _ = _
    unfold PlainValid.there ctxOf
    rw [if_neg (by omega), if_pos rfl]
    simp
    omega
  rw [e1.out]
  clear e1
  have kS : Hid (∀ u : World, Below w.heap.size w u → Calls Tryz.prog 112 #[.agg #[.slice p.a0 m.sigs.length p.c0, .slice p.a1 m.imps.length p.c1, .slice p.a2 m.fns.length p.c2, .int .i64 m.pages, .int .i64 m.most, .slice p.a3 m.gls.length p.c3, .slice p.a4 m.exs.length p.c4, .slice p.a5 m.dat.length p.c5], .int .i64 (j : Int)] u fun e w' => ∃ X0 X1 : Int, e = .returned (.tuple #[.agg #[.int .i64 X0, .int .i64 X1], .bool (decide (j < m.imps.length + m.fns.length))]) ∧ Below u.heap.size u w') := fun u hu => by
    by_cases hj : j < m.imps.length + m.fns.length
    · rw [decide_eq_true hj]
      exact (sigYes p m u j (hR.later hu) f hj).mono fun _ _ ⟨z1, z2⟩ => ⟨_, _, z1, z2⟩
    · rw [decide_eq_false hj]
      exact (sigNo p m u (j : Int) (by omega) (.inr (by omega))).mono fun _ _ ⟨z1, z2⟩ => ⟨_, _, z1, z2⟩
  have hcs : Hid (∀ u : World, Below (w.alloc (.cells #[.int .i64 16, .int .i64 (j : Int), .int .i64 b0] 62)).heap.size (w.alloc (.cells #[.int .i64 16, .int .i64 (j : Int), .int .i64 b0] 62)) u → u.cell? ⟨q, 0, none⟩ = some (.slice p.a0 m.sigs.length p.c0) ∧ u.cell? ⟨q, 1, none⟩ = some (.slice p.a1 m.imps.length p.c1) ∧ u.cell? ⟨q, 2, none⟩ = some (.slice p.a2 m.fns.length p.c2) ∧ u.cell? ⟨q, 3, none⟩ = some (.int .i64 m.pages) ∧ u.cell? ⟨q, 4, none⟩ = some (.int .i64 m.most) ∧ u.cell? ⟨q, 5, none⟩ = some (.slice p.a3 m.gls.length p.c3) ∧ u.cell? ⟨q, 6, none⟩ = some (.slice p.a4 m.exs.length p.c4) ∧ u.cell? ⟨q, 7, none⟩ = some (.slice p.a5 m.dat.length p.c5) ∧ u.cell? ⟨q, 8, none⟩ = some (.int .i64 (ctxOf m s x).loc) ∧ u.cell? ⟨w.heap.size, 1, none⟩ = some (.int .i64 (j : Int))) := fun u hu => by
    obtain ⟨a0, a1, a2, a3, a4, a5, a6, a7, a8⟩ := sfixed ((b.alloc _).later hu)
    refine ⟨a0, a1, a2, a3, a4, a5, a6, a7, a8, ?_⟩
    rw [hu.cell (by simp)]
    simp
  obtain ⟨d0, d1, d2, d3, d4, d5, d6, d7, d8⟩ := sfixed b
  have hq := b.lt
  have BA : Hid (Below w.heap.size w ((w.alloc (.cells #[.int .i64 16, .int .i64 (j : Int), .int .i64 b0] 62)).drew)) := ((Below.refl _ _).alloc (Nat.le_refl _) _).drew
  have BB : Hid (Below w.heap.size w (((w.alloc (.cells #[.int .i64 16, .int .i64 (j : Int), .int .i64 b0] 62)).alloc (.cells #[.int .i64 0, .int .i64 0] 119)).drew)) := (((Below.refl _ _).alloc (Nat.le_refl _) _).alloc (by simp) _).drew
  have BC : Hid (Below (w.alloc (.cells #[.int .i64 16, .int .i64 (j : Int), .int .i64 b0] 62)).heap.size (w.alloc (.cells #[.int .i64 16, .int .i64 (j : Int), .int .i64 b0] 62)) (((w.alloc (.cells #[.int .i64 16, .int .i64 (j : Int), .int .i64 b0] 62)).alloc (.cells #[.int .i64 0, .int .i64 0] 119)).drew)) := ((Below.refl _ _).alloc (Nat.le_refl _) _).drew
  have rr : Hid (∀ u : World, Below ((w.alloc (.cells #[.int .i64 16, .int .i64 (j : Int), .int .i64 b0] 62)).alloc (.cells #[.int .i64 0, .int .i64 0] 119)).heap.size ((w.alloc (.cells #[.int .i64 16, .int .i64 (j : Int), .int .i64 b0] 62)).alloc (.cells #[.int .i64 0, .int .i64 0] 119)) u → u.rowIs (w.heap.size + 1) 119 2 (fun _ => .int .i64 0)) := fun u hu => by
    have r := World.rowIs_alloc (w.alloc (.cells #[.int .i64 16, .int .i64 (j : Int), .int .i64 b0] 62)) #[.int .i64 0, .int .i64 0] 119 (fun _ => .int .i64 0) (fun i hi => by
      match i, hi with
      | 0, _ => rfl
      | 1, _ => rfl)
    simp only [World.size_alloc] at r
    exact r.of_block (hu.block _ r.lt)
  clear b hR f hi h0 h1 hi0 hi1 hco
  generalize decide (j < m.imps.length + m.fns.length) = R at *
  generalize m.sigs.length = N0 at *
  generalize m.imps.length = N1 at *
  generalize m.fns.length = N2 at *
  generalize m.gls.length = N3 at *
  generalize m.exs.length = N4 at *
  generalize m.dat.length = N5 at *
  go_enter Tryz.func68, Tryz.ntmps68
  go_wp2_with fail
  go_region_with (go_at_call 112; first | (refine (kS.out _ BA.out).mono ?_; rintro e w1 ⟨X0, X1, rfl, q1⟩; have x1 : Hid (Below w.heap.size w w1) := BA.out.trans (q1.mono (by simp)); obtain ⟨_, _, _, _, _, _, _, _, _, _⟩ := hcs.out _ (((Below.refl _ _).drew).trans q1)) | (refine (kS.out _ BB.out).mono ?_; rintro e w1 ⟨X0, X1, rfl, q1⟩; have x1 : Hid (Below w.heap.size w w1) := BB.out.trans (q1.mono (by simp; omega)); have r1 := rr.out _ (((Below.refl _ _).drew).trans q1); have y0 := r1.cell (i := 0) (by omega); have y1 := r1.cell (i := 1) (by omega); have y2 := r1.frozen 0; have y3 := r1.frozen 1; obtain ⟨_, _, _, _, _, _, _, _, _, _⟩ := hcs.out _ (BC.out.trans (q1.mono (by simp)))))
  all_goals
    go_wp2_with fail
    go_ret
    refine ⟨rfl, ?_⟩
    first
      | exact x1.out.alloc x1.out.size _
      | exact (x1.out.alloc x1.out.size _).trans ⟨rfl, rfl, rfl, Nat.le_refl _, fun _ _ => rfl⟩
      | exact ((x1.out.alloc x1.out.size _).setCell (p := ⟨w1.heap.size, 0, none⟩) x1.out.size _).setCell (p := ⟨w1.heap.size, 1, none⟩) x1.out.size _
      | exact (x1.out.setCell (p := ⟨w.heap.size + 1, 0, none⟩) (by simp) _).setCell (p := ⟨w.heap.size + 1, 1, none⟩) (by simp) _
set_option maxRecDepth 20000 in
set_option maxHeartbeats 8000000 in
theorem hasLoc (B q g n cap : Nat) (w : World) (p : P) (m : M) (s x : Int) (h : Int) (bad : Bool) (st : List Fr) (o i b0 : Int) (E : SEnv B q g n cap w p m s x h bad st o i) (N : Nat) (ho : o = 32 ∨ o = 33 ∨ o = 34) :
    Calls Tryz.prog 68 #[.pointer (some ⟨q, 0, none⟩), .agg #[.int .i64 o, .int .i64 i, .int .i64 b0]] w fun e w' => e = .returned (.bool (PlainValid.there (ctxOf m s x) o i N)) ∧ Below w.heap.size w w' := by
  obtain ⟨b, hR, f, h0, h1, hn, hi⟩ := E
  have e1 : Hid (PlainValid.there (ctxOf m s x) o i N = decide (i < (ctxOf m s x).loc)) := by
    show _ = _
    unfold PlainValid.there
    rw [if_neg (by omega), if_neg (by omega), if_pos ho]
  rw [e1.out]
  clear e1
  obtain ⟨d0, d1, d2, d3, d4, d5, d6, d7, d8⟩ := sfixed b
  have hq := b.lt
  clear b hR f hi h0 h1
  generalize (ctxOf m s x).loc = X0 at *
  rcases ho with rfl | rfl | rfl
  all_goals
    go_enter Tryz.func68, Tryz.ntmps68
    go_wp2_with fail
    go_quiet (fail)
    go_wp2_with fail
    go_ret
    exact ⟨rfl, ((Below.refl _ _).alloc (Nat.le_refl _) _).trans ⟨rfl, rfl, rfl, Nat.le_refl _, fun _ _ => rfl⟩⟩
set_option maxRecDepth 20000 in
set_option maxHeartbeats 8000000 in
theorem hasGlob (B q g n cap : Nat) (w : World) (p : P) (m : M) (s x : Int) (h : Int) (bad : Bool) (st : List Fr) (o i b0 : Int) (E : SEnv B q g n cap w p m s x h bad st o i) (N : Nat) (ho : o = 35) :
    Calls Tryz.prog 68 #[.pointer (some ⟨q, 0, none⟩), .agg #[.int .i64 o, .int .i64 i, .int .i64 b0]] w fun e w' => e = .returned (.bool (PlainValid.there (ctxOf m s x) o i N)) ∧ Below w.heap.size w w' := by
  obtain ⟨b, hR, f, h0, h1, hn, hi⟩ := E
  subst ho
  have e1 : Hid (PlainValid.there (ctxOf m s x) 35 i N = decide (i < (m.gls.length : Int))) := by
    show _ = _
    unfold PlainValid.there ctxOf
    rw [if_neg (by omega), if_neg (by omega), if_neg (by omega), if_pos rfl]
  rw [e1.out]
  clear e1
  obtain ⟨d0, d1, d2, d3, d4, d5, d6, d7, d8⟩ := sfixed b
  have hq := b.lt
  clear b hR f hi h0 h1
  generalize m.gls.length = N3 at *
  go_enter Tryz.func68, Tryz.ntmps68
  go_wp2_with fail
  go_quiet (fail)
  go_wp2_with fail
  go_ret
  exact ⟨rfl, ((Below.refl _ _).alloc (Nat.le_refl _) _).trans ⟨rfl, rfl, rfl, Nat.le_refl _, fun _ _ => rfl⟩⟩
set_option maxRecDepth 20000 in
set_option maxHeartbeats 8000000 in
theorem hasMut (B q g n cap : Nat) (w : World) (p : P) (m : M) (s x : Int) (h : Int) (bad : Bool) (st : List Fr) (o i b0 : Int) (E : SEnv B q g n cap w p m s x h bad st o i) (N : Nat) (ho : o = 36) :
    Calls Tryz.prog 68 #[.pointer (some ⟨q, 0, none⟩), .agg #[.int .i64 o, .int .i64 i, .int .i64 b0]] w fun e w' => e = .returned (.bool (PlainValid.there (ctxOf m s x) o i N)) ∧ Below w.heap.size w w' := by
  obtain ⟨b, hR, f, h0, h1, hn, hi⟩ := E
  subst ho
  obtain ⟨hi0, hi1⟩ := hi.idx (by omega)
  obtain ⟨j, rfl⟩ : ∃ j : Nat, i = j := ⟨i.toNat, by omega⟩
  obtain ⟨d0, d1, d2, d3, d4, d5, d6, d7, d8⟩ := sfixed b
  have hq := b.lt
  by_cases hlt : j < m.gls.length
  · have hlt' : (j : Int) < (m.gls.length : Int) := by omega
    have e1 : Hid (PlainValid.there (ctxOf m s x) 36 (j : Int) N = MemGlobal.f0At m.gls j) := by
      show _ = _
      unfold PlainValid.there ctxOf
      rw [if_neg (by omega), if_neg (by omega), if_neg (by omega), if_neg (by omega), if_pos rfl]
      simp [hlt]
    rw [e1.out]
    obtain ⟨_, _, _, hG, _, _⟩ := hR
    rcases hG with h3 | ⟨b3, o3, ha3, hc3⟩
    · omega
    · obtain ⟨y0, _⟩ := hc3 j hlt
      have hb3 : b3 < w.heap.size := World.block_lt_of_cell? w _ y0
      rw [ha3] at d5
      generalize MemGlobal.f0At m.gls j = R at *
      clear b f hi h0 h1 hc3 hlt e1
      generalize m.gls.length = N3 at *
      go_enter Tryz.func68, Tryz.ntmps68
      go_wp2_with fail
      go_quiet (fail)
      go_wp2_with fail
      go_ret
      exact ⟨rfl, ((Below.refl _ _).alloc (Nat.le_refl _) _).trans ⟨rfl, rfl, rfl, Nat.le_refl _, fun _ _ => rfl⟩⟩
  · have hlt' : ¬ (j : Int) < (m.gls.length : Int) := by omega
    have hd : decide ((j : Int) < (m.gls.length : Int)) = false := decide_eq_false hlt'
    have hd2 : decide (j < m.gls.length) = false := decide_eq_false hlt
    have e1 : Hid (PlainValid.there (ctxOf m s x) 36 (j : Int) N = false) := by
      show _ = _
      unfold PlainValid.there ctxOf
      rw [if_neg (by omega), if_neg (by omega), if_neg (by omega), if_neg (by omega), if_pos rfl]
      simp [hlt]
    rw [e1.out]
    clear b hR f hi h0 h1 e1
    generalize m.gls.length = N3 at *
    go_enter Tryz.func68, Tryz.ntmps68
    go_wp2_with fail
    go_quiet (fail)
    go_wp2_with fail
    go_ret
    exact ⟨rfl, ((Below.refl _ _).alloc (Nat.le_refl _) _).trans ⟨rfl, rfl, rfl, Nat.le_refl _, fun _ _ => rfl⟩⟩
set_option maxRecDepth 20000 in
set_option maxHeartbeats 8000000 in
theorem hasMem (B q g n cap : Nat) (w : World) (p : P) (m : M) (s x : Int) (h : Int) (bad : Bool) (st : List Fr) (o i b0 : Int) (E : SEnv B q g n cap w p m s x h bad st o i) (N : Nat) (ho : o = 40 ∨ o = 54 ∨ o = 63 ∨ o = 64) :
    Calls Tryz.prog 68 #[.pointer (some ⟨q, 0, none⟩), .agg #[.int .i64 o, .int .i64 i, .int .i64 b0]] w fun e w' => e = .returned (.bool (PlainValid.there (ctxOf m s x) o i N)) ∧ Below w.heap.size w w' := by
  obtain ⟨b, hR, f, h0, h1, hn, hi⟩ := E
  have hpg := f.pg
  have e1 : Hid (PlainValid.there (ctxOf m s x) o i N = decide (0 ≤ m.pages)) := by
    show _ = _
    unfold PlainValid.there ctxOf
    rw [if_neg (by omega), if_neg (by omega), if_neg (by omega), if_neg (by omega), if_neg (by omega), if_pos ho, Bool.eq_iff_iff]
    simp
    omega
  rw [e1.out]
  clear e1 hpg
  obtain ⟨d0, d1, d2, d3, d4, d5, d6, d7, d8⟩ := sfixed b
  have hq := b.lt
  clear b hR f hi h0 h1
  generalize m.pages = PG at *
  rcases ho with rfl | rfl | rfl | rfl
  all_goals
    go_enter Tryz.func68, Tryz.ntmps68
    go_wp2_with fail
    go_ret
    exact ⟨rfl, (Below.refl _ _).alloc (Nat.le_refl _) _⟩
set_option maxRecDepth 20000 in
set_option maxHeartbeats 8000000 in
theorem hasElse (B q g n cap : Nat) (w : World) (p : P) (m : M) (s x : Int) (h : Int) (bad : Bool) (st : List Fr) (o i b0 : Int) (E : SEnv B q g n cap w p m s x h bad st o i) (N : Nat) (ho : o ≠ 16 ∧ o ≠ 32 ∧ o ≠ 33 ∧ o ≠ 34 ∧ o ≠ 35 ∧ o ≠ 36 ∧ o ≠ 40 ∧ o ≠ 54 ∧ o ≠ 63 ∧ o ≠ 64) (ho2 : o ≠ 12 ∧ o ≠ 13) :
    Calls Tryz.prog 68 #[.pointer (some ⟨q, 0, none⟩), .agg #[.int .i64 o, .int .i64 i, .int .i64 b0]] w fun e w' => e = .returned (.bool (PlainValid.there (ctxOf m s x) o i N)) ∧ Below w.heap.size w w' := by
  obtain ⟨b, hR, f, h0, h1, hn, hi⟩ := E
  have e1 : Hid (PlainValid.there (ctxOf m s x) o i N = true) := by
    show _ = _
    unfold PlainValid.there ctxOf
    rw [if_neg (by omega), if_neg (by omega), if_neg (by omega), if_neg (by omega), if_neg (by omega), if_neg (by omega)]
  rw [e1.out]
  clear e1 b hR f hi h0 h1
  have n16 : (o == 16) = false := by simpa using (show o ≠ 16 by omega)
  have n32 : (o == 32) = false := by simpa using (show o ≠ 32 by omega)
  have n33 : (o == 33) = false := by simpa using (show o ≠ 33 by omega)
  have n34 : (o == 34) = false := by simpa using (show o ≠ 34 by omega)
  have n35 : (o == 35) = false := by simpa using (show o ≠ 35 by omega)
  have n36 : (o == 36) = false := by simpa using (show o ≠ 36 by omega)
  have n40 : (o == 40) = false := by simpa using (show o ≠ 40 by omega)
  have n54 : (o == 54) = false := by simpa using (show o ≠ 54 by omega)
  have n63 : (o == 63) = false := by simpa using (show o ≠ 63 by omega)
  have n64 : (o == 64) = false := by simpa using (show o ≠ 64 by omega)
  clear ho ho2
  go_enter Tryz.func68, Tryz.ntmps68
  go_wp2_with fail
  go_ret
  exact ⟨rfl, (Below.refl _ _).alloc (Nat.le_refl _) _⟩
theorem has (B q g n cap : Nat) (w : World) (p : P) (m : M) (s x : Int) (h : Int) (bad : Bool) (st : List Fr) (o i b0 : Int) (E : SEnv B q g n cap w p m s x h bad st o i) (N : Nat) (ho2 : o ≠ 12 ∧ o ≠ 13) :
    Calls Tryz.prog 68 #[.pointer (some ⟨q, 0, none⟩), .agg #[.int .i64 o, .int .i64 i, .int .i64 b0]] w fun e w' => e = .returned (.bool (PlainValid.there (ctxOf m s x) o i N)) ∧ Below w.heap.size w w' := by
  by_cases c2 : o = 16
  · exact hasCall B q g n cap w p m s x h bad st o i b0 E N c2
  by_cases c3 : o = 32 ∨ o = 33 ∨ o = 34
  · exact hasLoc B q g n cap w p m s x h bad st o i b0 E N c3
  by_cases c4 : o = 35
  · exact hasGlob B q g n cap w p m s x h bad st o i b0 E N c4
  by_cases c5 : o = 36
  · exact hasMut B q g n cap w p m s x h bad st o i b0 E N c5
  by_cases c6 : o = 40 ∨ o = 54 ∨ o = 63 ∨ o = 64
  · exact hasMem B q g n cap w p m s x h bad st o i b0 E N c6
  exact hasElse B q g n cap w p m s x h bad st o i b0 E N (by omega) ho2
set_option maxHeartbeats 4000000 in
theorem takes0 (w : World) (c : Ctx) (v0 v1 v2 v3 v4 v5 v6 v7 : Value) (o i b0 : Int) (ho : o = 1) :
    Calls Tryz.prog 69 #[.agg #[v0, v1, v2, v3, v4, v5, v6, v7], .agg #[.int .i64 o, .int .i64 i, .int .i64 b0]] w fun e w' => e = .returned (.tuple #[.int .i64 (effT c o i), .int .i64 (effP c o i)]) ∧ Below w.heap.size w w' := by
  have e1 : Hid (effT c o i = 0) := by rcases ho with rfl <;> rfl
  have e2 : Hid (effP c o i = 0) := by rcases ho with rfl <;> rfl
  rw [e1.out, e2.out]
  clear e1 e2
  rcases ho with rfl
  all_goals
    go_enter Tryz.func69, Tryz.ntmps69
    go_wp2_with fail
    go_ret2
    exact ⟨rfl, (((Below.refl _ _).alloc (Nat.le_refl _) _).alloc (by simp) _)⟩
set_option maxHeartbeats 4000000 in
theorem takes1 (w : World) (c : Ctx) (v0 v1 v2 v3 v4 v5 v6 v7 : Value) (o i b0 : Int) (ho : o = 26 ∨ o = 33 ∨ o = 36) :
    Calls Tryz.prog 69 #[.agg #[v0, v1, v2, v3, v4, v5, v6, v7], .agg #[.int .i64 o, .int .i64 i, .int .i64 b0]] w fun e w' => e = .returned (.tuple #[.int .i64 (effT c o i), .int .i64 (effP c o i)]) ∧ Below w.heap.size w w' := by
  have e1 : Hid (effT c o i = 1) := by rcases ho with rfl | rfl | rfl <;> rfl
  have e2 : Hid (effP c o i = 0) := by rcases ho with rfl | rfl | rfl <;> rfl
  rw [e1.out, e2.out]
  clear e1 e2
  rcases ho with rfl | rfl | rfl
  all_goals
    go_enter Tryz.func69, Tryz.ntmps69
    go_wp2_with fail
    go_ret2
    exact ⟨rfl, (((Below.refl _ _).alloc (Nat.le_refl _) _).alloc (by simp) _)⟩
set_option maxHeartbeats 4000000 in
theorem takes2 (w : World) (c : Ctx) (v0 v1 v2 v3 v4 v5 v6 v7 : Value) (o i b0 : Int) (ho : o = 27) :
    Calls Tryz.prog 69 #[.agg #[v0, v1, v2, v3, v4, v5, v6, v7], .agg #[.int .i64 o, .int .i64 i, .int .i64 b0]] w fun e w' => e = .returned (.tuple #[.int .i64 (effT c o i), .int .i64 (effP c o i)]) ∧ Below w.heap.size w w' := by
  have e1 : Hid (effT c o i = 3) := by rcases ho with rfl <;> rfl
  have e2 : Hid (effP c o i = 1) := by rcases ho with rfl <;> rfl
  rw [e1.out, e2.out]
  clear e1 e2
  rcases ho with rfl
  all_goals
    go_enter Tryz.func69, Tryz.ntmps69
    go_wp2_with fail
    go_ret2
    exact ⟨rfl, (((Below.refl _ _).alloc (Nat.le_refl _) _).alloc (by simp) _)⟩
set_option maxHeartbeats 4000000 in
theorem takes3 (w : World) (c : Ctx) (v0 v1 v2 v3 v4 v5 v6 v7 : Value) (o i b0 : Int) (ho : o = 32 ∨ o = 35 ∨ o = 63 ∨ o = 65) :
    Calls Tryz.prog 69 #[.agg #[v0, v1, v2, v3, v4, v5, v6, v7], .agg #[.int .i64 o, .int .i64 i, .int .i64 b0]] w fun e w' => e = .returned (.tuple #[.int .i64 (effT c o i), .int .i64 (effP c o i)]) ∧ Below w.heap.size w w' := by
  have e1 : Hid (effT c o i = 0) := by rcases ho with rfl | rfl | rfl | rfl <;> rfl
  have e2 : Hid (effP c o i = 1) := by rcases ho with rfl | rfl | rfl | rfl <;> rfl
  rw [e1.out, e2.out]
  clear e1 e2
  rcases ho with rfl | rfl | rfl | rfl
  all_goals
    go_enter Tryz.func69, Tryz.ntmps69
    go_wp2_with fail
    go_ret2
    exact ⟨rfl, (((Below.refl _ _).alloc (Nat.le_refl _) _).alloc (by simp) _)⟩
set_option maxHeartbeats 4000000 in
theorem takes4 (w : World) (c : Ctx) (v0 v1 v2 v3 v4 v5 v6 v7 : Value) (o i b0 : Int) (ho : o = 34 ∨ o = 40 ∨ o = 64 ∨ o = 69) :
    Calls Tryz.prog 69 #[.agg #[v0, v1, v2, v3, v4, v5, v6, v7], .agg #[.int .i64 o, .int .i64 i, .int .i64 b0]] w fun e w' => e = .returned (.tuple #[.int .i64 (effT c o i), .int .i64 (effP c o i)]) ∧ Below w.heap.size w w' := by
  have e1 : Hid (effT c o i = 1) := by rcases ho with rfl | rfl | rfl | rfl <;> rfl
  have e2 : Hid (effP c o i = 1) := by rcases ho with rfl | rfl | rfl | rfl <;> rfl
  rw [e1.out, e2.out]
  clear e1 e2
  rcases ho with rfl | rfl | rfl | rfl
  all_goals
    go_enter Tryz.func69, Tryz.ntmps69
    go_wp2_with fail
    go_ret2
    exact ⟨rfl, (((Below.refl _ _).alloc (Nat.le_refl _) _).alloc (by simp) _)⟩
set_option maxHeartbeats 4000000 in
theorem takes5 (w : World) (c : Ctx) (v0 v1 v2 v3 v4 v5 v6 v7 : Value) (o i b0 : Int) (ho : o = 54) :
    Calls Tryz.prog 69 #[.agg #[v0, v1, v2, v3, v4, v5, v6, v7], .agg #[.int .i64 o, .int .i64 i, .int .i64 b0]] w fun e w' => e = .returned (.tuple #[.int .i64 (effT c o i), .int .i64 (effP c o i)]) ∧ Below w.heap.size w w' := by
  have e1 : Hid (effT c o i = 2) := by rcases ho with rfl <;> rfl
  have e2 : Hid (effP c o i = 0) := by rcases ho with rfl <;> rfl
  rw [e1.out, e2.out]
  clear e1 e2
  rcases ho with rfl
  all_goals
    go_enter Tryz.func69, Tryz.ntmps69
    go_wp2_with fail
    go_ret2
    exact ⟨rfl, (((Below.refl _ _).alloc (Nat.le_refl _) _).alloc (by simp) _)⟩
set_option maxRecDepth 20000 in
set_option maxHeartbeats 4000000 in
theorem takesElse (w : World) (c : Ctx) (v0 v1 v2 v3 v4 v5 v6 v7 : Value) (o i b0 : Int) (ho : o ≠ 1 ∧ o ≠ 16 ∧ o ≠ 26 ∧ o ≠ 33 ∧ o ≠ 36 ∧ o ≠ 27 ∧ o ≠ 32 ∧ o ≠ 35 ∧ o ≠ 63 ∧ o ≠ 65 ∧ o ≠ 34 ∧ o ≠ 40 ∧ o ≠ 64 ∧ o ≠ 69 ∧ o ≠ 54) (ho2 : o ≠ 2 ∧ o ≠ 3 ∧ o ≠ 4) :
    Calls Tryz.prog 69 #[.agg #[v0, v1, v2, v3, v4, v5, v6, v7], .agg #[.int .i64 o, .int .i64 i, .int .i64 b0]] w fun e w' => e = .returned (.tuple #[.int .i64 (effT c o i), .int .i64 (effP c o i)]) ∧ Below w.heap.size w w' := by
  have e1 : Hid (effT c o i = if 103 ≤ o ∧ o ≤ 105 then 1 else 2) := by
    show _ = _
    unfold effT
    rw [if_neg (by omega), if_neg (by omega), if_neg (by omega), if_neg (by omega), if_neg (by omega), if_neg (by omega), if_neg (by omega)]
  have e2 : Hid (effP c o i = 1) := by
    show _ = _
    unfold effP
    rw [if_neg (by omega), if_neg (by omega), if_neg (by omega), if_neg (by omega), if_neg (by omega), if_neg (by omega)]
    split <;> rfl
  rw [e1.out, e2.out]
  clear e1 e2
  have n1 : (o == 1) = false := by simpa using (show o ≠ 1 by omega)
  have n16 : (o == 16) = false := by simpa using (show o ≠ 16 by omega)
  have n26 : (o == 26) = false := by simpa using (show o ≠ 26 by omega)
  have n33 : (o == 33) = false := by simpa using (show o ≠ 33 by omega)
  have n36 : (o == 36) = false := by simpa using (show o ≠ 36 by omega)
  have n27 : (o == 27) = false := by simpa using (show o ≠ 27 by omega)
  have n32 : (o == 32) = false := by simpa using (show o ≠ 32 by omega)
  have n35 : (o == 35) = false := by simpa using (show o ≠ 35 by omega)
  have n63 : (o == 63) = false := by simpa using (show o ≠ 63 by omega)
  have n65 : (o == 65) = false := by simpa using (show o ≠ 65 by omega)
  have n34 : (o == 34) = false := by simpa using (show o ≠ 34 by omega)
  have n40 : (o == 40) = false := by simpa using (show o ≠ 40 by omega)
  have n64 : (o == 64) = false := by simpa using (show o ≠ 64 by omega)
  have n69 : (o == 69) = false := by simpa using (show o ≠ 69 by omega)
  have n54 : (o == 54) = false := by simpa using (show o ≠ 54 by omega)
  clear ho ho2
  by_cases hb : 103 ≤ o
  · by_cases hc : o ≤ 105
    · rw [if_pos ⟨hb, hc⟩]
      go_enter Tryz.func69, Tryz.ntmps69
      go_wp2_with fail
      go_ret2
      exact ⟨rfl, (((Below.refl _ _).alloc (Nat.le_refl _) _).alloc (by simp) _)⟩
    · rw [if_neg (fun z => hc z.2)]
      have hc' : decide (o ≤ 105) = false := decide_eq_false hc
      go_enter Tryz.func69, Tryz.ntmps69
      go_wp2_with fail
      go_ret2
      exact ⟨rfl, (((Below.refl _ _).alloc (Nat.le_refl _) _).alloc (by simp) _)⟩
  · rw [if_neg (fun z => hb z.1)]
    have hb' : decide (103 ≤ o) = false := decide_eq_false hb
    go_enter Tryz.func69, Tryz.ntmps69
    go_wp2_with fail
    go_ret2
    exact ⟨rfl, (((Below.refl _ _).alloc (Nat.le_refl _) _).alloc (by simp) _)⟩
set_option maxRecDepth 20000 in
set_option maxHeartbeats 4000000 in
theorem takesCall (w : World) (p : P) (m : M) (s x : Int) (j : Nat) (b0 : Int) (hR : Rd w p m) (f : Facts m) (hj : j < m.imps.length + m.fns.length) :
    Calls Tryz.prog 69 #[.agg #[.slice p.a0 m.sigs.length p.c0, .slice p.a1 m.imps.length p.c1, .slice p.a2 m.fns.length p.c2, .int .i64 m.pages, .int .i64 m.most, .slice p.a3 m.gls.length p.c3, .slice p.a4 m.exs.length p.c4, .slice p.a5 m.dat.length p.c5], .agg #[.int .i64 16, .int .i64 (j : Int), .int .i64 b0]] w fun e w' => e = .returned (.tuple #[.int .i64 (effT (ctxOf m s x) 16 (j : Int)), .int .i64 (effP (ctxOf m s x) 16 (j : Int))]) ∧ Below w.heap.size w w' := by
  have e1 : Hid (effT (ctxOf m s x) 16 (j : Int) = MemSig.f0At m.sigs (sgI m j).toNat) := rfl
  have e2 : Hid (effP (ctxOf m s x) 16 (j : Int) = MemSig.f1At m.sigs (sgI m j).toNat) := rfl
  rw [e1.out, e2.out]
  clear e1 e2
  have kS : Hid (∀ u : World, Below w.heap.size w u → Calls Tryz.prog 112 #[.agg #[.slice p.a0 m.sigs.length p.c0, .slice p.a1 m.imps.length p.c1, .slice p.a2 m.fns.length p.c2, .int .i64 m.pages, .int .i64 m.most, .slice p.a3 m.gls.length p.c3, .slice p.a4 m.exs.length p.c4, .slice p.a5 m.dat.length p.c5], .int .i64 (j : Int)] u fun e w' => e = .returned (.tuple #[.agg #[.int .i64 (MemSig.f0At m.sigs (sgI m j).toNat), .int .i64 (MemSig.f1At m.sigs (sgI m j).toNat)], .bool true]) ∧ Below u.heap.size u w') := fun u hu => sigYes p m u j (hR.later hu) f hj
  generalize MemSig.f0At m.sigs (sgI m j).toNat = X0 at *
  generalize MemSig.f1At m.sigs (sgI m j).toNat = X1 at *
  clear hR f hj
  generalize m.sigs.length = N0 at *
  generalize m.imps.length = N1 at *
  generalize m.fns.length = N2 at *
  generalize m.gls.length = N3 at *
  generalize m.exs.length = N4 at *
  generalize m.dat.length = N5 at *
  go_enter Tryz.func69, Tryz.ntmps69
  go_wp2_with (go_at_call 112; refine (kS.out _ (((Below.refl _ _).alloc (Nat.le_refl _) _).alloc (by simp) _)).mono ?_; rintro e w1 ⟨rfl, q1⟩)
  go_quiet (fail)
  go_wp2_with fail
  go_ret2
  have x1 := ((((Below.refl _ _).alloc (Nat.le_refl _) _).alloc (by simp) _) : Below w.heap.size w ((w.alloc (.cells #[.slice p.a0 N0 p.c0, .slice p.a1 N1 p.c1, .slice p.a2 N2 p.c2, .int .i64 m.pages, .int .i64 m.most, .slice p.a3 N3 p.c3, .slice p.a4 N4 p.c4, .slice p.a5 N5 p.c5] 39)).alloc (.cells #[.int .i64 16, .int .i64 (j : Int), .int .i64 b0] 62))).trans (q1.mono (by simp; omega))
  exact ⟨rfl, (x1.alloc x1.size _).trans ⟨rfl, rfl, rfl, Nat.le_refl _, fun _ _ => rfl⟩⟩
theorem takesC (w : World) (p : P) (m : M) (s x : Int) (o i b0 : Int) (N : Nat) (hR : Rd w p m) (f : Facts m) (hi : InsF o i) (ht : PlainValid.there (ctxOf m s x) o i N = true) (ho2 : o ≠ 2 ∧ o ≠ 3 ∧ o ≠ 4) :
    Calls Tryz.prog 69 #[.agg #[.slice p.a0 m.sigs.length p.c0, .slice p.a1 m.imps.length p.c1, .slice p.a2 m.fns.length p.c2, .int .i64 m.pages, .int .i64 m.most, .slice p.a3 m.gls.length p.c3, .slice p.a4 m.exs.length p.c4, .slice p.a5 m.dat.length p.c5], .agg #[.int .i64 o, .int .i64 i, .int .i64 b0]] w fun e w' => e = .returned (.tuple #[.int .i64 (effT (ctxOf m s x) o i), .int .i64 (effP (ctxOf m s x) o i)]) ∧ Below w.heap.size w w' := by
  by_cases c0 : o = 1
  · exact takes0 w _ _ _ _ _ _ _ _ _ o i b0 c0
  by_cases c1 : o = 26 ∨ o = 33 ∨ o = 36
  · exact takes1 w _ _ _ _ _ _ _ _ _ o i b0 c1
  by_cases c2 : o = 27
  · exact takes2 w _ _ _ _ _ _ _ _ _ o i b0 c2
  by_cases c3 : o = 32 ∨ o = 35 ∨ o = 63 ∨ o = 65
  · exact takes3 w _ _ _ _ _ _ _ _ _ o i b0 c3
  by_cases c4 : o = 34 ∨ o = 40 ∨ o = 64 ∨ o = 69
  · exact takes4 w _ _ _ _ _ _ _ _ _ o i b0 c4
  by_cases c5 : o = 54
  · exact takes5 w _ _ _ _ _ _ _ _ _ o i b0 c5
  by_cases c6 : o = 16
  · subst c6
    obtain ⟨i0, i1⟩ := hi.idx (by omega)
    obtain ⟨j, rfl⟩ : ∃ j : Nat, i = j := ⟨i.toNat, by omega⟩
    have := of_decide_eq_true (show decide ((j : Int) < (((ctxOf m s x).nf : Nat) : Int)) = true from ht)
    simp only [ctxOf] at this
    exact takesCall w p m s x j b0 hR f (by omega)
  exact takesElse w _ _ _ _ _ _ _ _ _ o i b0 (by omega) ho2
end Go.Proofs.YtdaffcbamnpjfaaGreatDoor.SHas
namespace Go.Proofs.YtdaffcbamnpjfaaGreatDoor.SFlow
open Go.RowKit PlainOps NameCalls PlainNum NumCalls InsCalls InsImpl PlainShape InsMem FormCalls ModMem FormImpl PlainValid ValidCtx Piles Walks SPiles SWalks SIns SHas

/-- What a step comes to: the walk as it stands then, and whether it is bad. -/
def SRes (B : Nat) (w : World) (q : Nat) (F : Nat → Value) (v : Value) (r : Option S2) (w' : World) : Prop :=
  ∃ bad h' v' st', SV B w' q F h' v' bad st' ∧ Kp q w w' v v' ∧ r = if bad = false then some (h', st') else none
theorem top_is {st : List Fr} {n : Nat} (h : n + 1 = st.length) : topF st = st.getD n dF := by
  unfold topF
  rw [← h, Nat.add_sub_cancel]
theorem capLe {B : Nat} {w : World} {q g n cap : Nat} {F : Nat → Value} {h : Int} {bad : Bool} {st : List Fr} (b : SV B w q F h (.slice (some ⟨g, 0, none⟩) (n + 1) cap) bad st) : n + 1 ≤ cap := by
  have hn := b.len
  obtain ⟨g', cap', hv, _, _, hc⟩ := b.form (by omega)
  simp only [Value.slice.injEq] at hv
  omega
theorem kpBox {q : Nat} {w u : World} {v v' : Value} {o i b0 : Int} (hu : Kp q (w.alloc (.cells #[.int .i64 o, .int .i64 i, .int .i64 b0] 62)) u v v') (ha : w.heap.size ≠ q ∧ some w.heap.size ≠ v.ownBlock) : u.cell? ⟨w.heap.size, 0, none⟩ = some (.int .i64 o) ∧ u.cell? ⟨w.heap.size, 1, none⟩ = some (.int .i64 i) := ⟨hu.cell (by simp) ha.1 ha.2, hu.cell (by simp) ha.1 ha.2⟩
set_option maxRecDepth 20000 in
set_option maxHeartbeats 8000000 in
theorem flow0 (B q g n cap : Nat) (w : World) (p : P) (m : M) (s x : Int) (h : Int) (st : List Fr) (i b0 : Int) (E : SEnv B q g n cap w p m s x h false st 0 i) (Bd : Bnd 10000 (h, st)) (ht : PlainValid.there (ctxOf m s x) 0 i (n + 1) = true) :
    Calls Tryz.prog 67 #[.pointer (some ⟨q, 0, none⟩), .agg #[.int .i64 0, .int .i64 i, .int .i64 b0]] w fun e w' => e = .returned (.bool true) ∧ SRes B w q (sF p m (ctxOf m s x).loc) (.slice (some ⟨g, 0, none⟩) (n + 1) cap) (PlainValid.step (ctxOf m s x) 0 i (h, st)) w' := by
  have hn := E.b.len
  obtain ⟨t0, t1, t2, t3⟩ := Bd.top (by omega : st.length ≠ 0)
  have hlo := Bd.lo
  have hhi := Bd.hi
  simp only [top_is hn] at t0 t1 t2 t3
  dsimp only at hlo hhi
  have hnn := E.hn
  have b0' : Hid (SV B (w.alloc (.cells #[.int .i64 0, .int .i64 i, .int .i64 b0] 62)) q (sF p m (ctxOf m s x).loc) h (.slice (some ⟨g, 0, none⟩) (n + 1) cap) false st) := E.b.alloc _
  have hap : Hid (w.heap.size ≠ q ∧ some w.heap.size ≠ (Value.slice (some ⟨g, 0, none⟩) (n + 1) cap).ownBlock) := E.b.past (Nat.le_refl _)
  have hgq : g ≠ q := fun e => E.b.ne (by rw [e]; rfl)
  have kW : Hid (Kp q w (w.alloc (.cells #[.int .i64 0, .int .i64 i, .int .i64 b0] 62)) (.slice (some ⟨g, 0, none⟩) (n + 1) cap) (.slice (some ⟨g, 0, none⟩) (n + 1) cap)) := Kp.alloc q w _ _
  have e1 : Hid (PlainValid.step (ctxOf m s x) 0 i (h, st) = PlainValid.leave 0 (h, st)) := by show _ = _; unfold PlainValid.step; dsimp only; rw [← hn, if_neg (by rw [ht]; decide), if_pos rfl]
  rw [e1.out]
  have kD : Hid (∀ (u : World) (h' : Int) (d : Bool), SV B u q (sF p m (ctxOf m s x).loc) h' (.slice (some ⟨g, 0, none⟩) (n + 1) cap) d st → Calls Tryz.prog 109 #[.pointer (some ⟨q, 0, none⟩)] u fun e w' => e = .returned (.tuple #[]) ∧ SV B w' q (sF p m (ctxOf m s x).loc) (st.getD (n) dF).base (.slice (some ⟨g, 0, none⟩) (n + 1) cap) d (st.set (n) ⟨(st.getD (n) dF).op, (st.getD (n) dF).res, (st.getD (n) dF).base, true⟩) ∧ Kp q u w' (.slice (some ⟨g, 0, none⟩) (n + 1) cap) (.slice (some ⟨g, 0, none⟩) (n + 1) cap)) := fun u h' d hu => SWalks.die B q g (n) cap u (sF p m (ctxOf m s x).loc) h' d st hu (by omega)
  have e2 : Hid (PlainValid.leave 0 (h, st) = some ((st.getD n dF).base, (st.set n ⟨(st.getD n dF).op, (st.getD n dF).res, (st.getD n dF).base, true⟩))) := by
    show _ = _
    unfold PlainValid.leave
    simp only [top_is hn, ← hn, Nat.add_sub_cancel]
    rfl
  rw [e2.out]
  clear E Bd ht hn e1 e2
  generalize (st.set n ⟨(st.getD n dF).op, (st.getD n dF).res, (st.getD n dF).base, true⟩) = st' at *
  generalize (st.getD n dF).base = fb at *
  go_enter Tryz.func67, Tryz.ntmps67
  go_wp2_with (go_at_call 109; refine (kD.out _ _ _ b0'.out).mono ?_; rintro e w1 ⟨rfl, b1, k1⟩; have b1' : Hid (SV B w1 q (sF p m (ctxOf m s x).loc) fb (.slice (some ⟨g, 0, none⟩) (n + 1) cap) false st') := b1; clear b1)
  go_ret
  exact ⟨rfl, false, _, _, _, b1'.out, kW.out.trans k1, rfl⟩
set_option maxRecDepth 20000 in
set_option maxHeartbeats 8000000 in
theorem flow2 (B q g n cap : Nat) (w : World) (p : P) (m : M) (s x : Int) (h : Int) (st : List Fr) (i b0 : Int) (E : SEnv B q g n cap w p m s x h false st 2 i) (Bd : Bnd 10000 (h, st)) (ht : PlainValid.there (ctxOf m s x) 2 i (n + 1) = true) :
    Calls Tryz.prog 67 #[.pointer (some ⟨q, 0, none⟩), .agg #[.int .i64 2, .int .i64 i, .int .i64 b0]] w fun e w' => e = .returned (.bool true) ∧ SRes B w q (sF p m (ctxOf m s x).loc) (.slice (some ⟨g, 0, none⟩) (n + 1) cap) (PlainValid.step (ctxOf m s x) 2 i (h, st)) w' := by
  have hn := E.b.len
  obtain ⟨t0, t1, t2, t3⟩ := Bd.top (by omega : st.length ≠ 0)
  have hlo := Bd.lo
  have hhi := Bd.hi
  simp only [top_is hn] at t0 t1 t2 t3
  dsimp only at hlo hhi
  have hnn := E.hn
  have b0' : Hid (SV B (w.alloc (.cells #[.int .i64 2, .int .i64 i, .int .i64 b0] 62)) q (sF p m (ctxOf m s x).loc) h (.slice (some ⟨g, 0, none⟩) (n + 1) cap) false st) := E.b.alloc _
  have hap : Hid (w.heap.size ≠ q ∧ some w.heap.size ≠ (Value.slice (some ⟨g, 0, none⟩) (n + 1) cap).ownBlock) := E.b.past (Nat.le_refl _)
  have hgq : g ≠ q := fun e => E.b.ne (by rw [e]; rfl)
  have kW : Hid (Kp q w (w.alloc (.cells #[.int .i64 2, .int .i64 i, .int .i64 b0] 62)) (.slice (some ⟨g, 0, none⟩) (n + 1) cap) (.slice (some ⟨g, 0, none⟩) (n + 1) cap)) := Kp.alloc q w _ _
  have e1 : Hid (PlainValid.step (ctxOf m s x) 2 i (h, st) = (exch (effT (ctxOf m s x) 2 i) 0 (h, st)).map (opens 2 i)) := by show _ = _; unfold PlainValid.step; dsimp only; rw [← hn, if_neg (by rw [ht]; decide), if_neg (by omega), if_pos (by omega)]
  rw [e1.out]
  have kO : Hid (∀ (u : World) (h' : Int) (d : Bool), SV B u q (sF p m (ctxOf m s x).loc) h' (.slice (some ⟨g, 0, none⟩) (n + 1) cap) d st → Calls Tryz.prog 110 #[.pointer (some ⟨q, 0, none⟩), .int .i64 2, .int .i64 i] u fun e w' => e = .returned (.tuple #[]) ∧ ∃ g' cap', SV B w' q (sF p m (ctxOf m s x).loc) h' (.slice (some ⟨g', 0, none⟩) (n + 1 + 1) cap') d (st ++ [⟨2, i, h', false⟩]) ∧ Kp q u w' (.slice (some ⟨g, 0, none⟩) (n + 1) cap) (.slice (some ⟨g', 0, none⟩) (n + 1 + 1) cap')) := fun u h' d hu => SWalks.openUp B q g n cap u (sF p m (ctxOf m s x).loc) h' d st 2 i hu (by omega)
  have e2 : Hid ((exch (effT (ctxOf m s x) 2 i) 0 (h, st)).map (opens 2 i) = some (h, st ++ [⟨2, i, h, false⟩])) := by
    show (exch 0 0 (h, st)).map (opens 2 i) = _
    unfold exch opens
    simp [tk]
  rw [e2.out]
  clear E Bd ht hn e1 e2
  go_enter Tryz.func67, Tryz.ntmps67
  go_wp2_with (go_at_call 110; refine (kO.out _ _ _ b0'.out).mono ?_; rintro e w1 ⟨rfl, g1, cap1, b1, k1⟩; have b1' : Hid (SV B w1 q (sF p m (ctxOf m s x).loc) h (.slice (some ⟨g1, 0, none⟩) (n + 1 + 1) cap1) false (st ++ [⟨2, i, h, false⟩])) := b1; clear b1)
  go_ret
  exact ⟨rfl, false, _, _, _, b1'.out, kW.out.trans k1, rfl⟩
set_option maxRecDepth 20000 in
set_option maxHeartbeats 8000000 in
theorem flow3 (B q g n cap : Nat) (w : World) (p : P) (m : M) (s x : Int) (h : Int) (st : List Fr) (i b0 : Int) (E : SEnv B q g n cap w p m s x h false st 3 i) (Bd : Bnd 10000 (h, st)) (ht : PlainValid.there (ctxOf m s x) 3 i (n + 1) = true) :
    Calls Tryz.prog 67 #[.pointer (some ⟨q, 0, none⟩), .agg #[.int .i64 3, .int .i64 i, .int .i64 b0]] w fun e w' => e = .returned (.bool true) ∧ SRes B w q (sF p m (ctxOf m s x).loc) (.slice (some ⟨g, 0, none⟩) (n + 1) cap) (PlainValid.step (ctxOf m s x) 3 i (h, st)) w' := by
  have hn := E.b.len
  obtain ⟨t0, t1, t2, t3⟩ := Bd.top (by omega : st.length ≠ 0)
  have hlo := Bd.lo
  have hhi := Bd.hi
  simp only [top_is hn] at t0 t1 t2 t3
  dsimp only at hlo hhi
  have hnn := E.hn
  have b0' : Hid (SV B (w.alloc (.cells #[.int .i64 3, .int .i64 i, .int .i64 b0] 62)) q (sF p m (ctxOf m s x).loc) h (.slice (some ⟨g, 0, none⟩) (n + 1) cap) false st) := E.b.alloc _
  have hap : Hid (w.heap.size ≠ q ∧ some w.heap.size ≠ (Value.slice (some ⟨g, 0, none⟩) (n + 1) cap).ownBlock) := E.b.past (Nat.le_refl _)
  have hgq : g ≠ q := fun e => E.b.ne (by rw [e]; rfl)
  have kW : Hid (Kp q w (w.alloc (.cells #[.int .i64 3, .int .i64 i, .int .i64 b0] 62)) (.slice (some ⟨g, 0, none⟩) (n + 1) cap) (.slice (some ⟨g, 0, none⟩) (n + 1) cap)) := Kp.alloc q w _ _
  have e1 : Hid (PlainValid.step (ctxOf m s x) 3 i (h, st) = (exch (effT (ctxOf m s x) 3 i) 0 (h, st)).map (opens 3 i)) := by show _ = _; unfold PlainValid.step; dsimp only; rw [← hn, if_neg (by rw [ht]; decide), if_neg (by omega), if_pos (by omega)]
  rw [e1.out]
  have kO : Hid (∀ (u : World) (h' : Int) (d : Bool), SV B u q (sF p m (ctxOf m s x).loc) h' (.slice (some ⟨g, 0, none⟩) (n + 1) cap) d st → Calls Tryz.prog 110 #[.pointer (some ⟨q, 0, none⟩), .int .i64 3, .int .i64 i] u fun e w' => e = .returned (.tuple #[]) ∧ ∃ g' cap', SV B w' q (sF p m (ctxOf m s x).loc) h' (.slice (some ⟨g', 0, none⟩) (n + 1 + 1) cap') d (st ++ [⟨3, i, h', false⟩]) ∧ Kp q u w' (.slice (some ⟨g, 0, none⟩) (n + 1) cap) (.slice (some ⟨g', 0, none⟩) (n + 1 + 1) cap')) := fun u h' d hu => SWalks.openUp B q g n cap u (sF p m (ctxOf m s x).loc) h' d st 3 i hu (by omega)
  have e2 : Hid ((exch (effT (ctxOf m s x) 3 i) 0 (h, st)).map (opens 3 i) = some (h, st ++ [⟨3, i, h, false⟩])) := by
    show (exch 0 0 (h, st)).map (opens 3 i) = _
    unfold exch opens
    simp [tk]
  rw [e2.out]
  clear E Bd ht hn e1 e2
  go_enter Tryz.func67, Tryz.ntmps67
  go_wp2_with (go_at_call 110; refine (kO.out _ _ _ b0'.out).mono ?_; rintro e w1 ⟨rfl, g1, cap1, b1, k1⟩; have b1' : Hid (SV B w1 q (sF p m (ctxOf m s x).loc) h (.slice (some ⟨g1, 0, none⟩) (n + 1 + 1) cap1) false (st ++ [⟨3, i, h, false⟩])) := b1; clear b1)
  go_ret
  exact ⟨rfl, false, _, _, _, b1'.out, kW.out.trans k1, rfl⟩
set_option maxRecDepth 20000 in
set_option maxHeartbeats 8000000 in
theorem flow4 (B q g n cap : Nat) (w : World) (p : P) (m : M) (s x : Int) (h : Int) (st : List Fr) (i b0 : Int) (E : SEnv B q g n cap w p m s x h false st 4 i) (Bd : Bnd 10000 (h, st)) (ht : PlainValid.there (ctxOf m s x) 4 i (n + 1) = true) :
    Calls Tryz.prog 67 #[.pointer (some ⟨q, 0, none⟩), .agg #[.int .i64 4, .int .i64 i, .int .i64 b0]] w fun e w' => e = .returned (.bool true) ∧ SRes B w q (sF p m (ctxOf m s x).loc) (.slice (some ⟨g, 0, none⟩) (n + 1) cap) (PlainValid.step (ctxOf m s x) 4 i (h, st)) w' := by
  have hn := E.b.len
  obtain ⟨t0, t1, t2, t3⟩ := Bd.top (by omega : st.length ≠ 0)
  have hlo := Bd.lo
  have hhi := Bd.hi
  simp only [top_is hn] at t0 t1 t2 t3
  dsimp only at hlo hhi
  have hnn := E.hn
  have b0' : Hid (SV B (w.alloc (.cells #[.int .i64 4, .int .i64 i, .int .i64 b0] 62)) q (sF p m (ctxOf m s x).loc) h (.slice (some ⟨g, 0, none⟩) (n + 1) cap) false st) := E.b.alloc _
  have hap : Hid (w.heap.size ≠ q ∧ some w.heap.size ≠ (Value.slice (some ⟨g, 0, none⟩) (n + 1) cap).ownBlock) := E.b.past (Nat.le_refl _)
  have hgq : g ≠ q := fun e => E.b.ne (by rw [e]; rfl)
  have kW : Hid (Kp q w (w.alloc (.cells #[.int .i64 4, .int .i64 i, .int .i64 b0] 62)) (.slice (some ⟨g, 0, none⟩) (n + 1) cap) (.slice (some ⟨g, 0, none⟩) (n + 1) cap)) := Kp.alloc q w _ _
  have e1 : Hid (PlainValid.step (ctxOf m s x) 4 i (h, st) = (exch (effT (ctxOf m s x) 4 i) 0 (h, st)).map (opens 4 i)) := by show _ = _; unfold PlainValid.step; dsimp only; rw [← hn, if_neg (by rw [ht]; decide), if_neg (by omega), if_pos (by omega)]
  rw [e1.out]
  have kO : Hid (∀ (u : World) (h' : Int) (d : Bool), SV B u q (sF p m (ctxOf m s x).loc) h' (.slice (some ⟨g, 0, none⟩) (n + 1) cap) d st → Calls Tryz.prog 110 #[.pointer (some ⟨q, 0, none⟩), .int .i64 4, .int .i64 i] u fun e w' => e = .returned (.tuple #[]) ∧ ∃ g' cap', SV B w' q (sF p m (ctxOf m s x).loc) h' (.slice (some ⟨g', 0, none⟩) (n + 1 + 1) cap') d (st ++ [⟨4, i, h', false⟩]) ∧ Kp q u w' (.slice (some ⟨g, 0, none⟩) (n + 1) cap) (.slice (some ⟨g', 0, none⟩) (n + 1 + 1) cap')) := fun u h' d hu => SWalks.openUp B q g n cap u (sF p m (ctxOf m s x).loc) h' d st 4 i hu (by omega)
  have kT : Hid (∀ u : World, SV B u q (sF p m (ctxOf m s x).loc) h (.slice (some ⟨g, 0, none⟩) (n + 1) cap) false st → Calls Tryz.prog 70 #[.pointer (some ⟨q, 0, none⟩), .int .i64 1] u fun e w' => e = .returned (.tuple #[]) ∧ SV B w' q (sF p m (ctxOf m s x).loc) (tk 1 h (st.getD (n) dF).base (st.getD (n) dF).dead).1 (.slice (some ⟨g, 0, none⟩) (n + 1) cap) (!(tk 1 h (st.getD (n) dF).base (st.getD (n) dF).dead).2) st ∧ Kp q u w' (.slice (some ⟨g, 0, none⟩) (n + 1) cap) (.slice (some ⟨g, 0, none⟩) (n + 1) cap)) := fun u hu => by
    have := SPiles.take B q g (n) cap u (sF p m (ctxOf m s x).loc) h false st 1 hu (by omega) (by omega) (by omega) (by omega) (by omega) (by omega)
    exact this
  have e2 : Hid ((exch (effT (ctxOf m s x) 4 i) 0 (h, st)).map (opens 4 i) = if (!(tk 1 h (st.getD n dF).base (st.getD n dF).dead).2) = false then some ((tk 1 h (st.getD n dF).base (st.getD n dF).dead).1, st ++ [⟨4, i, (tk 1 h (st.getD n dF).base (st.getD n dF).dead).1, false⟩]) else none) := by
    show (exch 1 0 (h, st)).map (opens 4 i) = _
    unfold exch opens
    simp only [top_is hn]
    show (if (tk 1 h (st.getD n dF).base (st.getD n dF).dead).2 = true then _ else _ : Option S2).map _ = _
    cases (tk 1 h (st.getD n dF).base (st.getD n dF).dead).2 <;> simp <;> rfl
  generalize (exch (effT (ctxOf m s x) 4 i) 0 (h, st)).map (opens 4 i) = XX at e2 ⊢
  clear E Bd ht hn e1 t0 t1 t2 t3
  generalize tk 1 h (st.getD n dF).base (st.getD n dF).dead = R at *
  obtain ⟨R1, R2⟩ := R
  dsimp only at *
  go_enter Tryz.func67, Tryz.ntmps67
  go_wp2_with (first | (go_at_call 70; refine (kT.out _ b0'.out).mono ?_; rintro e w1 ⟨rfl, b1, k1⟩; obtain ⟨_, _⟩ := kpBox k1 hap.out; have b1' : Hid (SV B w1 q (sF p m (ctxOf m s x).loc) R1 (.slice (some ⟨g, 0, none⟩) (n + 1) cap) (!R2) st) := b1; clear b1) | (go_at_call 110; refine (kO.out _ _ _ b1'.out).mono ?_; rintro e w2 ⟨rfl, g2, cap2, b2, k2⟩; have b2' : Hid (SV B w2 q (sF p m (ctxOf m s x).loc) R1 (.slice (some ⟨g2, 0, none⟩) (n + 1 + 1) cap2) (!R2) (st ++ [⟨4, i, R1, false⟩])) := b2; clear b2))
  go_ret
  exact ⟨rfl, _, _, _, _, b2'.out, (kW.out.trans k1).trans k2, e2.out⟩
theorem svElse {B : Nat} {w : World} {q g n cap : Nat} {F : Nat → Value} {h : Int} {bad : Bool} {st : List Fr} (b : SV B w q F h (.slice (some ⟨g, 0, none⟩) (n + 1) cap) bad st) : SV B ((w.setCell ⟨g, n * 4, none⟩ (.int .i64 5)).setCell ⟨g, n * 4 + 3, none⟩ (.bool false)) q F h (.slice (some ⟨g, 0, none⟩) (n + 1) cap) bad (st.set n ⟨5, (st.getD n dF).res, (st.getD n dF).base, false⟩) := by
  have hn := b.len
  have b1 := svRow (svRow b (n * 4) (.int .i64 5) (by simp) (cellsF_set0 st n 5 (by omega))) (n * 4 + 3) (.bool false) (by simp) (cellsF_set3 _ n false (by simp; omega))
  have e : (st.set n ⟨5, (st.getD n dF).res, (st.getD n dF).base, (st.getD n dF).dead⟩).getD n dF = ⟨5, (st.getD n dF).res, (st.getD n dF).base, (st.getD n dF).dead⟩ := by
    rw [List.getD_eq_getElem?_getD, List.getElem?_set_self (by omega)]
    rfl
  rw [e, List.set_set] at b1
  exact b1
set_option maxRecDepth 20000 in
set_option maxHeartbeats 8000000 in
theorem flow5 (B q g n cap : Nat) (w : World) (p : P) (m : M) (s x : Int) (h : Int) (st : List Fr) (i b0 : Int) (E : SEnv B q g n cap w p m s x h false st 5 i) (Bd : Bnd 10000 (h, st)) (ht : PlainValid.there (ctxOf m s x) 5 i (n + 1) = true) :
    Calls Tryz.prog 67 #[.pointer (some ⟨q, 0, none⟩), .agg #[.int .i64 5, .int .i64 i, .int .i64 b0]] w fun e w' => e = .returned (.bool true) ∧ SRes B w q (sF p m (ctxOf m s x).loc) (.slice (some ⟨g, 0, none⟩) (n + 1) cap) (PlainValid.step (ctxOf m s x) 5 i (h, st)) w' := by
  have hn := E.b.len
  obtain ⟨t0, t1, t2, t3⟩ := Bd.top (by omega : st.length ≠ 0)
  have hlo := Bd.lo
  have hhi := Bd.hi
  simp only [top_is hn] at t0 t1 t2 t3
  dsimp only at hlo hhi
  have hnn := E.hn
  have b0' : Hid (SV B (w.alloc (.cells #[.int .i64 5, .int .i64 i, .int .i64 b0] 62)) q (sF p m (ctxOf m s x).loc) h (.slice (some ⟨g, 0, none⟩) (n + 1) cap) false st) := E.b.alloc _
  have hap : Hid (w.heap.size ≠ q ∧ some w.heap.size ≠ (Value.slice (some ⟨g, 0, none⟩) (n + 1) cap).ownBlock) := E.b.past (Nat.le_refl _)
  have hgq : g ≠ q := fun e => E.b.ne (by rw [e]; rfl)
  have kW : Hid (Kp q w (w.alloc (.cells #[.int .i64 5, .int .i64 i, .int .i64 b0] 62)) (.slice (some ⟨g, 0, none⟩) (n + 1) cap) (.slice (some ⟨g, 0, none⟩) (n + 1) cap)) := Kp.alloc q w _ _
  have e1 : Hid (PlainValid.step (ctxOf m s x) 5 i (h, st) = PlainValid.turn (h, st)) := by show _ = _; unfold PlainValid.step; dsimp only; rw [← hn, if_neg (by rw [ht]; decide), if_neg (by omega), if_neg (by omega), if_pos rfl]
  rw [e1.out]
  have kC : Hid (∀ u : World, SV B u q (sF p m (ctxOf m s x).loc) h (.slice (some ⟨g, 0, none⟩) (n + 1) cap) false st → Calls Tryz.prog 31 #[.pointer (some ⟨q, 0, none⟩)] u fun e w' => e = .returned (.tuple #[]) ∧ SV B w' q (sF p m (ctxOf m s x).loc) (tk (st.getD n dF).res.toNat h (st.getD n dF).base (st.getD n dF).dead).1 (.slice (some ⟨g, 0, none⟩) (n + 1) cap) (!((tk (st.getD n dF).res.toNat h (st.getD n dF).base (st.getD n dF).dead).2 && decide ((tk (st.getD n dF).res.toNat h (st.getD n dF).base (st.getD n dF).dead).1 = (st.getD n dF).base))) st ∧ Kp q u w' (.slice (some ⟨g, 0, none⟩) (n + 1) cap) (.slice (some ⟨g, 0, none⟩) (n + 1) cap)) := fun u hu => SWalks.closeUp B q g n cap u (sF p m (ctxOf m s x).loc) h false st hu (by omega) (by omega) (by omega) (by omega) (by omega) (by omega)
  have hcs : Hid (∀ (u : World) (h' : Int) (d : Bool), SV B u q (sF p m (ctxOf m s x).loc) h' (.slice (some ⟨g, 0, none⟩) (n + 1) cap) d st → u.cell? ⟨q, 10, none⟩ = some (.slice (some ⟨g, 0, none⟩) (n + 1) cap) ∧ u.cell? ⟨q, 9, none⟩ = some (.int .i64 h') ∧ u.frozen? ⟨q, 9, none⟩ = false ∧ u.cell? ⟨g, n * 4, none⟩ = some (.int .i64 (st.getD n dF).op) ∧ u.cell? ⟨g, n * 4 + 1, none⟩ = some (.int .i64 (st.getD n dF).res) ∧ u.cell? ⟨g, n * 4 + 2, none⟩ = some (.int .i64 (st.getD n dF).base) ∧ u.cell? ⟨g, n * 4 + 3, none⟩ = some (.bool (st.getD n dF).dead) ∧ u.frozen? ⟨g, n * 4, none⟩ = false ∧ u.frozen? ⟨g, n * 4 + 3, none⟩ = false ∧ u.frozen? ⟨q, 10, none⟩ = false ∧ u.cell? ⟨q, 11, none⟩ = some (.bool d) ∧ u.frozen? ⟨q, 11, none⟩ = false ∧ g < u.heap.size ∧ q < u.heap.size) := fun u h' d bu => by
    obtain ⟨a0, a1, a2, a3⟩ := bu.cells n (by omega)
    exact ⟨bu.pile, bu.hgt, bu.frozen _, a0, a1, a2, a3, bu.rowFrozen _, bu.rowFrozen _, bu.frozen _, bu.isBad, bu.frozen _, World.block_lt_of_cell? u _ a0, bu.lt⟩
  have e2 : Hid (PlainValid.turn (h, st) = if (!((tk (st.getD n dF).res.toNat h (st.getD n dF).base (st.getD n dF).dead).2 && decide ((tk (st.getD n dF).res.toNat h (st.getD n dF).base (st.getD n dF).dead).1 = (st.getD n dF).base))) = false then some ((st.getD n dF).base, (st.set n ⟨5, (st.getD n dF).res, (st.getD n dF).base, false⟩)) else none) := by
    show _ = _
    unfold PlainValid.turn ends
    simp only [top_is hn, ← hn, Nat.add_sub_cancel]
    cases ((tk (st.getD n dF).res.toNat h (st.getD n dF).base (st.getD n dF).dead).2 && decide ((tk (st.getD n dF).res.toNat h (st.getD n dF).base (st.getD n dF).dead).1 = (st.getD n dF).base)) <;> rfl
  generalize PlainValid.turn (h, st) = XX at e2 ⊢
  have hE : Hid (∀ (u : World) (h' : Int) (d : Bool), SV B u q (sF p m (ctxOf m s x).loc) h' (.slice (some ⟨g, 0, none⟩) (n + 1) cap) d st → SV B ((u.setCell ⟨g, n * 4, none⟩ (.int .i64 5)).setCell ⟨g, n * 4 + 3, none⟩ (.bool false)) q (sF p m (ctxOf m s x).loc) h' (.slice (some ⟨g, 0, none⟩) (n + 1) cap) d (st.set n ⟨5, (st.getD n dF).res, (st.getD n dF).base, false⟩)) := fun u h' d bu => svElse bu
  clear E Bd ht hn e1 t0 t1 t2 t3
  generalize ((tk (st.getD n dF).res.toNat h (st.getD n dF).base (st.getD n dF).dead).2 && decide ((tk (st.getD n dF).res.toNat h (st.getD n dF).base (st.getD n dF).dead).1 = (st.getD n dF).base)) = EE at *
  generalize (tk (st.getD n dF).res.toNat h (st.getD n dF).base (st.getD n dF).dead).1 = R1 at *
  generalize (st.set n ⟨5, (st.getD n dF).res, (st.getD n dF).base, false⟩) = st' at *
  generalize st.getD n dF = f at *
  obtain ⟨fo, fr, fb, fd⟩ := f
  dsimp only at *
  go_enter Tryz.func67, Tryz.ntmps67
  go_wp2_with (go_at_call 31; refine (kC.out _ b0'.out).mono ?_; rintro e w1 ⟨rfl, b1, k1⟩; obtain ⟨z0, z1, z2, z3, z4, z5, z6, z7, z8, z9, z10, z11, z12, z13⟩ := hcs.out _ _ _ b1; have b1' : Hid (SV B w1 q (sF p m (ctxOf m s x).loc) R1 (.slice (some ⟨g, 0, none⟩) (n + 1) cap) (!EE) st) := b1; clear b1)
  go_ret
  exact ⟨rfl, _, _, _, _, hE.out _ _ _ (b1'.out.seth fb), ((((kW.out.trans k1).trans (Kp.set _ _ _)).trans (Kp.setRow _ _)).trans (Kp.setRow _ _)), e2.out⟩
set_option maxRecDepth 20000 in
set_option maxHeartbeats 8000000 in
theorem flow11 (B q g n cap : Nat) (w : World) (p : P) (m : M) (s x : Int) (h : Int) (st : List Fr) (i b0 : Int) (E : SEnv B q g n cap w p m s x h false st 11 i) (Bd : Bnd 10000 (h, st)) (ht : PlainValid.there (ctxOf m s x) 11 i (n + 1) = true) :
    Calls Tryz.prog 67 #[.pointer (some ⟨q, 0, none⟩), .agg #[.int .i64 11, .int .i64 i, .int .i64 b0]] w fun e w' => e = .returned (.bool true) ∧ SRes B w q (sF p m (ctxOf m s x).loc) (.slice (some ⟨g, 0, none⟩) (n + 1) cap) (PlainValid.step (ctxOf m s x) 11 i (h, st)) w' := by
  have hn := E.b.len
  obtain ⟨t0, t1, t2, t3⟩ := Bd.top (by omega : st.length ≠ 0)
  have hlo := Bd.lo
  have hhi := Bd.hi
  simp only [top_is hn] at t0 t1 t2 t3
  dsimp only at hlo hhi
  have hnn := E.hn
  have b0' : Hid (SV B (w.alloc (.cells #[.int .i64 11, .int .i64 i, .int .i64 b0] 62)) q (sF p m (ctxOf m s x).loc) h (.slice (some ⟨g, 0, none⟩) (n + 1) cap) false st) := E.b.alloc _
  have hap : Hid (w.heap.size ≠ q ∧ some w.heap.size ≠ (Value.slice (some ⟨g, 0, none⟩) (n + 1) cap).ownBlock) := E.b.past (Nat.le_refl _)
  have hgq : g ≠ q := fun e => E.b.ne (by rw [e]; rfl)
  have kW : Hid (Kp q w (w.alloc (.cells #[.int .i64 11, .int .i64 i, .int .i64 b0] 62)) (.slice (some ⟨g, 0, none⟩) (n + 1) cap) (.slice (some ⟨g, 0, none⟩) (n + 1) cap)) := Kp.alloc q w _ _
  have e1 : Hid (PlainValid.step (ctxOf m s x) 11 i (h, st) = PlainValid.close (h, st)) := by show _ = _; unfold PlainValid.step; dsimp only; rw [← hn, if_neg (by rw [ht]; decide), if_neg (by omega), if_neg (by omega), if_neg (by omega), if_pos rfl]
  rw [e1.out]
  have kC : Hid (∀ u : World, SV B u q (sF p m (ctxOf m s x).loc) h (.slice (some ⟨g, 0, none⟩) (n + 1) cap) false st → Calls Tryz.prog 31 #[.pointer (some ⟨q, 0, none⟩)] u fun e w' => e = .returned (.tuple #[]) ∧ SV B w' q (sF p m (ctxOf m s x).loc) (tk (st.getD n dF).res.toNat h (st.getD n dF).base (st.getD n dF).dead).1 (.slice (some ⟨g, 0, none⟩) (n + 1) cap) (!((tk (st.getD n dF).res.toNat h (st.getD n dF).base (st.getD n dF).dead).2 && decide ((tk (st.getD n dF).res.toNat h (st.getD n dF).base (st.getD n dF).dead).1 = (st.getD n dF).base))) st ∧ Kp q u w' (.slice (some ⟨g, 0, none⟩) (n + 1) cap) (.slice (some ⟨g, 0, none⟩) (n + 1) cap)) := fun u hu => SWalks.closeUp B q g n cap u (sF p m (ctxOf m s x).loc) h false st hu (by omega) (by omega) (by omega) (by omega) (by omega) (by omega)
  have hcs : Hid (∀ (u : World) (h' : Int) (d : Bool), SV B u q (sF p m (ctxOf m s x).loc) h' (.slice (some ⟨g, 0, none⟩) (n + 1) cap) d st → u.cell? ⟨q, 10, none⟩ = some (.slice (some ⟨g, 0, none⟩) (n + 1) cap) ∧ u.cell? ⟨q, 9, none⟩ = some (.int .i64 h') ∧ u.frozen? ⟨q, 9, none⟩ = false ∧ u.cell? ⟨g, n * 4, none⟩ = some (.int .i64 (st.getD n dF).op) ∧ u.cell? ⟨g, n * 4 + 1, none⟩ = some (.int .i64 (st.getD n dF).res) ∧ u.cell? ⟨g, n * 4 + 2, none⟩ = some (.int .i64 (st.getD n dF).base) ∧ u.cell? ⟨g, n * 4 + 3, none⟩ = some (.bool (st.getD n dF).dead) ∧ u.frozen? ⟨g, n * 4, none⟩ = false ∧ u.frozen? ⟨g, n * 4 + 3, none⟩ = false ∧ u.frozen? ⟨q, 10, none⟩ = false ∧ u.cell? ⟨q, 11, none⟩ = some (.bool d) ∧ u.frozen? ⟨q, 11, none⟩ = false ∧ g < u.heap.size ∧ q < u.heap.size) := fun u h' d bu => by
    obtain ⟨a0, a1, a2, a3⟩ := bu.cells n (by omega)
    exact ⟨bu.pile, bu.hgt, bu.frozen _, a0, a1, a2, a3, bu.rowFrozen _, bu.rowFrozen _, bu.frozen _, bu.isBad, bu.frozen _, World.block_lt_of_cell? u _ a0, bu.lt⟩
  have e2 : Hid (PlainValid.close (h, st) = if (!(((tk (st.getD n dF).res.toNat h (st.getD n dF).base (st.getD n dF).dead).2 && decide ((tk (st.getD n dF).res.toNat h (st.getD n dF).base (st.getD n dF).dead).1 = (st.getD n dF).base)) && decide ((st.getD n dF).op ≠ 4 ∨ (st.getD n dF).res = 0))) = false then some ((st.getD n dF).base + (st.getD n dF).res, st.take n) else none) := by
    show _ = _
    unfold PlainValid.close closes ends
    simp only [top_is hn, ← hn, Nat.add_sub_cancel]
    cases (((tk (st.getD n dF).res.toNat h (st.getD n dF).base (st.getD n dF).dead).2 && decide ((tk (st.getD n dF).res.toNat h (st.getD n dF).base (st.getD n dF).dead).1 = (st.getD n dF).base)) && decide ((st.getD n dF).op ≠ 4 ∨ (st.getD n dF).res = 0)) <;> rfl
  generalize PlainValid.close (h, st) = XX at e2 ⊢
  have hcap := capLe E.b
  clear E Bd ht hn e1
  generalize ((tk (st.getD n dF).res.toNat h (st.getD n dF).base (st.getD n dF).dead).2 && decide ((tk (st.getD n dF).res.toNat h (st.getD n dF).base (st.getD n dF).dead).1 = (st.getD n dF).base)) = EE at *
  generalize (tk (st.getD n dF).res.toNat h (st.getD n dF).base (st.getD n dF).dead).1 = R1 at *
  generalize st.getD n dF = f at *
  obtain ⟨fo, fr, fb, fd⟩ := f
  dsimp only at *
  by_cases h4 : fo = 4
  · subst h4
    by_cases hr : 0 < fr
    · have hr0 : fr ≠ 0 := by omega
      have e3 : Hid ((!(EE && decide ((4 : Int) ≠ 4 ∨ fr = 0))) = true) := by show _ = _; simp [hr0]
      rw [e3.out] at e2
      clear hr0 e3
      go_enter Tryz.func67, Tryz.ntmps67
      go_wp2_with (go_at_call 31; refine (kC.out _ b0'.out).mono ?_; rintro e w1 ⟨rfl, b1, k1⟩; obtain ⟨z0, z1, z2, z3, z4, z5, z6, z7, z8, z9, z10, z11, z12, z13⟩ := hcs.out _ _ _ b1; have b1' : Hid (SV B w1 q (sF p m (ctxOf m s x).loc) R1 (.slice (some ⟨g, 0, none⟩) (n + 1) cap) (!EE) st) := b1; clear b1)
      go_ret
      obtain ⟨p1, p2⟩ := (b1'.out.setbad true).popped
      exact ⟨rfl, _, _, _, _, (p1.seth (fb + fr)).alloc _, ((((kW.out.trans k1).trans (Kp.set _ _ _)).trans p2).trans (Kp.set _ _ _)).trans (Kp.alloc q _ _ _), e2.out⟩

    · have hr' : decide (0 < fr) = false := decide_eq_false hr
      have hr0 : fr = 0 := by omega
      have e3 : Hid ((!(EE && decide ((4 : Int) ≠ 4 ∨ fr = 0))) = !EE) := by show _ = _; simp [hr0]
      rw [e3.out] at e2
      clear hr0 e3
      go_enter Tryz.func67, Tryz.ntmps67
      go_wp2_with (go_at_call 31; refine (kC.out _ b0'.out).mono ?_; rintro e w1 ⟨rfl, b1, k1⟩; obtain ⟨z0, z1, z2, z3, z4, z5, z6, z7, z8, z9, z10, z11, z12, z13⟩ := hcs.out _ _ _ b1; have b1' : Hid (SV B w1 q (sF p m (ctxOf m s x).loc) R1 (.slice (some ⟨g, 0, none⟩) (n + 1) cap) (!EE) st) := b1; clear b1)
      go_ret
      obtain ⟨p1, p2⟩ := b1'.out.popped
      exact ⟨rfl, _, _, _, _, (p1.seth (fb + fr)).alloc _, ((((kW.out.trans k1)).trans p2).trans (Kp.set _ _ _)).trans (Kp.alloc q _ _ _), e2.out⟩

  · have h4' : (fo == 4) = false := by simpa using h4
    have e3 : Hid ((!(EE && decide (fo ≠ 4 ∨ fr = 0))) = !EE) := by show _ = _; simp [h4]
    rw [e3.out] at e2
    clear h4 e3
    go_enter Tryz.func67, Tryz.ntmps67
    go_wp2_with (go_at_call 31; refine (kC.out _ b0'.out).mono ?_; rintro e w1 ⟨rfl, b1, k1⟩; obtain ⟨z0, z1, z2, z3, z4, z5, z6, z7, z8, z9, z10, z11, z12, z13⟩ := hcs.out _ _ _ b1; have b1' : Hid (SV B w1 q (sF p m (ctxOf m s x).loc) R1 (.slice (some ⟨g, 0, none⟩) (n + 1) cap) (!EE) st) := b1; clear b1)
    go_ret
    obtain ⟨p1, p2⟩ := b1'.out.popped
    exact ⟨rfl, _, _, _, _, (p1.seth (fb + fr)).alloc _, ((((kW.out.trans k1)).trans p2).trans (Kp.set _ _ _)).trans (Kp.alloc q _ _ _), e2.out⟩
set_option maxRecDepth 20000 in
set_option maxHeartbeats 8000000 in
theorem flow15 (B q g n cap : Nat) (w : World) (p : P) (m : M) (s x : Int) (h : Int) (st : List Fr) (i b0 : Int) (E : SEnv B q g n cap w p m s x h false st 15 i) (Bd : Bnd 10000 (h, st)) (ht : PlainValid.there (ctxOf m s x) 15 i (n + 1) = true) (hown : (st.getD 0 dF).res = (ctxOf m s x).own) :
    Calls Tryz.prog 67 #[.pointer (some ⟨q, 0, none⟩), .agg #[.int .i64 15, .int .i64 i, .int .i64 b0]] w fun e w' => e = .returned (.bool true) ∧ SRes B w q (sF p m (ctxOf m s x).loc) (.slice (some ⟨g, 0, none⟩) (n + 1) cap) (PlainValid.step (ctxOf m s x) 15 i (h, st)) w' := by
  have hn := E.b.len
  obtain ⟨t0, t1, t2, t3⟩ := Bd.top (by omega : st.length ≠ 0)
  have hlo := Bd.lo
  have hhi := Bd.hi
  simp only [top_is hn] at t0 t1 t2 t3
  dsimp only at hlo hhi
  have hnn := E.hn
  have b0' : Hid (SV B (w.alloc (.cells #[.int .i64 15, .int .i64 i, .int .i64 b0] 62)) q (sF p m (ctxOf m s x).loc) h (.slice (some ⟨g, 0, none⟩) (n + 1) cap) false st) := E.b.alloc _
  have hap : Hid (w.heap.size ≠ q ∧ some w.heap.size ≠ (Value.slice (some ⟨g, 0, none⟩) (n + 1) cap).ownBlock) := E.b.past (Nat.le_refl _)
  have hgq : g ≠ q := fun e => E.b.ne (by rw [e]; rfl)
  have kW : Hid (Kp q w (w.alloc (.cells #[.int .i64 15, .int .i64 i, .int .i64 b0] 62)) (.slice (some ⟨g, 0, none⟩) (n + 1) cap) (.slice (some ⟨g, 0, none⟩) (n + 1) cap)) := Kp.alloc q w _ _
  have e1 : Hid (PlainValid.step (ctxOf m s x) 15 i (h, st) = PlainValid.leave (ctxOf m s x).own (h, st)) := by show _ = _; unfold PlainValid.step; dsimp only; rw [← hn, if_neg (by rw [ht]; decide), if_neg (by omega), if_neg (by omega), if_neg (by omega), if_neg (by omega), if_neg (by omega), if_neg (by omega), if_pos rfl]
  rw [e1.out]
  have kD : Hid (∀ (u : World) (h' : Int) (d : Bool), SV B u q (sF p m (ctxOf m s x).loc) h' (.slice (some ⟨g, 0, none⟩) (n + 1) cap) d st → Calls Tryz.prog 109 #[.pointer (some ⟨q, 0, none⟩)] u fun e w' => e = .returned (.tuple #[]) ∧ SV B w' q (sF p m (ctxOf m s x).loc) (st.getD (n) dF).base (.slice (some ⟨g, 0, none⟩) (n + 1) cap) d (st.set (n) ⟨(st.getD (n) dF).op, (st.getD (n) dF).res, (st.getD (n) dF).base, true⟩) ∧ Kp q u w' (.slice (some ⟨g, 0, none⟩) (n + 1) cap) (.slice (some ⟨g, 0, none⟩) (n + 1) cap)) := fun u h' d hu => SWalks.die B q g (n) cap u (sF p m (ctxOf m s x).loc) h' d st hu (by omega)
  have h00 := Bd.fr 0 (by show 0 < st.length; omega)
  dsimp only at h00
  have kT : Hid (∀ u : World, SV B u q (sF p m (ctxOf m s x).loc) h (.slice (some ⟨g, 0, none⟩) (n + 1) cap) false st → Calls Tryz.prog 70 #[.pointer (some ⟨q, 0, none⟩), .int .i64 (st.getD 0 dF).res] u fun e w' => e = .returned (.tuple #[]) ∧ SV B w' q (sF p m (ctxOf m s x).loc) (tk (st.getD 0 dF).res.toNat h (st.getD (n) dF).base (st.getD (n) dF).dead).1 (.slice (some ⟨g, 0, none⟩) (n + 1) cap) (!(tk (st.getD 0 dF).res.toNat h (st.getD (n) dF).base (st.getD (n) dF).dead).2) st ∧ Kp q u w' (.slice (some ⟨g, 0, none⟩) (n + 1) cap) (.slice (some ⟨g, 0, none⟩) (n + 1) cap)) := fun u hu => by
    have := SPiles.take B q g (n) cap u (sF p m (ctxOf m s x).loc) h false st (st.getD 0 dF).res.toNat hu (by omega) (by omega) (by omega) (by omega) (by omega) (by omega)
    rw [Int.toNat_of_nonneg h00.2.2.1] at this
    exact this
  have e2 : Hid (PlainValid.leave (ctxOf m s x).own (h, st) = if (!(tk (st.getD 0 dF).res.toNat h (st.getD n dF).base (st.getD n dF).dead).2) = false then some ((st.getD n dF).base, (st.set n ⟨(st.getD n dF).op, (st.getD n dF).res, (st.getD n dF).base, true⟩)) else none) := by
    show _ = _
    unfold PlainValid.leave
    simp only [top_is hn, ← hn, Nat.add_sub_cancel, ← hown]
    cases (tk (st.getD 0 dF).res.toNat h (st.getD n dF).base (st.getD n dF).dead).2 <;> rfl
  generalize PlainValid.leave (ctxOf m s x).own (h, st) = XX at e2 ⊢
  have hc1 : Hid (∀ u : World, SV B u q (sF p m (ctxOf m s x).loc) h (.slice (some ⟨g, 0, none⟩) (n + 1) cap) false st → u.cell? ⟨q, 10, none⟩ = some (.slice (some ⟨g, 0, none⟩) (n + 1) cap) ∧ u.cell? ⟨g, 1, none⟩ = some (.int .i64 (st.getD 0 dF).res)) := fun u bu => ⟨bu.pile, by have := (bu.cells 0 (by omega)).2.1; simpa using this⟩
  obtain ⟨z0, z1⟩ := hc1.out _ b0'.out
  clear E Bd ht hn e1 t0 t1 t2 t3 h00 hown
  generalize tk (st.getD 0 dF).res.toNat h (st.getD n dF).base (st.getD n dF).dead = R at *
  obtain ⟨R1, R2⟩ := R
  generalize (st.getD 0 dF).res = c at *
  generalize (st.set n ⟨(st.getD n dF).op, (st.getD n dF).res, (st.getD n dF).base, true⟩) = st' at *
  generalize (st.getD n dF).base = fb at *
  dsimp only at *
  go_enter Tryz.func67, Tryz.ntmps67
  go_wp2_with (first | (go_at_call 70; refine (kT.out _ b0'.out).mono ?_; rintro e w1 ⟨rfl, b1, k1⟩; have b1' : Hid (SV B w1 q (sF p m (ctxOf m s x).loc) R1 (.slice (some ⟨g, 0, none⟩) (n + 1) cap) (!R2) st) := b1; clear b1) | (go_at_call 109; refine (kD.out _ _ _ b1'.out).mono ?_; rintro e w2 ⟨rfl, b2, k2⟩; have b2' : Hid (SV B w2 q (sF p m (ctxOf m s x).loc) fb (.slice (some ⟨g, 0, none⟩) (n + 1) cap) (!R2) st') := b2; clear b2))
  go_ret
  exact ⟨rfl, _, _, _, _, b2'.out, (kW.out.trans k1).trans k2, e2.out⟩
set_option maxRecDepth 20000 in
set_option maxHeartbeats 8000000 in
theorem flowNo12 (B q g n cap : Nat) (w : World) (p : P) (m : M) (s x : Int) (h : Int) (st : List Fr) (i b0 : Int) (E : SEnv B q g n cap w p m s x h false st 12 i) (Bd : Bnd 10000 (h, st)) (ht : PlainValid.there (ctxOf m s x) 12 i (n + 1) = false) :
    Calls Tryz.prog 67 #[.pointer (some ⟨q, 0, none⟩), .agg #[.int .i64 12, .int .i64 i, .int .i64 b0]] w fun e w' => e = .returned (.bool true) ∧ SRes B w q (sF p m (ctxOf m s x).loc) (.slice (some ⟨g, 0, none⟩) (n + 1) cap) (PlainValid.step (ctxOf m s x) 12 i (h, st)) w' := by
  have hn := E.b.len
  obtain ⟨t0, t1, t2, t3⟩ := Bd.top (by omega : st.length ≠ 0)
  have hlo := Bd.lo
  have hhi := Bd.hi
  simp only [top_is hn] at t0 t1 t2 t3
  dsimp only at hlo hhi
  have hnn := E.hn
  have b0' : Hid (SV B (w.alloc (.cells #[.int .i64 12, .int .i64 i, .int .i64 b0] 62)) q (sF p m (ctxOf m s x).loc) h (.slice (some ⟨g, 0, none⟩) (n + 1) cap) false st) := E.b.alloc _
  have hap : Hid (w.heap.size ≠ q ∧ some w.heap.size ≠ (Value.slice (some ⟨g, 0, none⟩) (n + 1) cap).ownBlock) := E.b.past (Nat.le_refl _)
  have hgq : g ≠ q := fun e => E.b.ne (by rw [e]; rfl)
  have kW : Hid (Kp q w (w.alloc (.cells #[.int .i64 12, .int .i64 i, .int .i64 b0] 62)) (.slice (some ⟨g, 0, none⟩) (n + 1) cap) (.slice (some ⟨g, 0, none⟩) (n + 1) cap)) := Kp.alloc q w _ _
  have e1 : Hid (PlainValid.step (ctxOf m s x) 12 i (h, st) = none) := by show _ = _; unfold PlainValid.step; dsimp only; rw [← hn, if_pos ht]
  rw [e1.out]
  obtain ⟨i0, i1⟩ := E.hi.idx (by omega)
  have hge : ((n + 1 : Nat) : Int) ≤ i := by
    have := of_decide_eq_false (show decide (i < ((n + 1 : Nat) : Int)) = false from ht)
    omega
  have kL : Hid (∀ u : World, SV B u q (sF p m (ctxOf m s x).loc) h (.slice (some ⟨g, 0, none⟩) (n + 1) cap) false st → Calls Tryz.prog 111 #[.pointer (some ⟨q, 0, none⟩), .int .i64 i] u fun e w' => e = .returned (.int .i64 (-1)) ∧ Below u.heap.size u w') := fun u hu => labelNo B q g n cap u (sF p m (ctxOf m s x).loc) h false st i hu i0 hge
  clear E Bd ht hn e1 t0 t1 t2 t3
  go_enter Tryz.func67, Tryz.ntmps67
  go_wp2_with (go_at_call 111; refine (kL.out _ b0'.out).mono ?_; rintro e w1 ⟨rfl, q1⟩; have b1 := b0'.out.later q1; have z1 := b1.isBad; have z2 := b1.frozen 11; have b1' : Hid (SV B w1 q (sF p m (ctxOf m s x).loc) h (.slice (some ⟨g, 0, none⟩) (n + 1) cap) false st) := b1; clear b1)
  go_ret
  exact ⟨rfl, true, _, _, _, b1'.out.setbad true, (kW.out.to q1).trans (Kp.set _ _ _), rfl⟩
set_option maxRecDepth 20000 in
set_option maxHeartbeats 8000000 in
theorem flowNo13 (B q g n cap : Nat) (w : World) (p : P) (m : M) (s x : Int) (h : Int) (st : List Fr) (i b0 : Int) (E : SEnv B q g n cap w p m s x h false st 13 i) (Bd : Bnd 10000 (h, st)) (ht : PlainValid.there (ctxOf m s x) 13 i (n + 1) = false) :
    Calls Tryz.prog 67 #[.pointer (some ⟨q, 0, none⟩), .agg #[.int .i64 13, .int .i64 i, .int .i64 b0]] w fun e w' => e = .returned (.bool true) ∧ SRes B w q (sF p m (ctxOf m s x).loc) (.slice (some ⟨g, 0, none⟩) (n + 1) cap) (PlainValid.step (ctxOf m s x) 13 i (h, st)) w' := by
  have hn := E.b.len
  obtain ⟨t0, t1, t2, t3⟩ := Bd.top (by omega : st.length ≠ 0)
  have hlo := Bd.lo
  have hhi := Bd.hi
  simp only [top_is hn] at t0 t1 t2 t3
  dsimp only at hlo hhi
  have hnn := E.hn
  have b0' : Hid (SV B (w.alloc (.cells #[.int .i64 13, .int .i64 i, .int .i64 b0] 62)) q (sF p m (ctxOf m s x).loc) h (.slice (some ⟨g, 0, none⟩) (n + 1) cap) false st) := E.b.alloc _
  have hap : Hid (w.heap.size ≠ q ∧ some w.heap.size ≠ (Value.slice (some ⟨g, 0, none⟩) (n + 1) cap).ownBlock) := E.b.past (Nat.le_refl _)
  have hgq : g ≠ q := fun e => E.b.ne (by rw [e]; rfl)
  have kW : Hid (Kp q w (w.alloc (.cells #[.int .i64 13, .int .i64 i, .int .i64 b0] 62)) (.slice (some ⟨g, 0, none⟩) (n + 1) cap) (.slice (some ⟨g, 0, none⟩) (n + 1) cap)) := Kp.alloc q w _ _
  have e1 : Hid (PlainValid.step (ctxOf m s x) 13 i (h, st) = none) := by show _ = _; unfold PlainValid.step; dsimp only; rw [← hn, if_pos ht]
  rw [e1.out]
  obtain ⟨i0, i1⟩ := E.hi.idx (by omega)
  have hge : ((n + 1 : Nat) : Int) ≤ i := by
    have := of_decide_eq_false (show decide (i < ((n + 1 : Nat) : Int)) = false from ht)
    omega
  have kL : Hid (∀ u : World, SV B u q (sF p m (ctxOf m s x).loc) h (.slice (some ⟨g, 0, none⟩) (n + 1) cap) false st → Calls Tryz.prog 111 #[.pointer (some ⟨q, 0, none⟩), .int .i64 i] u fun e w' => e = .returned (.int .i64 (-1)) ∧ Below u.heap.size u w') := fun u hu => labelNo B q g n cap u (sF p m (ctxOf m s x).loc) h false st i hu i0 hge
  clear E Bd ht hn e1 t0 t1 t2 t3
  go_enter Tryz.func67, Tryz.ntmps67
  go_wp2_with (go_at_call 111; refine (kL.out _ b0'.out).mono ?_; rintro e w1 ⟨rfl, q1⟩; have b1 := b0'.out.later q1; have z1 := b1.isBad; have z2 := b1.frozen 11; have b1' : Hid (SV B w1 q (sF p m (ctxOf m s x).loc) h (.slice (some ⟨g, 0, none⟩) (n + 1) cap) false st) := b1; clear b1)
  go_ret
  exact ⟨rfl, true, _, _, _, b1'.out.setbad true, (kW.out.to q1).trans (Kp.set _ _ _), rfl⟩
set_option maxRecDepth 20000 in
set_option maxHeartbeats 8000000 in
theorem flow12 (B q g j k cap : Nat) (w : World) (p : P) (m : M) (s x : Int) (h : Int) (st : List Fr) (b0 : Int) (E : SEnv B q g (j + k) cap w p m s x h false st 12 (k : Int)) (Bd : Bnd 10000 (h, st)) (ht : PlainValid.there (ctxOf m s x) 12 (k : Int) (j + k + 1) = true) :
    Calls Tryz.prog 67 #[.pointer (some ⟨q, 0, none⟩), .agg #[.int .i64 12, .int .i64 (k : Int), .int .i64 b0]] w fun e w' => e = .returned (.bool true) ∧ SRes B w q (sF p m (ctxOf m s x).loc) (.slice (some ⟨g, 0, none⟩) (j + k + 1) cap) (PlainValid.step (ctxOf m s x) 12 (k : Int) (h, st)) w' := by
  have hn := E.b.len
  obtain ⟨t0, t1, t2, t3⟩ := Bd.top (by omega : st.length ≠ 0)
  have hlo := Bd.lo
  have hhi := Bd.hi
  simp only [top_is hn] at t0 t1 t2 t3
  dsimp only at hlo hhi
  have hnn := E.hn
  have b0' : Hid (SV B (w.alloc (.cells #[.int .i64 12, .int .i64 (k : Int), .int .i64 b0] 62)) q (sF p m (ctxOf m s x).loc) h (.slice (some ⟨g, 0, none⟩) (j + k + 1) cap) false st) := E.b.alloc _
  have hap : Hid (w.heap.size ≠ q ∧ some w.heap.size ≠ (Value.slice (some ⟨g, 0, none⟩) (j + k + 1) cap).ownBlock) := E.b.past (Nat.le_refl _)
  have hgq : g ≠ q := fun e => E.b.ne (by rw [e]; rfl)
  have kW : Hid (Kp q w (w.alloc (.cells #[.int .i64 12, .int .i64 (k : Int), .int .i64 b0] 62)) (.slice (some ⟨g, 0, none⟩) (j + k + 1) cap) (.slice (some ⟨g, 0, none⟩) (j + k + 1) cap)) := Kp.alloc q w _ _
  obtain ⟨hb0, hb1⟩ := brT_bnd Bd (j := j) (by show j < st.length; omega)
  dsimp only at hb0 hb1
  have e1 : Hid (PlainValid.step (ctxOf m s x) 12 (k : Int) (h, st) = PlainValid.leave (brT (st.getD j dF)) (h, st)) := by show _ = _; unfold PlainValid.step; dsimp only; rw [← hn, if_neg (by rw [ht]; decide), if_neg (by omega), if_neg (by omega), if_neg (by omega), if_neg (by omega), if_pos rfl, show j + k + 1 - 1 - ((k : Int)).toNat = j by omega]
  rw [e1.out]
  have kL : Hid (∀ u : World, SV B u q (sF p m (ctxOf m s x).loc) h (.slice (some ⟨g, 0, none⟩) (j + k + 1) cap) false st → Calls Tryz.prog 111 #[.pointer (some ⟨q, 0, none⟩), .int .i64 (k : Int)] u fun e w' => e = .returned (.int .i64 (brT (st.getD j dF))) ∧ Below u.heap.size u w') := fun u hu => label B q g j k cap u (sF p m (ctxOf m s x).loc) h false st hu (by omega)
  have kD : Hid (∀ (u : World) (h' : Int) (d : Bool), SV B u q (sF p m (ctxOf m s x).loc) h' (.slice (some ⟨g, 0, none⟩) (j + k + 1) cap) d st → Calls Tryz.prog 109 #[.pointer (some ⟨q, 0, none⟩)] u fun e w' => e = .returned (.tuple #[]) ∧ SV B w' q (sF p m (ctxOf m s x).loc) (st.getD (j + k) dF).base (.slice (some ⟨g, 0, none⟩) (j + k + 1) cap) d (st.set (j + k) ⟨(st.getD (j + k) dF).op, (st.getD (j + k) dF).res, (st.getD (j + k) dF).base, true⟩) ∧ Kp q u w' (.slice (some ⟨g, 0, none⟩) (j + k + 1) cap) (.slice (some ⟨g, 0, none⟩) (j + k + 1) cap)) := fun u h' d hu => SWalks.die B q g (j + k) cap u (sF p m (ctxOf m s x).loc) h' d st hu (by omega)
  have kT : Hid (∀ u : World, SV B u q (sF p m (ctxOf m s x).loc) h (.slice (some ⟨g, 0, none⟩) (j + k + 1) cap) false st → Calls Tryz.prog 70 #[.pointer (some ⟨q, 0, none⟩), .int .i64 (brT (st.getD j dF))] u fun e w' => e = .returned (.tuple #[]) ∧ SV B w' q (sF p m (ctxOf m s x).loc) (tk (brT (st.getD j dF)).toNat h (st.getD (j + k) dF).base (st.getD (j + k) dF).dead).1 (.slice (some ⟨g, 0, none⟩) (j + k + 1) cap) (!(tk (brT (st.getD j dF)).toNat h (st.getD (j + k) dF).base (st.getD (j + k) dF).dead).2) st ∧ Kp q u w' (.slice (some ⟨g, 0, none⟩) (j + k + 1) cap) (.slice (some ⟨g, 0, none⟩) (j + k + 1) cap)) := fun u hu => by
    have := SPiles.take B q g (j + k) cap u (sF p m (ctxOf m s x).loc) h false st (brT (st.getD j dF)).toNat hu (by omega) (by omega) (by omega) (by omega) (by omega) (by omega)
    rw [Int.toNat_of_nonneg hb0] at this
    exact this
  have e2 : Hid (PlainValid.leave (brT (st.getD j dF)) (h, st) = if (!(tk (brT (st.getD j dF)).toNat h (st.getD (j + k) dF).base (st.getD (j + k) dF).dead).2) = false then some ((st.getD (j + k) dF).base, (st.set (j + k) ⟨(st.getD (j + k) dF).op, (st.getD (j + k) dF).res, (st.getD (j + k) dF).base, true⟩)) else none) := by
    show _ = _
    unfold PlainValid.leave
    simp only [top_is hn, ← hn, Nat.add_sub_cancel]
    cases (tk (brT (st.getD j dF)).toNat h (st.getD (j + k) dF).base (st.getD (j + k) dF).dead).2 <;> rfl
  generalize PlainValid.leave (brT (st.getD j dF)) (h, st) = XX at e2 ⊢
  clear E Bd ht hn e1 t0 t1 t2 t3
  generalize tk (brT (st.getD j dF)).toNat h (st.getD (j + k) dF).base (st.getD (j + k) dF).dead = R at *
  obtain ⟨R1, R2⟩ := R
  generalize brT (st.getD j dF) = c at *
  generalize (st.set (j + k) ⟨(st.getD (j + k) dF).op, (st.getD (j + k) dF).res, (st.getD (j + k) dF).base, true⟩) = st' at *
  generalize (st.getD (j + k) dF).base = fb at *
  dsimp only at *
  have hc0 : decide (c < 0) = false := decide_eq_false (by omega)
  go_enter Tryz.func67, Tryz.ntmps67
  go_wp2_with (first | (go_at_call 111; refine (kL.out _ b0'.out).mono ?_; rintro e w1 ⟨rfl, q1⟩; have b1' : Hid (SV B w1 q (sF p m (ctxOf m s x).loc) h (.slice (some ⟨g, 0, none⟩) (j + k + 1) cap) false st) := b0'.out.later q1) | (go_at_call 70; refine (kT.out _ b1'.out).mono ?_; rintro e w2 ⟨rfl, b2, k2⟩; have b2' : Hid (SV B w2 q (sF p m (ctxOf m s x).loc) R1 (.slice (some ⟨g, 0, none⟩) (j + k + 1) cap) (!R2) st) := b2; clear b2) | (go_at_call 109; refine (kD.out _ _ _ b2'.out).mono ?_; rintro e w3 ⟨rfl, b3, k3⟩; have b3' : Hid (SV B w3 q (sF p m (ctxOf m s x).loc) fb (.slice (some ⟨g, 0, none⟩) (j + k + 1) cap) (!R2) st') := b3; clear b3))
  go_ret
  exact ⟨rfl, _, _, _, _, b3'.out, ((kW.out.to q1).trans k2).trans k3, e2.out⟩
set_option maxRecDepth 20000 in
set_option maxHeartbeats 8000000 in
theorem flow13 (B q g j k cap : Nat) (w : World) (p : P) (m : M) (s x : Int) (h : Int) (st : List Fr) (b0 : Int) (E : SEnv B q g (j + k) cap w p m s x h false st 13 (k : Int)) (Bd : Bnd 10000 (h, st)) (ht : PlainValid.there (ctxOf m s x) 13 (k : Int) (j + k + 1) = true) :
    Calls Tryz.prog 67 #[.pointer (some ⟨q, 0, none⟩), .agg #[.int .i64 13, .int .i64 (k : Int), .int .i64 b0]] w fun e w' => e = .returned (.bool true) ∧ SRes B w q (sF p m (ctxOf m s x).loc) (.slice (some ⟨g, 0, none⟩) (j + k + 1) cap) (PlainValid.step (ctxOf m s x) 13 (k : Int) (h, st)) w' := by
  have hn := E.b.len
  obtain ⟨t0, t1, t2, t3⟩ := Bd.top (by omega : st.length ≠ 0)
  have hlo := Bd.lo
  have hhi := Bd.hi
  simp only [top_is hn] at t0 t1 t2 t3
  dsimp only at hlo hhi
  have hnn := E.hn
  have b0' : Hid (SV B (w.alloc (.cells #[.int .i64 13, .int .i64 (k : Int), .int .i64 b0] 62)) q (sF p m (ctxOf m s x).loc) h (.slice (some ⟨g, 0, none⟩) (j + k + 1) cap) false st) := E.b.alloc _
  have hap : Hid (w.heap.size ≠ q ∧ some w.heap.size ≠ (Value.slice (some ⟨g, 0, none⟩) (j + k + 1) cap).ownBlock) := E.b.past (Nat.le_refl _)
  have hgq : g ≠ q := fun e => E.b.ne (by rw [e]; rfl)
  have kW : Hid (Kp q w (w.alloc (.cells #[.int .i64 13, .int .i64 (k : Int), .int .i64 b0] 62)) (.slice (some ⟨g, 0, none⟩) (j + k + 1) cap) (.slice (some ⟨g, 0, none⟩) (j + k + 1) cap)) := Kp.alloc q w _ _
  obtain ⟨hb0, hb1⟩ := brT_bnd Bd (j := j) (by show j < st.length; omega)
  dsimp only at hb0 hb1
  have e1 : Hid (PlainValid.step (ctxOf m s x) 13 (k : Int) (h, st) = brIf (brT (st.getD j dF)) (h, st)) := by show _ = _; unfold PlainValid.step; dsimp only; rw [← hn, if_neg (by rw [ht]; decide), if_neg (by omega), if_neg (by omega), if_neg (by omega), if_neg (by omega), if_neg (by omega), if_pos rfl, show j + k + 1 - 1 - ((k : Int)).toNat = j by omega]
  rw [e1.out]
  have kL : Hid (∀ u : World, SV B u q (sF p m (ctxOf m s x).loc) h (.slice (some ⟨g, 0, none⟩) (j + k + 1) cap) false st → Calls Tryz.prog 111 #[.pointer (some ⟨q, 0, none⟩), .int .i64 (k : Int)] u fun e w' => e = .returned (.int .i64 (brT (st.getD j dF))) ∧ Below u.heap.size u w') := fun u hu => label B q g j k cap u (sF p m (ctxOf m s x).loc) h false st hu (by omega)
  have kT : Hid (∀ u : World, SV B u q (sF p m (ctxOf m s x).loc) h (.slice (some ⟨g, 0, none⟩) (j + k + 1) cap) false st → Calls Tryz.prog 70 #[.pointer (some ⟨q, 0, none⟩), .int .i64 (1 + brT (st.getD j dF))] u fun e w' => e = .returned (.tuple #[]) ∧ SV B w' q (sF p m (ctxOf m s x).loc) (tk (1 + (brT (st.getD j dF)).toNat) h (st.getD (j + k) dF).base (st.getD (j + k) dF).dead).1 (.slice (some ⟨g, 0, none⟩) (j + k + 1) cap) (!(tk (1 + (brT (st.getD j dF)).toNat) h (st.getD (j + k) dF).base (st.getD (j + k) dF).dead).2) st ∧ Kp q u w' (.slice (some ⟨g, 0, none⟩) (j + k + 1) cap) (.slice (some ⟨g, 0, none⟩) (j + k + 1) cap)) := fun u hu => by
    have := SPiles.take B q g (j + k) cap u (sF p m (ctxOf m s x).loc) h false st (1 + (brT (st.getD j dF)).toNat) hu (by omega) (by omega) (by omega) (by omega) (by omega) (by omega)
    rw [show ((1 + (brT (st.getD j dF)).toNat : Nat) : Int) = 1 + brT (st.getD j dF) by omega] at this
    exact this
  have htk := tk_le (1 + (brT (st.getD j dF)).toNat) h (st.getD (j + k) dF).base (st.getD (j + k) dF).dead
  have hl1 : -100000 ≤ (tk (1 + (brT (st.getD j dF)).toNat) h (st.getD (j + k) dF).base (st.getD (j + k) dF).dead).1 := by
    by_cases e : (st.getD (j + k) dF).base ≤ h
    · have := htk.2.1 e; omega
    · have := htk.2.2 (by omega); omega
  have hl2 : (tk (1 + (brT (st.getD j dF)).toNat) h (st.getD (j + k) dF).base (st.getD (j + k) dF).dead).1 ≤ 1000000 := by have := htk.1; omega
  have e2 : Hid (brIf (brT (st.getD j dF)) (h, st) = if (!(tk (1 + (brT (st.getD j dF)).toNat) h (st.getD (j + k) dF).base (st.getD (j + k) dF).dead).2) = false then some ((tk (1 + (brT (st.getD j dF)).toNat) h (st.getD (j + k) dF).base (st.getD (j + k) dF).dead).1 + brT (st.getD j dF), st) else none) := by
    show _ = _
    rw [tk_add]
    unfold brIf exch
    simp only [top_is hn, show (1 : Int).toNat = 1 from rfl]
    cases h5 : (tk 1 h (st.getD (j + k) dF).base (st.getD (j + k) dF).dead).2 with
    | false => simp
    | true =>
      simp only [if_true, Option.bind_some, Int.add_zero, top_is hn]
      cases (tk (brT (st.getD j dF)).toNat (tk 1 h (st.getD (j + k) dF).base (st.getD (j + k) dF).dead).1 (st.getD (j + k) dF).base (st.getD (j + k) dF).dead).2 <;> simp
  generalize brIf (brT (st.getD j dF)) (h, st) = XX at e2 ⊢
  clear E Bd ht hn e1 t0 t1 t2 t3 htk
  generalize tk (1 + (brT (st.getD j dF)).toNat) h (st.getD (j + k) dF).base (st.getD (j + k) dF).dead = R at *
  obtain ⟨R1, R2⟩ := R
  generalize brT (st.getD j dF) = c at *
  dsimp only at *
  have hc0 : decide (c < 0) = false := decide_eq_false (by omega)
  go_enter Tryz.func67, Tryz.ntmps67
  go_wp2_with (first | (go_at_call 111; refine (kL.out _ b0'.out).mono ?_; rintro e w1 ⟨rfl, q1⟩; have b1' : Hid (SV B w1 q (sF p m (ctxOf m s x).loc) h (.slice (some ⟨g, 0, none⟩) (j + k + 1) cap) false st) := b0'.out.later q1) | (go_at_call 70; refine (kT.out _ b1'.out).mono ?_; rintro e w2 ⟨rfl, b2, k2⟩; have z1 := b2.hgt; have z2 := b2.frozen 9; have b2' : Hid (SV B w2 q (sF p m (ctxOf m s x).loc) R1 (.slice (some ⟨g, 0, none⟩) (j + k + 1) cap) (!R2) st) := b2; clear b2))
  go_ret
  exact ⟨rfl, _, _, _, _, b2'.out.seth (R1 + c), ((kW.out.to q1).trans k2).trans (Kp.set _ _ _), e2.out⟩
set_option maxRecDepth 20000 in
set_option maxHeartbeats 8000000 in
theorem flowElse (q : Nat) (w : World) (o i b0 : Int) (ho : o ≠ 0 ∧ o ≠ 2 ∧ o ≠ 3 ∧ o ≠ 4 ∧ o ≠ 5 ∧ o ≠ 11 ∧ o ≠ 12 ∧ o ≠ 13 ∧ o ≠ 15) :
    Calls Tryz.prog 67 #[.pointer (some ⟨q, 0, none⟩), .agg #[.int .i64 o, .int .i64 i, .int .i64 b0]] w fun e w' => e = .returned (.bool false) ∧ Below w.heap.size w w' := by
  have n0 : (o == 0) = false := by simpa using (show o ≠ 0 by omega)
  have n2 : (o == 2) = false := by simpa using (show o ≠ 2 by omega)
  have n3 : (o == 3) = false := by simpa using (show o ≠ 3 by omega)
  have n4 : (o == 4) = false := by simpa using (show o ≠ 4 by omega)
  have n5 : (o == 5) = false := by simpa using (show o ≠ 5 by omega)
  have n11 : (o == 11) = false := by simpa using (show o ≠ 11 by omega)
  have n12 : (o == 12) = false := by simpa using (show o ≠ 12 by omega)
  have n13 : (o == 13) = false := by simpa using (show o ≠ 13 by omega)
  have n15 : (o == 15) = false := by simpa using (show o ≠ 15 by omega)
  clear ho
  go_enter Tryz.func67, Tryz.ntmps67
  go_wp2_with fail
  go_ret
  exact ⟨rfl, (Below.refl _ _).alloc (Nat.le_refl _) _⟩
end Go.Proofs.YtdaffcbamnpjfaaGreatDoor.SFlow
