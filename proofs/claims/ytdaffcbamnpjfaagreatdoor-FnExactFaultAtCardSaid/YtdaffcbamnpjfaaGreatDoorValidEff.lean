/-
  What an instruction takes and puts, as the program answers it when it is asked. (Written by my valideff.py.)
-/
import Derived.Test.YtdaffcbamnpjfaaGreatDoorValidIns
namespace Go.Proofs.YtdaffcbamnpjfaaGreatDoor.ValidEff
open Go.RowKit PlainOps NameCalls PlainNum NumCalls InsCalls InsImpl PlainShape InsMem FormCalls ModMem FormImpl PlainValid ValidCtx ValidMod Piles Walks ValidIns
set_option maxHeartbeats 4000000 in
theorem eff0 (q : Nat) (w : World) (c : Ctx) (o i b0 : Int) (ho : o = 1 ∨ o = 2 ∨ o = 3) :
    Calls Tryz.prog 121 #[.pointer (some ⟨q, 0, none⟩), .agg #[.int .i64 o, .int .i64 i, .int .i64 b0]] w fun e w' => e = .returned (.agg #[.int .i64 (effT c o i), .int .i64 (effP c o i)]) ∧ Below w.heap.size w w' := by
  have e1 : Hid (effT c o i = 0) := by rcases ho with rfl | rfl | rfl <;> rfl
  have e2 : Hid (effP c o i = 0) := by rcases ho with rfl | rfl | rfl <;> rfl
  rw [e1.out, e2.out]
  clear e1 e2
  rcases ho with rfl | rfl | rfl
  all_goals
    go_enter Tryz.func121, Tryz.ntmps121
    go_wp2_with fail
    refine bodyPost_ret ?_ rfl ⟨rfl, ?_⟩
    · simp [results, go_sem]
    · first
        | exact ((((Below.refl _ _).alloc (Nat.le_refl _) _).alloc (by simp) _).setCell (p := ⟨w.heap.size + 1, 0, none⟩) (by simp) _).setCell (p := ⟨w.heap.size + 1, 1, none⟩) (by simp) _
        | exact (((Below.refl _ _).alloc (Nat.le_refl _) _).alloc (by simp) _)
set_option maxHeartbeats 4000000 in
theorem eff1 (q : Nat) (w : World) (c : Ctx) (o i b0 : Int) (ho : o = 32 ∨ o = 35 ∨ o = 63 ∨ o = 65) :
    Calls Tryz.prog 121 #[.pointer (some ⟨q, 0, none⟩), .agg #[.int .i64 o, .int .i64 i, .int .i64 b0]] w fun e w' => e = .returned (.agg #[.int .i64 (effT c o i), .int .i64 (effP c o i)]) ∧ Below w.heap.size w w' := by
  have e1 : Hid (effT c o i = 0) := by rcases ho with rfl | rfl | rfl | rfl <;> rfl
  have e2 : Hid (effP c o i = 1) := by rcases ho with rfl | rfl | rfl | rfl <;> rfl
  rw [e1.out, e2.out]
  clear e1 e2
  rcases ho with rfl | rfl | rfl | rfl
  all_goals
    go_enter Tryz.func121, Tryz.ntmps121
    go_wp2_with fail
    refine bodyPost_ret ?_ rfl ⟨rfl, ?_⟩
    · simp [results, go_sem]
    · first
        | exact ((((Below.refl _ _).alloc (Nat.le_refl _) _).alloc (by simp) _).setCell (p := ⟨w.heap.size + 1, 0, none⟩) (by simp) _).setCell (p := ⟨w.heap.size + 1, 1, none⟩) (by simp) _
        | exact (((Below.refl _ _).alloc (Nat.le_refl _) _).alloc (by simp) _)
set_option maxHeartbeats 4000000 in
theorem eff2 (q : Nat) (w : World) (c : Ctx) (o i b0 : Int) (ho : o = 4 ∨ o = 26 ∨ o = 33 ∨ o = 36) :
    Calls Tryz.prog 121 #[.pointer (some ⟨q, 0, none⟩), .agg #[.int .i64 o, .int .i64 i, .int .i64 b0]] w fun e w' => e = .returned (.agg #[.int .i64 (effT c o i), .int .i64 (effP c o i)]) ∧ Below w.heap.size w w' := by
  have e1 : Hid (effT c o i = 1) := by rcases ho with rfl | rfl | rfl | rfl <;> rfl
  have e2 : Hid (effP c o i = 0) := by rcases ho with rfl | rfl | rfl | rfl <;> rfl
  rw [e1.out, e2.out]
  clear e1 e2
  rcases ho with rfl | rfl | rfl | rfl
  all_goals
    go_enter Tryz.func121, Tryz.ntmps121
    go_wp2_with fail
    refine bodyPost_ret ?_ rfl ⟨rfl, ?_⟩
    · simp [results, go_sem]
    · first
        | exact ((((Below.refl _ _).alloc (Nat.le_refl _) _).alloc (by simp) _).setCell (p := ⟨w.heap.size + 1, 0, none⟩) (by simp) _).setCell (p := ⟨w.heap.size + 1, 1, none⟩) (by simp) _
        | exact (((Below.refl _ _).alloc (Nat.le_refl _) _).alloc (by simp) _)
set_option maxHeartbeats 4000000 in
theorem eff3 (q : Nat) (w : World) (c : Ctx) (o i b0 : Int) (ho : o = 54) :
    Calls Tryz.prog 121 #[.pointer (some ⟨q, 0, none⟩), .agg #[.int .i64 o, .int .i64 i, .int .i64 b0]] w fun e w' => e = .returned (.agg #[.int .i64 (effT c o i), .int .i64 (effP c o i)]) ∧ Below w.heap.size w w' := by
  have e1 : Hid (effT c o i = 2) := by rcases ho with rfl <;> rfl
  have e2 : Hid (effP c o i = 0) := by rcases ho with rfl <;> rfl
  rw [e1.out, e2.out]
  clear e1 e2
  rcases ho with rfl
  all_goals
    go_enter Tryz.func121, Tryz.ntmps121
    go_wp2_with fail
    refine bodyPost_ret ?_ rfl ⟨rfl, ?_⟩
    · simp [results, go_sem]
    · first
        | exact ((((Below.refl _ _).alloc (Nat.le_refl _) _).alloc (by simp) _).setCell (p := ⟨w.heap.size + 1, 0, none⟩) (by simp) _).setCell (p := ⟨w.heap.size + 1, 1, none⟩) (by simp) _
        | exact (((Below.refl _ _).alloc (Nat.le_refl _) _).alloc (by simp) _)
set_option maxHeartbeats 4000000 in
theorem eff4 (q : Nat) (w : World) (c : Ctx) (o i b0 : Int) (ho : o = 27) :
    Calls Tryz.prog 121 #[.pointer (some ⟨q, 0, none⟩), .agg #[.int .i64 o, .int .i64 i, .int .i64 b0]] w fun e w' => e = .returned (.agg #[.int .i64 (effT c o i), .int .i64 (effP c o i)]) ∧ Below w.heap.size w w' := by
  have e1 : Hid (effT c o i = 3) := by rcases ho with rfl <;> rfl
  have e2 : Hid (effP c o i = 1) := by rcases ho with rfl <;> rfl
  rw [e1.out, e2.out]
  clear e1 e2
  rcases ho with rfl
  all_goals
    go_enter Tryz.func121, Tryz.ntmps121
    go_wp2_with fail
    refine bodyPost_ret ?_ rfl ⟨rfl, ?_⟩
    · simp [results, go_sem]
    · first
        | exact ((((Below.refl _ _).alloc (Nat.le_refl _) _).alloc (by simp) _).setCell (p := ⟨w.heap.size + 1, 0, none⟩) (by simp) _).setCell (p := ⟨w.heap.size + 1, 1, none⟩) (by simp) _
        | exact (((Below.refl _ _).alloc (Nat.le_refl _) _).alloc (by simp) _)
set_option maxHeartbeats 4000000 in
theorem eff5 (q : Nat) (w : World) (c : Ctx) (o i b0 : Int) (ho : o = 34 ∨ o = 40 ∨ o = 64 ∨ o = 69) :
    Calls Tryz.prog 121 #[.pointer (some ⟨q, 0, none⟩), .agg #[.int .i64 o, .int .i64 i, .int .i64 b0]] w fun e w' => e = .returned (.agg #[.int .i64 (effT c o i), .int .i64 (effP c o i)]) ∧ Below w.heap.size w w' := by
  have e1 : Hid (effT c o i = 1) := by rcases ho with rfl | rfl | rfl | rfl <;> rfl
  have e2 : Hid (effP c o i = 1) := by rcases ho with rfl | rfl | rfl | rfl <;> rfl
  rw [e1.out, e2.out]
  clear e1 e2
  rcases ho with rfl | rfl | rfl | rfl
  all_goals
    go_enter Tryz.func121, Tryz.ntmps121
    go_wp2_with fail
    refine bodyPost_ret ?_ rfl ⟨rfl, ?_⟩
    · simp [results, go_sem]
    · first
        | exact ((((Below.refl _ _).alloc (Nat.le_refl _) _).alloc (by simp) _).setCell (p := ⟨w.heap.size + 1, 0, none⟩) (by simp) _).setCell (p := ⟨w.heap.size + 1, 1, none⟩) (by simp) _
        | exact (((Below.refl _ _).alloc (Nat.le_refl _) _).alloc (by simp) _)
set_option maxRecDepth 20000 in
set_option maxHeartbeats 4000000 in
theorem effElse (q : Nat) (w : World) (c : Ctx) (o i b0 : Int) (ho : o ≠ 1 ∧ o ≠ 2 ∧ o ≠ 3 ∧ o ≠ 16 ∧ o ≠ 32 ∧ o ≠ 35 ∧ o ≠ 63 ∧ o ≠ 65 ∧ o ≠ 4 ∧ o ≠ 26 ∧ o ≠ 33 ∧ o ≠ 36 ∧ o ≠ 54 ∧ o ≠ 27 ∧ o ≠ 34 ∧ o ≠ 40 ∧ o ≠ 64 ∧ o ≠ 69) :
    Calls Tryz.prog 121 #[.pointer (some ⟨q, 0, none⟩), .agg #[.int .i64 o, .int .i64 i, .int .i64 b0]] w fun e w' => e = .returned (.agg #[.int .i64 (effT c o i), .int .i64 (effP c o i)]) ∧ Below w.heap.size w w' := by
  have e1 : Hid (effT c o i = if 103 ≤ o ∧ o ≤ 105 then 1 else 2) := by
    show _ = _
    unfold effT
    rw [if_neg (by omega), if_neg (by omega), if_neg (by omega), if_neg (by omega), if_neg (by omega), if_neg (by omega), if_neg (by omega)]
  have e2 : Hid (effP c o i = 1) := by
    show _ = _
    unfold effP
    rw [if_neg (by omega), if_neg (by omega), if_neg (by omega), if_neg (by omega), if_neg (by omega), if_neg (by omega)]
    split <;> rfl
  rw [e1.out, e2.out]
  clear e1 e2
  have n1 : (o == 1) = false := by simpa using (show o ≠ 1 by omega)
  have n2 : (o == 2) = false := by simpa using (show o ≠ 2 by omega)
  have n3 : (o == 3) = false := by simpa using (show o ≠ 3 by omega)
  have n16 : (o == 16) = false := by simpa using (show o ≠ 16 by omega)
  have n32 : (o == 32) = false := by simpa using (show o ≠ 32 by omega)
  have n35 : (o == 35) = false := by simpa using (show o ≠ 35 by omega)
  have n63 : (o == 63) = false := by simpa using (show o ≠ 63 by omega)
  have n65 : (o == 65) = false := by simpa using (show o ≠ 65 by omega)
  have n4 : (o == 4) = false := by simpa using (show o ≠ 4 by omega)
  have n26 : (o == 26) = false := by simpa using (show o ≠ 26 by omega)
  have n33 : (o == 33) = false := by simpa using (show o ≠ 33 by omega)
  have n36 : (o == 36) = false := by simpa using (show o ≠ 36 by omega)
  have n54 : (o == 54) = false := by simpa using (show o ≠ 54 by omega)
  have n27 : (o == 27) = false := by simpa using (show o ≠ 27 by omega)
  have n34 : (o == 34) = false := by simpa using (show o ≠ 34 by omega)
  have n40 : (o == 40) = false := by simpa using (show o ≠ 40 by omega)
  have n64 : (o == 64) = false := by simpa using (show o ≠ 64 by omega)
  have n69 : (o == 69) = false := by simpa using (show o ≠ 69 by omega)
  clear ho
  have kW : Hid (∀ u : World, Calls Tryz.prog 77 #[.int .i64 o, .int .i64 103, .int .i64 105] u fun e w' => e = .returned (.bool (wi o 103 105)) ∧ u = w') := fun u => impl_within o 103 105 u
  by_cases hb : 103 ≤ o ∧ o ≤ 105
  · rw [if_pos hb]
    rw [wi_yes hb] at kW
    clear hb
    go_enter Tryz.func121, Tryz.ntmps121
    go_wp2_with (go_at_call 77; refine (kW.out _).mono ?_; rintro e w1 ⟨rfl, rfl⟩)
    refine bodyPost_ret ?_ rfl ⟨rfl, ?_⟩
    · simp [results, go_sem]
    · first
        | exact ((((Below.refl _ _).alloc (Nat.le_refl _) _).alloc (by simp) _).setCell (p := ⟨w.heap.size + 1, 0, none⟩) (by simp) _).setCell (p := ⟨w.heap.size + 1, 1, none⟩) (by simp) _
        | exact (((Below.refl _ _).alloc (Nat.le_refl _) _).alloc (by simp) _)
  · rw [if_neg hb]
    rw [wi_no hb] at kW
    clear hb
    go_enter Tryz.func121, Tryz.ntmps121
    go_wp2_with (go_at_call 77; refine (kW.out _).mono ?_; rintro e w1 ⟨rfl, rfl⟩)
    refine bodyPost_ret ?_ rfl ⟨rfl, ?_⟩
    · simp [results, go_sem]
    · first
        | exact ((((Below.refl _ _).alloc (Nat.le_refl _) _).alloc (by simp) _).setCell (p := ⟨w.heap.size + 1, 0, none⟩) (by simp) _).setCell (p := ⟨w.heap.size + 1, 1, none⟩) (by simp) _
        | exact (((Below.refl _ _).alloc (Nat.le_refl _) _).alloc (by simp) _)
theorem r2_made (w : World) (v0 v1 : Value) (t : TypeId) : (w.alloc (.cells #[v0, v1] t)).cell? ⟨w.heap.size, 0, none⟩ = some v0 ∧ (w.alloc (.cells #[v0, v1] t)).cell? ⟨w.heap.size, 1, none⟩ = some v1 ∧ ∀ j, (w.alloc (.cells #[v0, v1] t)).frozen? ⟨w.heap.size, j, none⟩ = false := ⟨by simp, by simp, fun j => (World.rowIs_alloc w #[v0, v1] t (fun j => if j = 0 then v0 else v1) (fun i hi => by
    match i, hi with
    | 0, _ => rfl
    | 1, _ => rfl)).frozen j⟩
set_option maxRecDepth 20000 in
set_option maxHeartbeats 4000000 in
theorem effCall (q g n cap : Nat) (w : World) (p : P) (m : M) (s x : Int) (a : Option Addr) (nb cb : Nat) (h : Int) (st : List Fr) (o i b0 : Int) (E : Env q g n cap w p m s x a nb cb h st o i) (ho : o = 16) (ht : i < m.imps.length + m.fns.length) :
    Calls Tryz.prog 121 #[.pointer (some ⟨q, 0, none⟩), .agg #[.int .i64 o, .int .i64 i, .int .i64 b0]] w fun e w' => e = .returned (.agg #[.int .i64 (effT (ctxOf m s x) o i), .int .i64 (effP (ctxOf m s x) o i)]) ∧ Below w.heap.size w w' := by
  obtain ⟨b, hR, f, h0, h1, hx, hn, hi⟩ := E
  subst ho
  obtain ⟨hi0, hi1⟩ := hi.idx (by omega)
  obtain ⟨j, rfl⟩ : ∃ j : Nat, i = j := ⟨i.toNat, by omega⟩
  have hj : j < m.imps.length + m.fns.length := by omega
  have e1 : Hid (effT (ctxOf m s x) 16 (j : Int) = MemSig.f0At m.sigs (sgI m j).toNat) := rfl
  have e2 : Hid (effP (ctxOf m s x) 16 (j : Int) = MemSig.f1At m.sigs (sgI m j).toNat) := rfl
  rw [e1.out, e2.out]
  clear e1 e2
  obtain ⟨d0, d1, d2, d3, d4, d5, d6, d7, _, _, _⟩ := fixed b
  have hq := b.lt
  have kS : Hid (∀ u : World, Below w.heap.size w u → Calls Tryz.prog 143 #[.agg #[.slice p.a0 m.sigs.length p.c0, .slice p.a1 m.imps.length p.c1, .slice p.a2 m.fns.length p.c2, .int .i64 m.pages, .int .i64 m.most, .slice p.a3 m.gls.length p.c3, .slice p.a4 m.exs.length p.c4, .slice p.a5 m.dat.length p.c5], .int .i64 (j : Int)] u fun e w' => e = .returned (.agg #[.int .i64 (MemSig.f0At m.sigs (sgI m j).toNat), .int .i64 (MemSig.f1At m.sigs (sgI m j).toNat)]) ∧ Below u.heap.size u w') := fun u hu => sigAt p m u j (hR.later hu) f hj
  have hcs : Hid (∀ u : World, Below ((w.alloc (.cells #[.int .i64 16, .int .i64 (j : Int), .int .i64 b0] 62)).alloc (.cells #[.int .i64 0, .int .i64 0] 119)).heap.size ((w.alloc (.cells #[.int .i64 16, .int .i64 (j : Int), .int .i64 b0] 62)).alloc (.cells #[.int .i64 0, .int .i64 0] 119)) u → u.cell? ⟨q, 0, none⟩ = some (.slice p.a0 m.sigs.length p.c0) ∧ u.cell? ⟨q, 1, none⟩ = some (.slice p.a1 m.imps.length p.c1) ∧ u.cell? ⟨q, 2, none⟩ = some (.slice p.a2 m.fns.length p.c2) ∧ u.cell? ⟨q, 3, none⟩ = some (.int .i64 m.pages) ∧ u.cell? ⟨q, 4, none⟩ = some (.int .i64 m.most) ∧ u.cell? ⟨q, 5, none⟩ = some (.slice p.a3 m.gls.length p.c3) ∧ u.cell? ⟨q, 6, none⟩ = some (.slice p.a4 m.exs.length p.c4) ∧ u.cell? ⟨q, 7, none⟩ = some (.slice p.a5 m.dat.length p.c5) ∧ u.cell? ⟨w.heap.size, 1, none⟩ = some (.int .i64 (j : Int))) := fun u hu => by
    have b1 := fixed (((b.alloc (.cells #[.int .i64 16, .int .i64 (j : Int), .int .i64 b0] 62)).alloc (.cells #[.int .i64 0, .int .i64 0] 119)).later hu)
    refine ⟨b1.1, b1.2.1, b1.2.2.1, b1.2.2.2.1, b1.2.2.2.2.1, b1.2.2.2.2.2.1, b1.2.2.2.2.2.2.1, b1.2.2.2.2.2.2.2.1, ?_⟩
    rw [hu.cell (by simp; omega)]
    simp
  generalize MemSig.f0At m.sigs (sgI m j).toNat = X0 at *
  generalize MemSig.f1At m.sigs (sgI m j).toNat = X1 at *
  clear b hR f hi h0 h1 hx ht hj hi0 hi1
  generalize m.sigs.length = N0 at *
  generalize m.imps.length = N1 at *
  generalize m.fns.length = N2 at *
  generalize m.gls.length = N3 at *
  generalize m.exs.length = N4 at *
  generalize m.dat.length = N5 at *
  have ba : Hid (Below w.heap.size w (((w.alloc (.cells #[.int .i64 16, .int .i64 (j : Int), .int .i64 b0] 62)).alloc (.cells #[.int .i64 0, .int .i64 0] 119)).drew)) := ((belA w _).alloc (by simp) _).drew
  have rr : Hid (∀ u : World, Below ((w.alloc (.cells #[.int .i64 16, .int .i64 (j : Int), .int .i64 b0] 62)).alloc (.cells #[.int .i64 0, .int .i64 0] 119)).heap.size ((w.alloc (.cells #[.int .i64 16, .int .i64 (j : Int), .int .i64 b0] 62)).alloc (.cells #[.int .i64 0, .int .i64 0] 119)) u → u.rowIs (w.heap.size + 1) 119 2 (fun _ => .int .i64 0)) := fun u hu => by
    have r := World.rowIs_alloc (w.alloc (.cells #[.int .i64 16, .int .i64 (j : Int), .int .i64 b0] 62)) #[.int .i64 0, .int .i64 0] 119 (fun _ => .int .i64 0) (fun i hi => by
      match i, hi with
      | 0, _ => rfl
      | 1, _ => rfl)
    simp only [World.size_alloc] at r
    exact r.of_block (hu.block _ r.lt)
  go_enter Tryz.func121, Tryz.ntmps121
  go_wp2_with fail
  go_region_with
    ((go_at_call 143; refine (kS.out _ ba.out).mono ?_; rintro e w1 ⟨rfl, q1⟩; have r1 := rr.out _ (((Below.refl _ _).drew).trans q1); have y0 := r1.cell (i := 0) (by omega); have y1 := r1.cell (i := 1) (by omega); have y2 := r1.frozen 0; have y3 := r1.frozen 1; obtain ⟨_, _, _, _, _, _, _, _, _⟩ := hcs.out _ (((Below.refl _ _).drew).trans q1)))
  all_goals
    go_wp2_with fail
    refine bodyPost_ret ?_ rfl ⟨rfl, ?_⟩
    · have r2 := (r1.set 0 (.int .i64 X0)).set 1 (.int .i64 X1)
      have u0 := r2.cell (i := 0) (by omega)
      have u1 := r2.cell (i := 1) (by omega)
      simp at u0 u1
      simp [results, go_sem, u0, u1]
    · exact ((ba.out.trans (q1.mono (by simp; omega))).setCell (p := ⟨w.heap.size + 1, 0, none⟩) (by simp) _).setCell (p := ⟨w.heap.size + 1, 1, none⟩) (by simp) _
theorem effect (q g n cap : Nat) (w : World) (p : P) (m : M) (s x : Int) (a : Option Addr) (nb cb : Nat) (h : Int) (st : List Fr) (o i b0 : Int) (E : Env q g n cap w p m s x a nb cb h st o i) (ht : PlainValid.there (ctxOf m s x) o i (n + 1) = true) :
    Calls Tryz.prog 121 #[.pointer (some ⟨q, 0, none⟩), .agg #[.int .i64 o, .int .i64 i, .int .i64 b0]] w fun e w' => e = .returned (.agg #[.int .i64 (effT (ctxOf m s x) o i), .int .i64 (effP (ctxOf m s x) o i)]) ∧ Below w.heap.size w w' := by
  by_cases c0 : o = 1 ∨ o = 2 ∨ o = 3
  · exact eff0 q w _ o i b0 c0
  by_cases c1 : o = 32 ∨ o = 35 ∨ o = 63 ∨ o = 65
  · exact eff1 q w _ o i b0 c1
  by_cases c2 : o = 4 ∨ o = 26 ∨ o = 33 ∨ o = 36
  · exact eff2 q w _ o i b0 c2
  by_cases c3 : o = 54
  · exact eff3 q w _ o i b0 c3
  by_cases c4 : o = 27
  · exact eff4 q w _ o i b0 c4
  by_cases c5 : o = 34 ∨ o = 40 ∨ o = 64 ∨ o = 69
  · exact eff5 q w _ o i b0 c5
  by_cases c6 : o = 16
  · refine effCall q g n cap w p m s x a nb cb h st o i b0 E c6 ?_
    subst c6
    have := of_decide_eq_true (show decide (i < (((ctxOf m s x).nf : Nat) : Int)) = true from ht)
    simp only [ctxOf] at this
    omega
  exact effElse q w _ o i b0 (by omega)
end Go.Proofs.YtdaffcbamnpjfaaGreatDoor.ValidEff
