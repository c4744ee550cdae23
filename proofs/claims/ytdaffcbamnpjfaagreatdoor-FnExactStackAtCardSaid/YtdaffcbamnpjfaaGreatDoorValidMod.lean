/-
  What the program's questions on a module's functions and memory answer when they are called.
-/
import Derived.Test.YtdaffcbamnpjfaaGreatDoorValidCtx
import Derived.Test.YtdaffcbamnpjfaaGreatDoorPiles
namespace Go.Proofs.YtdaffcbamnpjfaaGreatDoor.ValidMod
open Go.RowKit PlainOps NameCalls PlainNum NumCalls InsCalls InsImpl PlainShape InsMem FormCalls ModMem FormImpl PlainValid ValidCtx
theorem functions (v0 : Value) (a1 : Option Addr) (n1 c1 : Nat) (a2 : Option Addr) (n2 c2 : Nat) (v3 v4 v5 v6 v7 : Value) (w : World) (hn : n1 + n2 ≤ 1048576) :
    Calls Tryz.prog 100 #[.agg #[v0, .slice a1 n1 c1, .slice a2 n2 c2, v3, v4, v5, v6, v7]] w fun e w' => e = .returned (.int .i64 ((n1 : Int) + (n2 : Int))) ∧ Below w.heap.size w w' := by
  go_enter Tryz.func100, Tryz.ntmps100
  go_wp2_with fail
  go_ret
  exact ⟨rfl, (Below.refl _ _).alloc (Nat.le_refl _) _⟩
theorem hasMemory (v0 v1 v2 : Value) (pg : Int) (v4 v5 v6 v7 : Value) (w : World) :
    Calls Tryz.prog 53 #[.agg #[v0, v1, v2, .int .i64 pg, v4, v5, v6, v7]] w fun e w' => e = .returned (.bool (decide (pg ≠ -1))) ∧ Below w.heap.size w w' := by
  by_cases h : pg = -1
  · subst h
    go_enter Tryz.func53, Tryz.ntmps53
    go_wp2_with fail
    go_ret
    exact ⟨rfl, (Below.refl _ _).alloc (Nat.le_refl _) _⟩
  · have e1 : Hid (decide (pg ≠ -1) = true) := decide_eq_true h
    rw [e1.out]
    have h' : (pg != -1) = true := by simpa using h
    clear h e1
    go_enter Tryz.func53, Tryz.ntmps53
    go_wp2_with fail
    go_ret
    exact ⟨by simp, (Below.refl _ _).alloc (Nat.le_refl _) _⟩
set_option maxRecDepth 20000 in
set_option maxHeartbeats 4000000 in
theorem sigAt (p : P) (m : M) (w : World) (k : Nat) (h : Rd w p m) (f : Facts m) (hk : k < m.imps.length + m.fns.length) :
    Calls Tryz.prog 143 #[val p m, .int .i64 (k : Int)] w fun e w' => e = .returned (.agg #[.int .i64 (MemSig.f0At m.sigs (sgI m k).toNat), .int .i64 (MemSig.f1At m.sigs (sgI m k).toNat)]) ∧ Below w.heap.size w w' := by
  obtain ⟨s0, s1⟩ := sgI_lt f hk
  have hco := f.co
  obtain ⟨z, hz⟩ : ∃ z : Nat, sgI m k = z := ⟨(sgI m k).toNat, by omega⟩
  rw [hz] at s1
  obtain ⟨h0, h1, h2, _, _, _⟩ := h
  obtain ⟨a0, c0, a1, c1, a2, c2, a3, c3, a4, c4, a5, c5⟩ := p
  rcases h0 with h0 | ⟨b0, o0, ha0, hc0⟩
  · omega
  · obtain ⟨x0, x1⟩ := hc0 z (by omega)
    have hb0 : b0 < w.heap.size := World.block_lt_of_cell? w _ x0
    have hz' : (z : Int) < (m.sigs.length : Int) := s1
    rw [hz, Int.toNat_natCast]
    simp only [val] at ha0 ⊢
    subst ha0
    generalize MemSig.f0At m.sigs z = X0 at *
    generalize MemSig.f1At m.sigs z = X1 at *
    by_cases hlt : k < m.imps.length
    · have hlt' : (k : Int) < (m.imps.length : Int) := by omega
      rcases h1 with h1 | ⟨b1, o1, ha1, hc1⟩
      · omega
      · obtain ⟨_, _, y⟩ := hc1 k hlt
        have hb1 : b1 < w.heap.size := World.block_lt_of_cell? w _ y
        have e : MemImport.f2At m.imps k = (z : Int) := by rw [← hz]; unfold sgI; rw [if_pos hlt]
        rw [e] at y
        dsimp only at ha1
        subst ha1
        clear hc0 hc1 h2 f hz e s0 s1 hlt hk
        generalize m.sigs.length = N0 at *
        generalize m.imps.length = N1 at *
        generalize m.fns.length = N2 at *
        generalize m.gls.length = N3 at *
        generalize m.exs.length = N4 at *
        generalize m.dat.length = N5 at *
        go_enter Tryz.func143, Tryz.ntmps143
        go_wp2_with fail
        go_region
        go_wp2_with fail
        refine bodyPost_ret ?_ rfl ⟨rfl, ?_⟩
        · simp [results, go_sem]
        · exact (((Below.refl _ _).alloc (Nat.le_refl _) _).alloc (by simp) _).drew
    · have hlt' : ¬ (k : Int) < (m.imps.length : Int) := by omega
      have hd : decide ((k : Int) < (m.imps.length : Int)) = false := decide_eq_false hlt'
      obtain ⟨j, rfl⟩ : ∃ j, k = m.imps.length + j := ⟨k - m.imps.length, by omega⟩
      rcases h2 with h2 | ⟨b2, o2, ha2, hc2⟩
      · omega
      · obtain ⟨y, _, _, _⟩ := hc2 j (by omega)
        have hb2 : b2 < w.heap.size := World.block_lt_of_cell? w _ y
        have e : (MemFunc.at1 m.fns j).sig = (z : Int) := by
          rw [← hz]; unfold sgI; rw [if_neg hlt, show m.imps.length + j - m.imps.length = j by omega]
        rw [e] at y
        dsimp only at ha2
        subst ha2
        have hj : (j : Int) < (m.fns.length : Int) := by omega
        clear hc0 hc2 h1 f hz e s0 s1 hlt hk
        generalize m.sigs.length = N0 at *
        generalize m.imps.length = N1 at *
        generalize m.fns.length = N2 at *
        generalize m.gls.length = N3 at *
        generalize m.exs.length = N4 at *
        generalize m.dat.length = N5 at *
        go_enter Tryz.func143, Tryz.ntmps143
        go_wp2_with fail
        go_region
        go_wp2_with fail
        refine bodyPost_ret ?_ rfl ⟨rfl, ?_⟩
        · simp [results, go_sem]
        · exact (((Below.refl _ _).alloc (Nat.le_refl _) _).alloc (by simp) _).drew
end Go.Proofs.YtdaffcbamnpjfaaGreatDoor.ValidMod
