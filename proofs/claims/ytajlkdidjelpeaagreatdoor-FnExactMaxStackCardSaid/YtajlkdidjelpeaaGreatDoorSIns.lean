/-
  The specification on Sigs, on what is there, on what is taken and put. (Written by my specins.py.)
-/
import Derived.Test.YtajlkdidjelpeaaGreatDoorSWalks
namespace Go.Proofs.YtajlkdidjelpeaaGreatDoor.SIns
open Go.RowKit PlainOps NameCalls PlainNum NumCalls InsCalls InsImpl PlainShape InsMem FormCalls ModMem FormImpl PlainValid ValidCtx Piles Walks SPiles SWalks

/-- What doesn't change in the walk's box: the module, how many locals there are. -/
def sF (p : P) (m : M) (lo : Int) (j : Nat) : Value := if j = 0 then .slice p.a0 m.sigs.length p.c0 else if j = 1 then .slice p.a1 m.imps.length p.c1 else if j = 2 then .slice p.a2 m.fns.length p.c2 else if j = 3 then .int .i64 m.pages else if j = 4 then .int .i64 m.most else if j = 5 then .slice p.a3 m.gls.length p.c3 else if j = 6 then .slice p.a4 m.exs.length p.c4 else if j = 7 then .slice p.a5 m.dat.length p.c5 else .int .i64 lo
theorem sfixed {B : Nat} {w : World} {q : Nat} {p : P} {m : M} {lo h : Int} {v : Value} {bad : Bool} {st : List Fr} (b : SV B w q (sF p m lo) h v bad st) :
    w.cell? ⟨q, 0, none⟩ = some (.slice p.a0 m.sigs.length p.c0) ∧ w.cell? ⟨q, 1, none⟩ = some (.slice p.a1 m.imps.length p.c1) ∧ w.cell? ⟨q, 2, none⟩ = some (.slice p.a2 m.fns.length p.c2) ∧ w.cell? ⟨q, 3, none⟩ = some (.int .i64 m.pages) ∧ w.cell? ⟨q, 4, none⟩ = some (.int .i64 m.most) ∧ w.cell? ⟨q, 5, none⟩ = some (.slice p.a3 m.gls.length p.c3) ∧ w.cell? ⟨q, 6, none⟩ = some (.slice p.a4 m.exs.length p.c4) ∧ w.cell? ⟨q, 7, none⟩ = some (.slice p.a5 m.dat.length p.c5) ∧ w.cell? ⟨q, 8, none⟩ = some (.int .i64 lo) :=
  ⟨b.fix 0 (by omega), b.fix 1 (by omega), b.fix 2 (by omega), b.fix 3 (by omega), b.fix 4 (by omega), b.fix 5 (by omega), b.fix 6 (by omega), b.fix 7 (by omega), b.fix 8 (by omega)⟩
set_option maxRecDepth 20000 in
set_option maxHeartbeats 8000000 in
theorem sigYes (p : P) (m : M) (w : World) (k : Nat) (h : Rd w p m) (f : Facts m) (hk : k < m.imps.length + m.fns.length) :
    Calls Tryz.prog 112 #[val p m, .int .i64 (k : Int)] w fun e w' => e = .returned (.tuple #[.agg #[.int .i64 (MemSig.f0At m.sigs (sgI m k).toNat), .int .i64 (MemSig.f1At m.sigs (sgI m k).toNat)], .bool true]) ∧ Below w.heap.size w w' := by
  obtain ⟨s0, s1⟩ := sgI_lt f hk
  have hco := f.co
  obtain ⟨z, hz⟩ : ∃ z : Nat, sgI m k = z := ⟨(sgI m k).toNat, by omega⟩
  rw [hz] at s1
  obtain ⟨h0, h1, h2, _, _, _⟩ := h
  obtain ⟨a0, c0, a1, c1, a2, c2, a3, c3, a4, c4, a5, c5⟩ := p
  have hd0 : decide ((k : Int) < 0) = false := decide_eq_false (by omega)
  have hd1 : ¬ (k : Int) < 0 := by omega
  have hd2 : decide ((m.imps.length : Int) + (m.fns.length : Int) ≤ (k : Int)) = false := decide_eq_false (by omega)
  have hd3 : ¬ (m.imps.length : Int) + (m.fns.length : Int) ≤ (k : Int) := by omega
  rcases h0 with h0 | ⟨b0, o0, ha0, hc0⟩
  · omega
  · obtain ⟨x0, x1⟩ := hc0 z (by omega)
    have hb0 : b0 < w.heap.size := World.block_lt_of_cell? w _ x0
    have hz' : (z : Int) < (m.sigs.length : Int) := s1
    rw [hz, Int.toNat_natCast]
    simp only [val] at ha0 ⊢
    subst ha0
    generalize MemSig.f0At m.sigs z = X0 at *
    generalize MemSig.f1At m.sigs z = X1 at *
    by_cases hlt : k < m.imps.length
    · have hlt' : (k : Int) < (m.imps.length : Int) := by omega
      rcases h1 with h1 | ⟨b1, o1, ha1, hc1⟩
      · omega
      · obtain ⟨_, _, y⟩ := hc1 k hlt
        have hb1 : b1 < w.heap.size := World.block_lt_of_cell? w _ y
        have e : MemImport.f2At m.imps k = (z : Int) := by rw [← hz]; unfold sgI; rw [if_pos hlt]
        rw [e] at y
        dsimp only at ha1
        subst ha1
        clear hc0 hc1 h2 f hz e s0 s1 hlt
        generalize m.sigs.length = N0 at *
        generalize m.imps.length = N1 at *
        generalize m.fns.length = N2 at *
        generalize m.gls.length = N3 at *
        generalize m.exs.length = N4 at *
        generalize m.dat.length = N5 at *
        go_enter Tryz.func112, Tryz.ntmps112
        go_wp2_with fail
        go_region
        go_wp2_with fail
        refine bodyPost_ret ?_ rfl ⟨rfl, ?_⟩
        · simp [results, go_sem]
        · exact (((Below.refl _ _).alloc (Nat.le_refl _) _).alloc (by simp) _).drew
    · have hlt' : ¬ (k : Int) < (m.imps.length : Int) := by omega
      have hdl : decide ((k : Int) < (m.imps.length : Int)) = false := decide_eq_false hlt'
      obtain ⟨j, rfl⟩ : ∃ j, k = m.imps.length + j := ⟨k - m.imps.length, by omega⟩
      rcases h2 with h2 | ⟨b2, o2, ha2, hc2⟩
      · omega
      · obtain ⟨y, _, _, _⟩ := hc2 j (by omega)
        have hb2 : b2 < w.heap.size := World.block_lt_of_cell? w _ y
        have e : (MemFunc.at1 m.fns j).sig = (z : Int) := by
          rw [← hz]; unfold sgI; rw [if_neg hlt, show m.imps.length + j - m.imps.length = j by omega]
        rw [e] at y
        dsimp only at ha2
        subst ha2
        have hj : (j : Int) < (m.fns.length : Int) := by omega
        clear hc0 hc2 h1 f hz e s0 s1 hlt
        generalize m.sigs.length = N0 at *
        generalize m.imps.length = N1 at *
        generalize m.fns.length = N2 at *
        generalize m.gls.length = N3 at *
        generalize m.exs.length = N4 at *
        generalize m.dat.length = N5 at *
        go_enter Tryz.func112, Tryz.ntmps112
        go_wp2_with fail
        go_region
        go_wp2_with fail
        refine bodyPost_ret ?_ rfl ⟨rfl, ?_⟩
        · simp [results, go_sem]
        · exact (((Below.refl _ _).alloc (Nat.le_refl _) _).alloc (by simp) _).drew
set_option maxRecDepth 20000 in
set_option maxHeartbeats 8000000 in
theorem sigNo (p : P) (m : M) (w : World) (i : Int) (hco : m.imps.length + m.fns.length ≤ 60) (hi : i < 0 ∨ (m.imps.length : Int) + (m.fns.length : Int) ≤ i) :
    Calls Tryz.prog 112 #[val p m, .int .i64 i] w fun e w' => e = .returned (.tuple #[.agg #[.int .i64 0, .int .i64 0], .bool false]) ∧ Below w.heap.size w w' := by
  simp only [val]
  by_cases h0 : i < 0
  · clear hi
    generalize m.sigs.length = N0 at *
    generalize m.imps.length = N1 at *
    generalize m.fns.length = N2 at *
    generalize m.gls.length = N3 at *
    generalize m.exs.length = N4 at *
    generalize m.dat.length = N5 at *
    go_enter Tryz.func112, Tryz.ntmps112
    go_wp2_with fail
    refine bodyPost_ret ?_ rfl ⟨rfl, ?_⟩
    · simp [results, go_sem]
    · first
        | exact ((((Below.refl _ _).alloc (Nat.le_refl _) _).alloc (by simp) _).setCell (p := ⟨w.heap.size + 1, 0, none⟩) (by simp) _).setCell (p := ⟨w.heap.size + 1, 1, none⟩) (by simp) _
        | exact (((Below.refl _ _).alloc (Nat.le_refl _) _).alloc (by simp) _)
  · have h1 : (m.imps.length : Int) + (m.fns.length : Int) ≤ i := by omega
    have hd0 : decide (i < 0) = false := decide_eq_false h0
    clear hi
    generalize m.sigs.length = N0 at *
    generalize m.imps.length = N1 at *
    generalize m.fns.length = N2 at *
    generalize m.gls.length = N3 at *
    generalize m.exs.length = N4 at *
    generalize m.dat.length = N5 at *
    go_enter Tryz.func112, Tryz.ntmps112
    go_wp2_with fail
    refine bodyPost_ret ?_ rfl ⟨rfl, ?_⟩
    · simp [results, go_sem]
    · first
        | exact ((((Below.refl _ _).alloc (Nat.le_refl _) _).alloc (by simp) _).setCell (p := ⟨w.heap.size + 1, 0, none⟩) (by simp) _).setCell (p := ⟨w.heap.size + 1, 1, none⟩) (by simp) _
        | exact (((Below.refl _ _).alloc (Nat.le_refl _) _).alloc (by simp) _)
end Go.Proofs.YtajlkdidjelpeaaGreatDoor.SIns
