/-
  What an instruction names, takes and puts, as the program answers it when it is asked. (Written by my validins.py.)
-/
import Derived.Test.YtdaffcbamnpjfaaGreatDoorValidMod
import Derived.Test.YtdaffcbamnpjfaaGreatDoorWalksAll
namespace Go.Proofs.YtdaffcbamnpjfaaGreatDoor.ValidIns
open Go.RowKit PlainOps NameCalls PlainNum NumCalls InsCalls InsImpl PlainShape InsMem FormCalls ModMem FormImpl PlainValid ValidCtx ValidMod Piles Walks

/-- What doesn't change in the walk's box: the module and the function. -/
def fF (p : P) (m : M) (s x : Int) (a : Option Addr) (nb cb : Nat) (j : Nat) : Value := if j = 0 then .slice p.a0 m.sigs.length p.c0 else if j = 1 then .slice p.a1 m.imps.length p.c1 else if j = 2 then .slice p.a2 m.fns.length p.c2 else if j = 3 then .int .i64 m.pages else if j = 4 then .int .i64 m.most else if j = 5 then .slice p.a3 m.gls.length p.c3 else if j = 6 then .slice p.a4 m.exs.length p.c4 else if j = 7 then .slice p.a5 m.dat.length p.c5 else if j = 8 then .int .i64 s else if j = 9 then .int .i64 x else .slice a nb cb
theorem fixed {w : World} {q : Nat} {p : P} {m : M} {s x : Int} {a : Option Addr} {nb cb : Nat} {h : Int} {v : Value} {st : List Fr} (b : BW w q (fF p m s x a nb cb) h v st) :
    w.cell? ⟨q, 0, none⟩ = some (.slice p.a0 m.sigs.length p.c0) ∧ w.cell? ⟨q, 1, none⟩ = some (.slice p.a1 m.imps.length p.c1) ∧ w.cell? ⟨q, 2, none⟩ = some (.slice p.a2 m.fns.length p.c2) ∧ w.cell? ⟨q, 3, none⟩ = some (.int .i64 m.pages) ∧ w.cell? ⟨q, 4, none⟩ = some (.int .i64 m.most) ∧ w.cell? ⟨q, 5, none⟩ = some (.slice p.a3 m.gls.length p.c3) ∧ w.cell? ⟨q, 6, none⟩ = some (.slice p.a4 m.exs.length p.c4) ∧ w.cell? ⟨q, 7, none⟩ = some (.slice p.a5 m.dat.length p.c5) ∧ w.cell? ⟨q, 8, none⟩ = some (.int .i64 s) ∧ w.cell? ⟨q, 9, none⟩ = some (.int .i64 x) ∧ w.cell? ⟨q, 10, none⟩ = some (.slice a nb cb) :=
  ⟨b.fix 0 (by omega), b.fix 1 (by omega), b.fix 2 (by omega), b.fix 3 (by omega), b.fix 4 (by omega), b.fix 5 (by omega), b.fix 6 (by omega), b.fix 7 (by omega), b.fix 8 (by omega), b.fix 9 (by omega), b.fix 10 (by omega)⟩
set_option maxRecDepth 20000 in
set_option maxHeartbeats 4000000 in
theorem own (q : Nat) (w : World) (p : P) (m : M) (s x : Int) (a : Option Addr) (nb cb : Nat) (h : Int) (v : Value) (st : List Fr) (b : BW w q (fF p m s x a nb cb) h v st) (hR : Rd w p m) (h0 : 0 ≤ s) (h1 : s < m.sigs.length) :
    Calls Tryz.prog 116 #[.pointer (some ⟨q, 0, none⟩)] w fun e w' => e = .returned (.agg #[.int .i64 (MemSig.f0At m.sigs s.toNat), .int .i64 (MemSig.f1At m.sigs s.toNat)]) ∧ Below w.heap.size w w' := by
  obtain ⟨d0, _, _, _, _, _, _, _, d8, _, _⟩ := fixed b
  have hq := b.lt
  obtain ⟨z, rfl⟩ : ∃ z : Nat, s = z := ⟨s.toNat, by omega⟩
  obtain ⟨hs, _⟩ := hR
  rcases hs with hs | ⟨b0, o0, ha0, hc0⟩
  · omega
  · obtain ⟨x0, x1⟩ := hc0 z (by omega)
    have hb0 : b0 < w.heap.size := World.block_lt_of_cell? w _ x0
    rw [Int.toNat_natCast]
    rw [ha0] at d0
    generalize MemSig.f0At m.sigs z = X0 at *
    generalize MemSig.f1At m.sigs z = X1 at *
    clear hc0 b ha0
    generalize m.sigs.length = N0 at *
    go_enter Tryz.func116, Tryz.ntmps116
    go_wp2_with fail
    go_region
    go_wp2_with fail
    refine bodyPost_ret ?_ rfl ⟨rfl, ?_⟩
    · simp [results, go_sem]
    · exact ((Below.refl _ _).alloc (Nat.le_refl _) _).drew
/-- The box of an instruction that was handed over. -/
theorem insBox (w : World) (o a b : Int) : (w.alloc (.cells #[.int .i64 o, .int .i64 a, .int .i64 b] 62)).cell? ⟨w.heap.size, 0, none⟩ = some (.int .i64 o) ∧ (w.alloc (.cells #[.int .i64 o, .int .i64 a, .int .i64 b] 62)).cell? ⟨w.heap.size, 1, none⟩ = some (.int .i64 a) := ⟨by simp, by simp⟩
theorem belA (w : World) (o : Obj) : Below w.heap.size w (w.alloc o) := (Below.refl _ _).alloc (Nat.le_refl _) _
/-- What the questions want: the walk in its box, a module that can be read and is rightly formed, an instruction that is right. -/
structure Env (q g n cap : Nat) (w : World) (p : P) (m : M) (s x : Int) (a : Option Addr) (nb cb : Nat) (h : Int) (st : List Fr) (o i : Int) : Prop where
  b : BW w q (fF p m s x a nb cb) h (.slice (some ⟨g, 0, none⟩) (n + 1) cap) st
  hR : Rd w p m
  f : Facts m
  h0 : 0 ≤ s
  h1 : s < m.sigs.length
  hx : 0 ≤ x ∧ x ≤ 60
  hn : n ≤ 100000
  hi : InsF o i
theorem run_sig0 (c0 c1 : Value) (w : World) : (Instr.field 119 (.agg #[c0, c1]) 0).run Tryz.prog w = .ok c0 w := by
  simp [Instr.field, run_underlying Tryz.underlying119, part, isAgg, asAgg, run_underlying Tryz.underlying3]
theorem run_sig1 (c0 c1 : Value) (w : World) : (Instr.field 119 (.agg #[c0, c1]) 1).run Tryz.prog w = .ok c1 w := by
  simp [Instr.field, run_underlying Tryz.underlying119, part, isAgg, asAgg, run_underlying Tryz.underlying3]
set_option maxRecDepth 20000 in
set_option maxHeartbeats 4000000 in
theorem thereBr (q g n cap : Nat) (w : World) (p : P) (m : M) (s x : Int) (a : Option Addr) (nb cb : Nat) (h : Int) (st : List Fr) (o i b0 : Int) (E : Env q g n cap w p m s x a nb cb h st o i) (ho : o = 12 ∨ o = 13) :
    Calls Tryz.prog 118 #[.pointer (some ⟨q, 0, none⟩), .agg #[.int .i64 o, .int .i64 i, .int .i64 b0]] w fun e w' => e = .returned (.bool (there (ctxOf m s x) o i (n + 1))) ∧ Below w.heap.size w w' := by
  obtain ⟨b, hR, f, h0, h1, hx, hn, hi⟩ := E
  have e1 : Hid (there (ctxOf m s x) o i (n + 1) = decide (i < ((n + 1 : Nat) : Int))) := by show _ = _; unfold there; rw [if_pos ho]
  rw [e1.out]
  clear e1
  have hp : Hid (((w.alloc (.cells #[.int .i64 o, .int .i64 i, .int .i64 b0] 62)).drew).cell? ⟨q, 12, none⟩ = some (.slice (some ⟨g, 0, none⟩) (n + 1) cap)) := ((b.alloc _).drew).pile
  have kS : Hid (∀ u : World, u.cell? ⟨q, 12, none⟩ = some (.slice (some ⟨g, 0, none⟩) (n + 1) cap) → Calls Tryz.prog 140 #[.pointer (some ⟨q, 12, none⟩)] u fun e w' => e = .returned (.int .i64 ((n + 1 : Nat) : Int)) ∧ u = w') := fun u hu => size q g (n + 1) cap u hu
  have hc := (insBox w o i b0).2
  clear b hR f hi h0 h1 hx
  have hoo : (o == 12) = true ∨ (o == 12) = false ∧ (o == 13) = true := by rcases ho with rfl | rfl <;> simp
  clear ho
  rcases hoo with x1 | ⟨x1, x2⟩
  all_goals
    go_enter Tryz.func118, Tryz.ntmps118
    go_wp2_with fail
    go_region_with (go_at_call 140; refine (kS.out _ hp.out).mono ?_; rintro e w1 ⟨rfl, rfl⟩)
    all_goals
      go_wp2_with fail
      go_ret
      exact ⟨rfl, (belA w _).drew⟩
set_option maxRecDepth 20000 in
set_option maxHeartbeats 4000000 in
theorem thereCall (q g n cap : Nat) (w : World) (p : P) (m : M) (s x : Int) (a : Option Addr) (nb cb : Nat) (h : Int) (st : List Fr) (o i b0 : Int) (E : Env q g n cap w p m s x a nb cb h st o i) (ho : o = 16) :
    Calls Tryz.prog 118 #[.pointer (some ⟨q, 0, none⟩), .agg #[.int .i64 o, .int .i64 i, .int .i64 b0]] w fun e w' => e = .returned (.bool (there (ctxOf m s x) o i (n + 1))) ∧ Below w.heap.size w w' := by
  obtain ⟨b, hR, f, h0, h1, hx, hn, hi⟩ := E
  subst ho
  have e1 : Hid (there (ctxOf m s x) 16 i (n + 1) = decide (i < ((m.imps.length : Int) + (m.fns.length : Int)))) := by
    show _ = _
    unfold there ctxOf
    rw [if_neg (by omega), if_pos rfl]
    simp
  rw [e1.out]
  clear e1
  obtain ⟨d0, d1, d2, d3, d4, d5, d6, d7, _, _, _⟩ := fixed b
  have hq := b.lt
  have hco := f.co
  have kS : Hid (∀ u : World, Calls Tryz.prog 100 #[.agg #[.slice p.a0 m.sigs.length p.c0, .slice p.a1 m.imps.length p.c1, .slice p.a2 m.fns.length p.c2, .int .i64 m.pages, .int .i64 m.most, .slice p.a3 m.gls.length p.c3, .slice p.a4 m.exs.length p.c4, .slice p.a5 m.dat.length p.c5]] u fun e w' => e = .returned (.int .i64 ((m.imps.length : Int) + (m.fns.length : Int))) ∧ Below u.heap.size u w') := fun u => functions _ _ _ _ _ _ _ _ _ _ _ _ u (by omega)
  have hbox : Hid (∀ u : World, Below ((w.alloc (.cells #[.int .i64 16, .int .i64 i, .int .i64 b0] 62))).heap.size ((w.alloc (.cells #[.int .i64 16, .int .i64 i, .int .i64 b0] 62))) u → u.cell? ⟨w.heap.size, 1, none⟩ = some (.int .i64 i)) := fun u hu => by rw [hu.cell (by simp)]; exact (insBox w 16 i b0).2
  clear b hR f hi h0 h1 hx hco
  generalize m.sigs.length = N0 at *
  generalize m.imps.length = N1 at *
  generalize m.fns.length = N2 at *
  generalize m.gls.length = N3 at *
  generalize m.exs.length = N4 at *
  generalize m.dat.length = N5 at *
  go_enter Tryz.func118, Tryz.ntmps118
  go_wp2_with fail
  go_region_with (go_at_call 100; refine (kS.out _).mono ?_; rintro e w1 ⟨rfl, q1⟩; have c1 := hbox.out _ (((Below.refl _ _).drew).trans q1))
  all_goals
    go_wp2_with fail
    go_ret
    exact ⟨rfl, ((belA w _).drew).trans (q1.mono (by simp))⟩
set_option maxRecDepth 20000 in
set_option maxHeartbeats 4000000 in
theorem thereLoc (q g n cap : Nat) (w : World) (p : P) (m : M) (s x : Int) (a : Option Addr) (nb cb : Nat) (h : Int) (st : List Fr) (o i b0 : Int) (E : Env q g n cap w p m s x a nb cb h st o i) (ho : o = 32 ∨ o = 33 ∨ o = 34) :
    Calls Tryz.prog 118 #[.pointer (some ⟨q, 0, none⟩), .agg #[.int .i64 o, .int .i64 i, .int .i64 b0]] w fun e w' => e = .returned (.bool (there (ctxOf m s x) o i (n + 1))) ∧ Below w.heap.size w w' := by
  obtain ⟨b, hR, f, h0, h1, hx, hn, hi⟩ := E
  have e1 : Hid (there (ctxOf m s x) o i (n + 1) = decide (i < MemSig.f0At m.sigs s.toNat + x)) := by
    show _ = _
    unfold there ctxOf
    rw [if_neg (by omega), if_neg (by omega), if_pos ho]
  rw [e1.out]
  clear e1
  obtain ⟨g0, g1, _, _⟩ := f.sg s.toNat (by omega)
  obtain ⟨hx0, hx1⟩ := hx
  have kS : Hid (∀ u : World, Below w.heap.size w u → Calls Tryz.prog 116 #[.pointer (some ⟨q, 0, none⟩)] u fun e w' => e = .returned (.agg #[.int .i64 (MemSig.f0At m.sigs s.toNat), .int .i64 (MemSig.f1At m.sigs s.toNat)]) ∧ Below u.heap.size u w') := fun u hu => own q u p m s x a nb cb h _ st (b.later hu) (hR.later hu) h0 h1
  have hcs : Hid (∀ u : World, Below ((w.alloc (.cells #[.int .i64 o, .int .i64 i, .int .i64 b0] 62))).heap.size ((w.alloc (.cells #[.int .i64 o, .int .i64 i, .int .i64 b0] 62))) u → u.cell? ⟨w.heap.size, 1, none⟩ = some (.int .i64 i) ∧ u.cell? ⟨q, 9, none⟩ = some (.int .i64 x)) := fun u hu => ⟨by rw [hu.cell (by simp)]; exact (insBox w o i b0).2, (fixed ((b.alloc _).later hu)).2.2.2.2.2.2.2.2.2.1⟩
  obtain ⟨z1, z2⟩ := hcs.out _ (Below.refl _ _).drew
  clear b hR f hi h0 h1
  generalize MemSig.f0At m.sigs s.toNat = X0 at *
  generalize MemSig.f1At m.sigs s.toNat = X1 at *
  have hoo : (o == 32) = true ∨ (o == 32) = false ∧ (o == 33) = true ∨ (o == 32) = false ∧ (o == 33) = false ∧ (o == 34) = true := by rcases ho with rfl | rfl | rfl <;> simp
  have n12 : (o == 12) = false := by rcases ho with rfl | rfl | rfl <;> simp
  have n13 : (o == 13) = false := by rcases ho with rfl | rfl | rfl <;> simp
  have n16 : (o == 16) = false := by rcases ho with rfl | rfl | rfl <;> simp
  have hrf := run_sig0
  have hw : IntKind.i64.wrap (X0 + x) = X0 + x := IntWalk.i64_in _ (by omega)
  clear ho
  rcases hoo with x1 | ⟨x1, x2⟩ | ⟨x1, x2, x3⟩
  all_goals
    go_enter Tryz.func118, Tryz.ntmps118
    go_wp2_with fail
    go_region_held3 (fun w' => w'.cell? ⟨w.heap.size, 1, none⟩ = some (.int .i64 i) ∧ w'.cell? ⟨q, 9, none⟩ = some (.int .i64 x)) (first | go_keep | (go_split_ands; exact ⟨by assumption, by assumption⟩)) ((go_at_call 116; refine (kS.out _ (belA w _).drew).mono ?_; rintro e w1 ⟨rfl, q1⟩; obtain ⟨_, _⟩ := hcs.out _ (((Below.refl _ _).drew).trans q1)))
    go_wp2_with fail
    go_ret
    exact ⟨rfl, ((belA w _).drew).trans (q1.mono (by simp))⟩
set_option maxRecDepth 20000 in
set_option maxHeartbeats 4000000 in
theorem thereGlob (q g n cap : Nat) (w : World) (p : P) (m : M) (s x : Int) (a : Option Addr) (nb cb : Nat) (h : Int) (st : List Fr) (o i b0 : Int) (E : Env q g n cap w p m s x a nb cb h st o i) (ho : o = 35) :
    Calls Tryz.prog 118 #[.pointer (some ⟨q, 0, none⟩), .agg #[.int .i64 o, .int .i64 i, .int .i64 b0]] w fun e w' => e = .returned (.bool (there (ctxOf m s x) o i (n + 1))) ∧ Below w.heap.size w w' := by
  obtain ⟨b, hR, f, h0, h1, hx, hn, hi⟩ := E
  subst ho
  have e1 : Hid (there (ctxOf m s x) 35 i (n + 1) = decide (i < (m.gls.length : Int))) := by
    show _ = _
    unfold there ctxOf
    rw [if_neg (by omega), if_neg (by omega), if_neg (by omega), if_pos rfl]
  rw [e1.out]
  clear e1
  obtain ⟨d0, d1, d2, d3, d4, d5, d6, d7, _, _, _⟩ := fixed b
  have hq := b.lt
  clear b hR f hi h0 h1 hx
  generalize m.gls.length = N3 at *
  go_enter Tryz.func118, Tryz.ntmps118
  go_wp2_with fail
  go_quiet (fail)
  go_wp2_with fail
  go_ret
  exact ⟨rfl, (belA w _).trans ⟨rfl, rfl, rfl, Nat.le_refl _, fun _ _ => rfl⟩⟩
set_option maxRecDepth 20000 in
set_option maxHeartbeats 4000000 in
theorem thereMut (q g n cap : Nat) (w : World) (p : P) (m : M) (s x : Int) (a : Option Addr) (nb cb : Nat) (h : Int) (st : List Fr) (o i b0 : Int) (E : Env q g n cap w p m s x a nb cb h st o i) (ho : o = 36) :
    Calls Tryz.prog 118 #[.pointer (some ⟨q, 0, none⟩), .agg #[.int .i64 o, .int .i64 i, .int .i64 b0]] w fun e w' => e = .returned (.bool (there (ctxOf m s x) o i (n + 1))) ∧ Below w.heap.size w w' := by
  obtain ⟨b, hR, f, h0, h1, hx, hn, hi⟩ := E
  subst ho
  obtain ⟨hi0, hi1⟩ := hi.idx (by omega)
  obtain ⟨j, rfl⟩ : ∃ j : Nat, i = j := ⟨i.toNat, by omega⟩
  obtain ⟨d0, d1, d2, d3, d4, d5, d6, d7, _, _, _⟩ := fixed b
  have hq := b.lt
  by_cases hlt : j < m.gls.length
  · have hlt' : (j : Int) < (m.gls.length : Int) := by omega
    have e1 : Hid (there (ctxOf m s x) 36 (j : Int) (n + 1) = MemGlobal.f0At m.gls j) := by
      show _ = _
      unfold there ctxOf
      rw [if_neg (by omega), if_neg (by omega), if_neg (by omega), if_neg (by omega), if_pos rfl]
      simp [hlt]
    rw [e1.out]
    obtain ⟨_, _, _, hG, _, _⟩ := hR
    rcases hG with h3 | ⟨b3, o3, ha3, hc3⟩
    · omega
    · obtain ⟨y0, _⟩ := hc3 j hlt
      have hb3 : b3 < w.heap.size := World.block_lt_of_cell? w _ y0
      rw [ha3] at d5
      generalize MemGlobal.f0At m.gls j = R at *
      clear b f hi h0 h1 hx hc3 hlt e1
      generalize m.gls.length = N3 at *
      go_enter Tryz.func118, Tryz.ntmps118
      go_wp2_with fail
      go_quiet (fail)
      go_wp2_with fail
      go_ret
      exact ⟨rfl, (belA w _).trans ⟨rfl, rfl, rfl, Nat.le_refl _, fun _ _ => rfl⟩⟩
  · have hlt' : ¬ (j : Int) < (m.gls.length : Int) := by omega
    have hd : decide ((j : Int) < (m.gls.length : Int)) = false := decide_eq_false hlt'
    have hd2 : decide (j < m.gls.length) = false := decide_eq_false hlt
    have e1 : Hid (there (ctxOf m s x) 36 (j : Int) (n + 1) = false) := by
      show _ = _
      unfold there ctxOf
      rw [if_neg (by omega), if_neg (by omega), if_neg (by omega), if_neg (by omega), if_pos rfl]
      simp [hlt]
    rw [e1.out]
    clear b hR f hi h0 h1 hx e1
    generalize m.gls.length = N3 at *
    go_enter Tryz.func118, Tryz.ntmps118
    go_wp2_with fail
    go_quiet (fail)
    go_wp2_with fail
    go_ret
    exact ⟨rfl, (belA w _).trans ⟨rfl, rfl, rfl, Nat.le_refl _, fun _ _ => rfl⟩⟩
set_option maxRecDepth 20000 in
set_option maxHeartbeats 4000000 in
theorem thereMem (q g n cap : Nat) (w : World) (p : P) (m : M) (s x : Int) (a : Option Addr) (nb cb : Nat) (h : Int) (st : List Fr) (o i b0 : Int) (E : Env q g n cap w p m s x a nb cb h st o i) (ho : o = 40 ∨ o = 54 ∨ o = 63 ∨ o = 64) :
    Calls Tryz.prog 118 #[.pointer (some ⟨q, 0, none⟩), .agg #[.int .i64 o, .int .i64 i, .int .i64 b0]] w fun e w' => e = .returned (.bool (there (ctxOf m s x) o i (n + 1))) ∧ Below w.heap.size w w' := by
  obtain ⟨b, hR, f, h0, h1, hx, hn, hi⟩ := E
  have e1 : Hid (there (ctxOf m s x) o i (n + 1) = decide (m.pages ≠ -1)) := by
    show _ = _
    unfold there ctxOf
    rw [if_neg (by omega), if_neg (by omega), if_neg (by omega), if_neg (by omega), if_neg (by omega), if_pos ho]
  rw [e1.out]
  clear e1
  obtain ⟨d0, d1, d2, d3, d4, d5, d6, d7, _, _, _⟩ := fixed b
  have hq := b.lt
  have kS : Hid (∀ u : World, Calls Tryz.prog 53 #[.agg #[.slice p.a0 m.sigs.length p.c0, .slice p.a1 m.imps.length p.c1, .slice p.a2 m.fns.length p.c2, .int .i64 m.pages, .int .i64 m.most, .slice p.a3 m.gls.length p.c3, .slice p.a4 m.exs.length p.c4, .slice p.a5 m.dat.length p.c5]] u fun e w' => e = .returned (.bool (decide (m.pages ≠ -1))) ∧ Below u.heap.size u w') := fun u => hasMemory _ _ _ _ _ _ _ _ u
  generalize decide (m.pages ≠ -1) = R at *
  clear b hR f hi h0 h1 hx
  generalize m.sigs.length = N0 at *
  generalize m.imps.length = N1 at *
  generalize m.fns.length = N2 at *
  generalize m.gls.length = N3 at *
  generalize m.exs.length = N4 at *
  generalize m.dat.length = N5 at *
  have hoo : (o == 40) = true ∨ (o == 40) = false ∧ (o == 54) = true ∨ (o == 40) = false ∧ (o == 54) = false ∧ (o == 63) = true ∨ (o == 40) = false ∧ (o == 54) = false ∧ (o == 63) = false ∧ (o == 64) = true := by rcases ho with rfl | rfl | rfl | rfl <;> simp
  have n12 : (o == 12) = false := by rcases ho with rfl | rfl | rfl | rfl <;> simp
  have n13 : (o == 13) = false := by rcases ho with rfl | rfl | rfl | rfl <;> simp
  have n16 : (o == 16) = false := by rcases ho with rfl | rfl | rfl | rfl <;> simp
  have n32 : (o == 32) = false := by rcases ho with rfl | rfl | rfl | rfl <;> simp
  have n33 : (o == 33) = false := by rcases ho with rfl | rfl | rfl | rfl <;> simp
  have n34 : (o == 34) = false := by rcases ho with rfl | rfl | rfl | rfl <;> simp
  have n35 : (o == 35) = false := by rcases ho with rfl | rfl | rfl | rfl <;> simp
  have n36 : (o == 36) = false := by rcases ho with rfl | rfl | rfl | rfl <;> simp
  clear ho
  rcases hoo with x1 | ⟨x1, x2⟩ | ⟨x1, x2, x3⟩ | ⟨x1, x2, x3, x4⟩
  all_goals
    go_enter Tryz.func118, Tryz.ntmps118
    go_wp2_with (go_at_call 53; refine (kS.out _).mono ?_; rintro e w1 ⟨rfl, q1⟩)
    go_ret
    exact ⟨rfl, (belA w _).trans (q1.mono (by simp))⟩
set_option maxRecDepth 20000 in
set_option maxHeartbeats 4000000 in
theorem thereElse (q g n cap : Nat) (w : World) (p : P) (m : M) (s x : Int) (a : Option Addr) (nb cb : Nat) (h : Int) (st : List Fr) (o i b0 : Int) (E : Env q g n cap w p m s x a nb cb h st o i) (ho : o ≠ 12 ∧ o ≠ 13 ∧ o ≠ 16 ∧ o ≠ 32 ∧ o ≠ 33 ∧ o ≠ 34 ∧ o ≠ 35 ∧ o ≠ 36 ∧ o ≠ 40 ∧ o ≠ 54 ∧ o ≠ 63 ∧ o ≠ 64) :
    Calls Tryz.prog 118 #[.pointer (some ⟨q, 0, none⟩), .agg #[.int .i64 o, .int .i64 i, .int .i64 b0]] w fun e w' => e = .returned (.bool (there (ctxOf m s x) o i (n + 1))) ∧ Below w.heap.size w w' := by
  obtain ⟨b, hR, f, h0, h1, hx, hn, hi⟩ := E
  have e1 : Hid (there (ctxOf m s x) o i (n + 1) = true) := by
    show _ = _
    unfold there ctxOf
    rw [if_neg (by omega), if_neg (by omega), if_neg (by omega), if_neg (by omega), if_neg (by omega), if_neg (by omega)]
  rw [e1.out]
  clear e1 b hR f hi h0 h1 hx
  have n12 : (o == 12) = false := by simpa using (show o ≠ 12 by omega)
  have n13 : (o == 13) = false := by simpa using (show o ≠ 13 by omega)
  have n16 : (o == 16) = false := by simpa using (show o ≠ 16 by omega)
  have n32 : (o == 32) = false := by simpa using (show o ≠ 32 by omega)
  have n33 : (o == 33) = false := by simpa using (show o ≠ 33 by omega)
  have n34 : (o == 34) = false := by simpa using (show o ≠ 34 by omega)
  have n35 : (o == 35) = false := by simpa using (show o ≠ 35 by omega)
  have n36 : (o == 36) = false := by simpa using (show o ≠ 36 by omega)
  have n40 : (o == 40) = false := by simpa using (show o ≠ 40 by omega)
  have n54 : (o == 54) = false := by simpa using (show o ≠ 54 by omega)
  have n63 : (o == 63) = false := by simpa using (show o ≠ 63 by omega)
  have n64 : (o == 64) = false := by simpa using (show o ≠ 64 by omega)
  clear ho
  go_enter Tryz.func118, Tryz.ntmps118
  go_wp2_with fail
  go_ret
  exact ⟨rfl, belA w _⟩
theorem there (q g n cap : Nat) (w : World) (p : P) (m : M) (s x : Int) (a : Option Addr) (nb cb : Nat) (h : Int) (st : List Fr) (o i b0 : Int) (E : Env q g n cap w p m s x a nb cb h st o i) :
    Calls Tryz.prog 118 #[.pointer (some ⟨q, 0, none⟩), .agg #[.int .i64 o, .int .i64 i, .int .i64 b0]] w fun e w' => e = .returned (.bool (PlainValid.there (ctxOf m s x) o i (n + 1))) ∧ Below w.heap.size w w' := by
  by_cases c1 : o = 12 ∨ o = 13
  · exact thereBr q g n cap w p m s x a nb cb h st o i b0 E c1
  by_cases c2 : o = 16
  · exact thereCall q g n cap w p m s x a nb cb h st o i b0 E c2
  by_cases c3 : o = 32 ∨ o = 33 ∨ o = 34
  · exact thereLoc q g n cap w p m s x a nb cb h st o i b0 E c3
  by_cases c4 : o = 35
  · exact thereGlob q g n cap w p m s x a nb cb h st o i b0 E c4
  by_cases c5 : o = 36
  · exact thereMut q g n cap w p m s x a nb cb h st o i b0 E c5
  by_cases c6 : o = 40 ∨ o = 54 ∨ o = 63 ∨ o = 64
  · exact thereMem q g n cap w p m s x a nb cb h st o i b0 E c6
  exact thereElse q g n cap w p m s x a nb cb h st o i b0 E (by omega)
end Go.Proofs.YtdaffcbamnpjfaaGreatDoor.ValidIns
