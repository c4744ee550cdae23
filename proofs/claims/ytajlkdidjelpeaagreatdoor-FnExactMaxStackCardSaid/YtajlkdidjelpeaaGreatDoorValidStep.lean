/-
  One instruction of a body, as the program goes through it. (Written by my validstep.py.)
-/
import Derived.Test.YtajlkdidjelpeaaGreatDoorValidEff
import Derived.Test.YtajlkdidjelpeaaGreatDoorWalks4
namespace Go.Proofs.YtajlkdidjelpeaaGreatDoor.ValidStep
open Go.RowKit PlainOps NameCalls PlainNum NumCalls InsCalls InsImpl PlainShape InsMem FormCalls ModMem FormImpl PlainValid ValidCtx ValidMod Piles Walks Walks2 Walks3 Walks4 ValidIns ValidEff

theorem envLater {q g n cap : Nat} {w u : World} {p : P} {m : M} {s x : Int} {a : Option Addr} {nb cb : Nat} {h : Int} {st : List Fr} {o i : Int} (E : Env q g n cap w p m s x a nb cb h st o i) (hb : Below w.heap.size w u) : Env q g n cap u p m s x a nb cb h st o i :=
  ⟨E.b.later hb, E.hR.later hb, E.f, E.h0, E.h1, E.hx, E.hn, E.hi⟩
theorem eff_bnd {c : Ctx} (hc : OkC c) {o i : Int} {n : Nat} (hi : InsF o i) (ht : PlainValid.there c o i n = true) : 0 ≤ effT c o i ∧ effT c o i ≤ 60 ∧ 0 ≤ effP c o i ∧ effP c o i ≤ 1 := by
  by_cases h16 : o = 16
  · subst h16
    have := of_decide_eq_true (show decide (i < ((c.nf : Nat) : Int)) = true from ht)
    obtain ⟨i0, _⟩ := hi.idx (by omega)
    have := hc.sg i.toNat (by omega)
    exact this
  · unfold effT effP
    refine ⟨?_, ?_, ?_, ?_⟩ <;> (repeat' split) <;> omega
/-- The box of the instruction, as it lies behind calls that leave it. -/
theorem boxLater {w u : World} {o i b0 : Int} (hu : Below (w.alloc (.cells #[.int .i64 o, .int .i64 i, .int .i64 b0] 62)).heap.size (w.alloc (.cells #[.int .i64 o, .int .i64 i, .int .i64 b0] 62)) u) : u.cell? ⟨w.heap.size, 0, none⟩ = some (.int .i64 o) ∧ u.cell? ⟨w.heap.size, 1, none⟩ = some (.int .i64 i) ∧ u.cell? ⟨w.heap.size, 2, none⟩ = some (.int .i64 b0) := by
  refine ⟨?_, ?_, ?_⟩ <;> rw [hu.cell (by simp)] <;> simp
theorem belB {w u : World} {ob : Obj} (hu : Below (w.alloc ob).heap.size (w.alloc ob) u) : Below w.heap.size w u := (belA w _).trans (hu.mono (by simp))
set_option maxRecDepth 20000 in
set_option maxHeartbeats 8000000 in
theorem stepNo (q g n cap : Nat) (w : World) (p : P) (m : M) (s x : Int) (a : Option Addr) (nb cb : Nat) (h : Int) (st : List Fr) (o i b0 : Int) (E : Env q g n cap w p m s x a nb cb h st o i) (B : Bnd 10000 (h, st)) (ht : PlainValid.there (ctxOf m s x) o i (n + 1) = false) :
    Calls Tryz.prog 80 #[.pointer (some ⟨q, 0, none⟩), .agg #[.int .i64 o, .int .i64 i, .int .i64 b0]] w (Res w q (fF p m s x a nb cb) (.slice (some ⟨g, 0, none⟩) (n + 1) cap) (PlainValid.step (ctxOf m s x) o i (h, st))) := by
  have hn := E.b.len
  have e1 : Hid (PlainValid.step (ctxOf m s x) o i (h, st) = none) := by show _ = _; unfold PlainValid.step; dsimp only; rw [← hn, if_pos ht]
  rw [e1.out]
  have hbl : Hid (∀ u : World, Below w.heap.size w u → BW u q (fF p m s x a nb cb) h (.slice (some ⟨g, 0, none⟩) (n + 1) cap) st) := fun u hu => E.b.later hu
  obtain ⟨t0, t1, t2, t3⟩ := B.top (by omega : st.length ≠ 0)
  have hlo := B.lo
  have hhi := B.hi
  simp only [top_is hn] at t0 t1 t2 t3
  dsimp only at hlo hhi
  have hnn := E.hn
  have kT : Hid (∀ u : World, Below w.heap.size w u → Calls Tryz.prog 118 #[.pointer (some ⟨q, 0, none⟩), .agg #[.int .i64 o, .int .i64 i, .int .i64 b0]] u fun e w' => e = .returned (.bool false) ∧ Below u.heap.size u w') := fun u hu => by
    have := ValidIns.there q g n cap u p m s x a nb cb h st o i b0 (envLater E hu)
    rw [ht] at this
    exact this
  clear E B ht hn e1
  go_enter Tryz.func80, Tryz.ntmps80
  go_wp2_with (go_at_call 118; refine (kT.out _ (belA w _)).mono ?_; rintro e w1 ⟨rfl, q1⟩; obtain ⟨z0, z1, z2⟩ := boxLater q1; have b1 : Hid (Below w.heap.size w w1) := belB q1)
  go_ret
  exact ⟨false, _, _, _, rfl, hbl.out _ b1.out, Kp.below _ b1.out, rfl⟩
set_option maxRecDepth 20000 in
set_option maxHeartbeats 8000000 in
theorem step0 (q g n cap : Nat) (w : World) (p : P) (m : M) (s x : Int) (a : Option Addr) (nb cb : Nat) (h : Int) (st : List Fr) (o i b0 : Int) (E : Env q g n cap w p m s x a nb cb h st o i) (B : Bnd 10000 (h, st)) (ho : o = 0) (ht : PlainValid.there (ctxOf m s x) o i (n + 1) = true) :
    Calls Tryz.prog 80 #[.pointer (some ⟨q, 0, none⟩), .agg #[.int .i64 o, .int .i64 i, .int .i64 b0]] w (Res w q (fF p m s x a nb cb) (.slice (some ⟨g, 0, none⟩) (n + 1) cap) (PlainValid.step (ctxOf m s x) o i (h, st))) := by
  subst ho
  have hbl : Hid (∀ u : World, Below w.heap.size w u → BW u q (fF p m s x a nb cb) h (.slice (some ⟨g, 0, none⟩) (n + 1) cap) st) := fun u hu => E.b.later hu
  have hn := E.b.len
  obtain ⟨t0, t1, t2, t3⟩ := B.top (by omega : st.length ≠ 0)
  have hlo := B.lo
  have hhi := B.hi
  simp only [top_is hn] at t0 t1 t2 t3
  dsimp only at hlo hhi
  have hnn := E.hn
  have kT : Hid (∀ u : World, Below w.heap.size w u → Calls Tryz.prog 118 #[.pointer (some ⟨q, 0, none⟩), .agg #[.int .i64 0, .int .i64 i, .int .i64 b0]] u fun e w' => e = .returned (.bool true) ∧ Below u.heap.size u w') := fun u hu => by
    have := ValidIns.there q g n cap u p m s x a nb cb h st 0 i b0 (envLater E hu)
    rw [ht] at this
    exact this
  have e1 : Hid (PlainValid.step (ctxOf m s x) 0 i (h, st) = PlainValid.leave 0 (h, st)) := by show _ = _; unfold PlainValid.step; dsimp only; rw [← hn, if_neg (by rw [ht]; decide), if_pos rfl]
  rw [e1.out]
  have kL : Hid (∀ u : World, BW u q (fF p m s x a nb cb) h (.slice (some ⟨g, 0, none⟩) (n + 1) cap) st → Calls Tryz.prog 119 #[.pointer (some ⟨q, 0, none⟩), .int .i64 0] u (Res u q (fF p m s x a nb cb) (.slice (some ⟨g, 0, none⟩) (n + 1) cap) (PlainValid.leave 0 (h, st)))) := fun u hu => leaveR q g n cap u (fF p m s x a nb cb) h st 0 hu (by omega) (by omega) (by omega) (by omega) (by omega) (by omega) (by omega)
  clear E B ht hn e1
  go_enter Tryz.func80, Tryz.ntmps80
  go_wp2_with (first | (go_at_call 118; refine (kT.out _ (belA w _)).mono ?_; rintro e w1 ⟨rfl, q1⟩; obtain ⟨z0, z1, z2⟩ := boxLater q1; have b1 : Hid (Below w.heap.size w w1) := belB q1) | (go_at_call 119; refine (kL.out _ (hbl.out _ b1.out)).mono ?_; rintro e w2 ⟨ok, h2, v2, st2, rfl, b2, k2, hr⟩; have b2' : Hid (BW w2 q (fF p m s x a nb cb) h2 v2 st2) := b2; have hr' : Hid (PlainValid.leave 0 (h, st) = if ok = true then some (h2, st2) else none) := hr; clear b2 hr))
  go_ret
  exact ⟨ok, h2, v2, st2, rfl, b2'.out, (Kp.below _ b1.out).trans k2, hr'.out⟩
set_option maxRecDepth 20000 in
set_option maxHeartbeats 8000000 in
theorem step5 (q g n cap : Nat) (w : World) (p : P) (m : M) (s x : Int) (a : Option Addr) (nb cb : Nat) (h : Int) (st : List Fr) (o i b0 : Int) (E : Env q g n cap w p m s x a nb cb h st o i) (B : Bnd 10000 (h, st)) (ho : o = 5) (ht : PlainValid.there (ctxOf m s x) o i (n + 1) = true) :
    Calls Tryz.prog 80 #[.pointer (some ⟨q, 0, none⟩), .agg #[.int .i64 o, .int .i64 i, .int .i64 b0]] w (Res w q (fF p m s x a nb cb) (.slice (some ⟨g, 0, none⟩) (n + 1) cap) (PlainValid.step (ctxOf m s x) o i (h, st))) := by
  subst ho
  have hbl : Hid (∀ u : World, Below w.heap.size w u → BW u q (fF p m s x a nb cb) h (.slice (some ⟨g, 0, none⟩) (n + 1) cap) st) := fun u hu => E.b.later hu
  have hn := E.b.len
  obtain ⟨t0, t1, t2, t3⟩ := B.top (by omega : st.length ≠ 0)
  have hlo := B.lo
  have hhi := B.hi
  simp only [top_is hn] at t0 t1 t2 t3
  dsimp only at hlo hhi
  have hnn := E.hn
  have kT : Hid (∀ u : World, Below w.heap.size w u → Calls Tryz.prog 118 #[.pointer (some ⟨q, 0, none⟩), .agg #[.int .i64 5, .int .i64 i, .int .i64 b0]] u fun e w' => e = .returned (.bool true) ∧ Below u.heap.size u w') := fun u hu => by
    have := ValidIns.there q g n cap u p m s x a nb cb h st 5 i b0 (envLater E hu)
    rw [ht] at this
    exact this
  have e1 : Hid (PlainValid.step (ctxOf m s x) 5 i (h, st) = PlainValid.turn (h, st)) := by show _ = _; unfold PlainValid.step; dsimp only; rw [← hn, if_neg (by rw [ht]; decide), if_neg (by omega), if_neg (by omega), if_pos rfl]
  rw [e1.out]
  have kL : Hid (∀ u : World, BW u q (fF p m s x a nb cb) h (.slice (some ⟨g, 0, none⟩) (n + 1) cap) st → Calls Tryz.prog 122 #[.pointer (some ⟨q, 0, none⟩)] u (Res u q (fF p m s x a nb cb) (.slice (some ⟨g, 0, none⟩) (n + 1) cap) (PlainValid.turn (h, st)))) := fun u hu => turnR q g n cap u (fF p m s x a nb cb) h st hu (by omega) (by omega) (by omega) (by omega) (by omega) (by omega)
  clear E B ht hn e1
  go_enter Tryz.func80, Tryz.ntmps80
  go_wp2_with (first | (go_at_call 118; refine (kT.out _ (belA w _)).mono ?_; rintro e w1 ⟨rfl, q1⟩; obtain ⟨z0, z1, z2⟩ := boxLater q1; have b1 : Hid (Below w.heap.size w w1) := belB q1) | (go_at_call 122; refine (kL.out _ (hbl.out _ b1.out)).mono ?_; rintro e w2 ⟨ok, h2, v2, st2, rfl, b2, k2, hr⟩; have b2' : Hid (BW w2 q (fF p m s x a nb cb) h2 v2 st2) := b2; have hr' : Hid (PlainValid.turn (h, st) = if ok = true then some (h2, st2) else none) := hr; clear b2 hr))
  go_ret
  exact ⟨ok, h2, v2, st2, rfl, b2'.out, (Kp.below _ b1.out).trans k2, hr'.out⟩
set_option maxRecDepth 20000 in
set_option maxHeartbeats 8000000 in
theorem step11 (q g n cap : Nat) (w : World) (p : P) (m : M) (s x : Int) (a : Option Addr) (nb cb : Nat) (h : Int) (st : List Fr) (o i b0 : Int) (E : Env q g n cap w p m s x a nb cb h st o i) (B : Bnd 10000 (h, st)) (ho : o = 11) (ht : PlainValid.there (ctxOf m s x) o i (n + 1) = true) :
    Calls Tryz.prog 80 #[.pointer (some ⟨q, 0, none⟩), .agg #[.int .i64 o, .int .i64 i, .int .i64 b0]] w (Res w q (fF p m s x a nb cb) (.slice (some ⟨g, 0, none⟩) (n + 1) cap) (PlainValid.step (ctxOf m s x) o i (h, st))) := by
  subst ho
  have hbl : Hid (∀ u : World, Below w.heap.size w u → BW u q (fF p m s x a nb cb) h (.slice (some ⟨g, 0, none⟩) (n + 1) cap) st) := fun u hu => E.b.later hu
  have hn := E.b.len
  obtain ⟨t0, t1, t2, t3⟩ := B.top (by omega : st.length ≠ 0)
  have hlo := B.lo
  have hhi := B.hi
  simp only [top_is hn] at t0 t1 t2 t3
  dsimp only at hlo hhi
  have hnn := E.hn
  have kT : Hid (∀ u : World, Below w.heap.size w u → Calls Tryz.prog 118 #[.pointer (some ⟨q, 0, none⟩), .agg #[.int .i64 11, .int .i64 i, .int .i64 b0]] u fun e w' => e = .returned (.bool true) ∧ Below u.heap.size u w') := fun u hu => by
    have := ValidIns.there q g n cap u p m s x a nb cb h st 11 i b0 (envLater E hu)
    rw [ht] at this
    exact this
  have e1 : Hid (PlainValid.step (ctxOf m s x) 11 i (h, st) = PlainValid.close (h, st)) := by show _ = _; unfold PlainValid.step; dsimp only; rw [← hn, if_neg (by rw [ht]; decide), if_neg (by omega), if_neg (by omega), if_neg (by omega), if_pos rfl]
  rw [e1.out]
  have kL : Hid (∀ u : World, BW u q (fF p m s x a nb cb) h (.slice (some ⟨g, 0, none⟩) (n + 1) cap) st → Calls Tryz.prog 81 #[.pointer (some ⟨q, 0, none⟩)] u (Res u q (fF p m s x a nb cb) (.slice (some ⟨g, 0, none⟩) (n + 1) cap) (PlainValid.close (h, st)))) := fun u hu => (closeR q g n cap u (fF p m s x a nb cb) h st hu (by omega) (by omega) (by omega) (by omega) (by omega) (by omega)).mono fun _ _ z => z.2
  clear E B ht hn e1
  go_enter Tryz.func80, Tryz.ntmps80
  go_wp2_with (first | (go_at_call 118; refine (kT.out _ (belA w _)).mono ?_; rintro e w1 ⟨rfl, q1⟩; obtain ⟨z0, z1, z2⟩ := boxLater q1; have b1 : Hid (Below w.heap.size w w1) := belB q1) | (go_at_call 81; refine (kL.out _ (hbl.out _ b1.out)).mono ?_; rintro e w2 ⟨ok, h2, v2, st2, rfl, b2, k2, hr⟩; have b2' : Hid (BW w2 q (fF p m s x a nb cb) h2 v2 st2) := b2; have hr' : Hid (PlainValid.close (h, st) = if ok = true then some (h2, st2) else none) := hr; clear b2 hr))
  go_ret
  exact ⟨ok, h2, v2, st2, rfl, b2'.out, (Kp.below _ b1.out).trans k2, hr'.out⟩
set_option maxRecDepth 20000 in
set_option maxHeartbeats 8000000 in
theorem step15 (q g n cap : Nat) (w : World) (p : P) (m : M) (s x : Int) (a : Option Addr) (nb cb : Nat) (h : Int) (st : List Fr) (o i b0 : Int) (E : Env q g n cap w p m s x a nb cb h st o i) (B : Bnd 10000 (h, st)) (ho : o = 15) (ht : PlainValid.there (ctxOf m s x) o i (n + 1) = true) :
    Calls Tryz.prog 80 #[.pointer (some ⟨q, 0, none⟩), .agg #[.int .i64 o, .int .i64 i, .int .i64 b0]] w (Res w q (fF p m s x a nb cb) (.slice (some ⟨g, 0, none⟩) (n + 1) cap) (PlainValid.step (ctxOf m s x) o i (h, st))) := by
  subst ho
  have hbl : Hid (∀ u : World, Below w.heap.size w u → BW u q (fF p m s x a nb cb) h (.slice (some ⟨g, 0, none⟩) (n + 1) cap) st) := fun u hu => E.b.later hu
  have hn := E.b.len
  obtain ⟨t0, t1, t2, t3⟩ := B.top (by omega : st.length ≠ 0)
  have hlo := B.lo
  have hhi := B.hi
  simp only [top_is hn] at t0 t1 t2 t3
  dsimp only at hlo hhi
  have hnn := E.hn
  have kT : Hid (∀ u : World, Below w.heap.size w u → Calls Tryz.prog 118 #[.pointer (some ⟨q, 0, none⟩), .agg #[.int .i64 15, .int .i64 i, .int .i64 b0]] u fun e w' => e = .returned (.bool true) ∧ Below u.heap.size u w') := fun u hu => by
    have := ValidIns.there q g n cap u p m s x a nb cb h st 15 i b0 (envLater E hu)
    rw [ht] at this
    exact this
  have e1 : Hid (PlainValid.step (ctxOf m s x) 15 i (h, st) = PlainValid.leave (ctxOf m s x).own (h, st)) := by show _ = _; unfold PlainValid.step; dsimp only; rw [← hn, if_neg (by rw [ht]; decide), if_neg (by omega), if_neg (by omega), if_neg (by omega), if_neg (by omega), if_neg (by omega), if_neg (by omega), if_pos rfl]
  rw [e1.out]
  have hsg := E.f.sg s.toNat (by have := E.h0; have := E.h1; omega)
  have kO : Hid (∀ u : World, Below w.heap.size w u → Calls Tryz.prog 116 #[.pointer (some ⟨q, 0, none⟩)] u fun e w' => e = .returned (.agg #[.int .i64 (MemSig.f0At m.sigs s.toNat), .int .i64 (MemSig.f1At m.sigs s.toNat)]) ∧ Below u.heap.size u w') := fun u hu => ValidIns.own q u p m s x a nb cb h _ st (E.b.later hu) (E.hR.later hu) E.h0 E.h1
  have kL : Hid (∀ u : World, BW u q (fF p m s x a nb cb) h (.slice (some ⟨g, 0, none⟩) (n + 1) cap) st → Calls Tryz.prog 119 #[.pointer (some ⟨q, 0, none⟩), .int .i64 (MemSig.f1At m.sigs s.toNat)] u (Res u q (fF p m s x a nb cb) (.slice (some ⟨g, 0, none⟩) (n + 1) cap) (PlainValid.leave (ctxOf m s x).own (h, st)))) := fun u hu => leaveR q g n cap u (fF p m s x a nb cb) h st (MemSig.f1At m.sigs s.toNat) hu (by omega) (by omega) (by omega) (by omega) (by omega) (by omega) (by omega)
  generalize PlainValid.leave (ctxOf m s x).own (h, st) = X at *
  have hrf := run_sig1
  generalize MemSig.f0At m.sigs s.toNat = X0 at *
  generalize MemSig.f1At m.sigs s.toNat = X1 at *
  clear E B ht hn e1
  go_enter Tryz.func80, Tryz.ntmps80
  go_wp2_with (first | (go_at_call 118; refine (kT.out _ (belA w _)).mono ?_; rintro e w1 ⟨rfl, q1⟩; obtain ⟨z0, z1, z2⟩ := boxLater q1; have b1 : Hid (Below w.heap.size w w1) := belB q1) | (go_at_call 116; refine (kO.out _ b1.out).mono ?_; rintro e w2 ⟨rfl, q2⟩; have b2 : Hid (Below w.heap.size w w2) := b1.out.trans (q2.mono b1.out.size)) | (go_at_call 119; refine (kL.out _ (hbl.out _ b2.out)).mono ?_; rintro e w3 ⟨ok, h2, v2, st2, rfl, b3, k2, hr⟩; have b2' : Hid (BW w3 q (fF p m s x a nb cb) h2 v2 st2) := b3; have hr' : Hid (X = if ok = true then some (h2, st2) else none) := hr; clear b3 hr))
  go_ret
  exact ⟨ok, h2, v2, st2, rfl, b2'.out, (Kp.below _ b2.out).trans k2, hr'.out⟩
set_option maxRecDepth 20000 in
set_option maxHeartbeats 8000000 in
theorem stepElse (q g n cap : Nat) (w : World) (p : P) (m : M) (s x : Int) (a : Option Addr) (nb cb : Nat) (h : Int) (st : List Fr) (o i b0 : Int) (E : Env q g n cap w p m s x a nb cb h st o i) (B : Bnd 10000 (h, st)) (ho : o ≠ 0 ∧ o ≠ 2 ∧ o ≠ 3 ∧ o ≠ 4 ∧ o ≠ 5 ∧ o ≠ 11 ∧ o ≠ 12 ∧ o ≠ 13 ∧ o ≠ 15) (ht : PlainValid.there (ctxOf m s x) o i (n + 1) = true) :
    Calls Tryz.prog 80 #[.pointer (some ⟨q, 0, none⟩), .agg #[.int .i64 o, .int .i64 i, .int .i64 b0]] w (Res w q (fF p m s x a nb cb) (.slice (some ⟨g, 0, none⟩) (n + 1) cap) (PlainValid.step (ctxOf m s x) o i (h, st))) := by
  have hbl : Hid (∀ u : World, Below w.heap.size w u → BW u q (fF p m s x a nb cb) h (.slice (some ⟨g, 0, none⟩) (n + 1) cap) st) := fun u hu => E.b.later hu
  have hn := E.b.len
  obtain ⟨t0, t1, t2, t3⟩ := B.top (by omega : st.length ≠ 0)
  have hlo := B.lo
  have hhi := B.hi
  simp only [top_is hn] at t0 t1 t2 t3
  dsimp only at hlo hhi
  have hnn := E.hn
  have kT : Hid (∀ u : World, Below w.heap.size w u → Calls Tryz.prog 118 #[.pointer (some ⟨q, 0, none⟩), .agg #[.int .i64 o, .int .i64 i, .int .i64 b0]] u fun e w' => e = .returned (.bool true) ∧ Below u.heap.size u w') := fun u hu => by
    have := ValidIns.there q g n cap u p m s x a nb cb h st o i b0 (envLater E hu)
    rw [ht] at this
    exact this
  have e1 : Hid (PlainValid.step (ctxOf m s x) o i (h, st) = exch (effT (ctxOf m s x) o i) (effP (ctxOf m s x) o i) (h, st)) := by show _ = _; unfold PlainValid.step; dsimp only; rw [← hn, if_neg (by rw [ht]; decide), if_neg (by omega), if_neg (by omega), if_neg (by omega), if_neg (by omega), if_neg (by omega), if_neg (by omega), if_neg (by omega)]
  rw [e1.out]
  obtain ⟨f0, f1, f2, f3⟩ := eff_bnd (okC E.f (s := s) (x := x) E.h0 E.h1) E.hi ht
  have kE : Hid (∀ u : World, Below w.heap.size w u → Calls Tryz.prog 121 #[.pointer (some ⟨q, 0, none⟩), .agg #[.int .i64 o, .int .i64 i, .int .i64 b0]] u fun e w' => e = .returned (.agg #[.int .i64 (effT (ctxOf m s x) o i), .int .i64 (effP (ctxOf m s x) o i)]) ∧ Below u.heap.size u w') := fun u hu => ValidEff.effect q g n cap u p m s x a nb cb h st o i b0 (envLater E hu) ht
  have kX : Hid (∀ u : World, BW u q (fF p m s x a nb cb) h (.slice (some ⟨g, 0, none⟩) (n + 1) cap) st → Calls Tryz.prog 120 #[.pointer (some ⟨q, 0, none⟩), .agg #[.int .i64 (effT (ctxOf m s x) o i), .int .i64 (effP (ctxOf m s x) o i)]] u fun e w' => ∃ ok h', e = .returned (.bool ok) ∧ BW w' q (fF p m s x a nb cb) h' (.slice (some ⟨g, 0, none⟩) (n + 1) cap) st ∧ Kp q u w' (.slice (some ⟨g, 0, none⟩) (n + 1) cap) (.slice (some ⟨g, 0, none⟩) (n + 1) cap) ∧ exch (effT (ctxOf m s x) o i) (effP (ctxOf m s x) o i) (h, st) = if ok = true then some (h', st) else none) := fun u hu => exchR q g n cap u (fF p m s x a nb cb) h st _ _ hu (by omega) (by omega) (by omega) (by omega) (by omega) f0 (by omega) (by omega)
  generalize exch (effT (ctxOf m s x) o i) (effP (ctxOf m s x) o i) (h, st) = X at *
  generalize effT (ctxOf m s x) o i = X0 at *
  generalize effP (ctxOf m s x) o i = X1 at *
  have n0 : (o == 0) = false := by simpa using (show o ≠ 0 by omega)
  have n2 : (o == 2) = false := by simpa using (show o ≠ 2 by omega)
  have n3 : (o == 3) = false := by simpa using (show o ≠ 3 by omega)
  have n4 : (o == 4) = false := by simpa using (show o ≠ 4 by omega)
  have n5 : (o == 5) = false := by simpa using (show o ≠ 5 by omega)
  have n11 : (o == 11) = false := by simpa using (show o ≠ 11 by omega)
  have n12 : (o == 12) = false := by simpa using (show o ≠ 12 by omega)
  have n13 : (o == 13) = false := by simpa using (show o ≠ 13 by omega)
  have n15 : (o == 15) = false := by simpa using (show o ≠ 15 by omega)
  clear E B ht hn e1 ho
  go_enter Tryz.func80, Tryz.ntmps80
  go_wp2_with (first | (go_at_call 118; refine (kT.out _ (belA w _)).mono ?_; rintro e w1 ⟨rfl, q1⟩; obtain ⟨z0, z1, z2⟩ := boxLater q1; have b1 : Hid (Below w.heap.size w w1) := belB q1) | (go_at_call 121; refine (kE.out _ b1.out).mono ?_; rintro e w2 ⟨rfl, q2⟩; have b2 : Hid (Below w.heap.size w w2) := b1.out.trans (q2.mono b1.out.size)) | (go_at_call 120; refine (kX.out _ (hbl.out _ b2.out)).mono ?_; rintro e w3 ⟨ok, h2, rfl, b3, k2, hr⟩; have b2' : Hid (BW w3 q (fF p m s x a nb cb) h2 (.slice (some ⟨g, 0, none⟩) (n + 1) cap) st) := b3; have hr' : Hid (X = if ok = true then some (h2, st) else none) := hr; clear b3 hr))
  go_ret
  exact ⟨ok, h2, _, st, rfl, b2'.out, (Kp.below _ b2.out).trans k2, hr'.out⟩
set_option maxRecDepth 20000 in
set_option maxHeartbeats 8000000 in
theorem step2 (q g n cap : Nat) (w : World) (p : P) (m : M) (s x : Int) (a : Option Addr) (nb cb : Nat) (h : Int) (st : List Fr) (o i b0 : Int) (E : Env q g n cap w p m s x a nb cb h st o i) (B : Bnd 10000 (h, st)) (ho : o = 2) (ht : PlainValid.there (ctxOf m s x) o i (n + 1) = true) :
    Calls Tryz.prog 80 #[.pointer (some ⟨q, 0, none⟩), .agg #[.int .i64 o, .int .i64 i, .int .i64 b0]] w (Res w q (fF p m s x a nb cb) (.slice (some ⟨g, 0, none⟩) (n + 1) cap) (PlainValid.step (ctxOf m s x) o i (h, st))) := by
  subst ho
  have hbl : Hid (∀ u : World, Below w.heap.size w u → BW u q (fF p m s x a nb cb) h (.slice (some ⟨g, 0, none⟩) (n + 1) cap) st) := fun u hu => E.b.later hu
  have hn := E.b.len
  obtain ⟨t0, t1, t2, t3⟩ := B.top (by omega : st.length ≠ 0)
  have hlo := B.lo
  have hhi := B.hi
  simp only [top_is hn] at t0 t1 t2 t3
  dsimp only at hlo hhi
  have hnn := E.hn
  have kT : Hid (∀ u : World, Below w.heap.size w u → Calls Tryz.prog 118 #[.pointer (some ⟨q, 0, none⟩), .agg #[.int .i64 2, .int .i64 i, .int .i64 b0]] u fun e w' => e = .returned (.bool true) ∧ Below u.heap.size u w') := fun u hu => by
    have := ValidIns.there q g n cap u p m s x a nb cb h st 2 i b0 (envLater E hu)
    rw [ht] at this
    exact this
  have e1 : Hid (PlainValid.step (ctxOf m s x) 2 i (h, st) = (exch (effT (ctxOf m s x) 2 i) 0 (h, st)).map (opens 2 i)) := by show _ = _; unfold PlainValid.step; dsimp only; rw [← hn, if_neg (by rw [ht]; decide), if_neg (by omega), if_pos (by omega)]
  rw [e1.out]
  have eP : Hid (effP (ctxOf m s x) 2 i = 0) := rfl
  obtain ⟨f0, f1, f2, f3⟩ := eff_bnd (okC E.f (s := s) (x := x) E.h0 E.h1) E.hi ht
  have kE : Hid (∀ u : World, Below w.heap.size w u → Calls Tryz.prog 121 #[.pointer (some ⟨q, 0, none⟩), .agg #[.int .i64 2, .int .i64 i, .int .i64 b0]] u fun e w' => e = .returned (.agg #[.int .i64 (effT (ctxOf m s x) 2 i), .int .i64 (effP (ctxOf m s x) 2 i)]) ∧ Below u.heap.size u w') := fun u hu => ValidEff.effect q g n cap u p m s x a nb cb h st 2 i b0 (envLater E hu) ht
  have kX : Hid (∀ u : World, BW u q (fF p m s x a nb cb) h (.slice (some ⟨g, 0, none⟩) (n + 1) cap) st → Calls Tryz.prog 120 #[.pointer (some ⟨q, 0, none⟩), .agg #[.int .i64 (effT (ctxOf m s x) 2 i), .int .i64 (effP (ctxOf m s x) 2 i)]] u fun e w' => ∃ ok h', e = .returned (.bool ok) ∧ BW w' q (fF p m s x a nb cb) h' (.slice (some ⟨g, 0, none⟩) (n + 1) cap) st ∧ Kp q u w' (.slice (some ⟨g, 0, none⟩) (n + 1) cap) (.slice (some ⟨g, 0, none⟩) (n + 1) cap) ∧ exch (effT (ctxOf m s x) 2 i) (effP (ctxOf m s x) 2 i) (h, st) = if ok = true then some (h', st) else none) := fun u hu => exchR q g n cap u (fF p m s x a nb cb) h st _ _ hu (by omega) (by omega) (by omega) (by omega) (by omega) f0 (by omega) (by omega)
  rw [eP.out] at kE kX
  have kO : Hid (∀ (u : World) (h' : Int), BW u q (fF p m s x a nb cb) h' (.slice (some ⟨g, 0, none⟩) (n + 1) cap) st → Calls Tryz.prog 115 #[.pointer (some ⟨q, 0, none⟩), .int .i64 2, .int .i64 i] u fun e w' => e = .returned (.tuple #[]) ∧ ∃ g' cap', BW w' q (fF p m s x a nb cb) h' (.slice (some ⟨g', 0, none⟩) (st.length + 1) cap') (st ++ [⟨2, i, h', false⟩]) ∧ Kp q u w' (.slice (some ⟨g, 0, none⟩) (n + 1) cap) (.slice (some ⟨g', 0, none⟩) (st.length + 1) cap')) := fun u h' hu => openUp q u (fF p m s x a nb cb) h' _ st 2 i hu (by omega)
  have hap : Hid (w.heap.size ≠ q ∧ some w.heap.size ≠ (Value.slice (some ⟨g, 0, none⟩) (n + 1) cap).ownBlock) := E.b.past (Nat.le_refl _)
  generalize exch (effT (ctxOf m s x) 2 i) 0 (h, st) = X at *
  generalize effT (ctxOf m s x) 2 i = X0 at *
  clear E B ht hn e1 eP
  go_enter Tryz.func80, Tryz.ntmps80
  go_wp2_with (first | (go_at_call 118; refine (kT.out _ (belA w _)).mono ?_; rintro e w1 ⟨rfl, q1⟩; obtain ⟨z0, z1, z2⟩ := boxLater q1; have b1 : Hid (Below w.heap.size w w1) := belB q1) | (go_at_call 121; refine (kE.out _ b1.out).mono ?_; rintro e w2 ⟨rfl, q2⟩; have b2 : Hid (Below w.heap.size w w2) := b1.out.trans (q2.mono b1.out.size); have q12 := q1.trans (q2.mono q1.size); clear z0 z1 z2; obtain ⟨z0, z1, z2⟩ := boxLater q12) | (go_at_call 120; refine (kX.out _ (hbl.out _ b2.out)).mono ?_; rintro e w3 ⟨ok, h2, rfl, b3, k2, hr⟩; have b2' : Hid (BW w3 q (fF p m s x a nb cb) h2 (.slice (some ⟨g, 0, none⟩) (n + 1) cap) st) := b3; have hr' : Hid (X = if ok = true then some (h2, st) else none) := hr; have y0 := k2.cell z0 hap.out.1 hap.out.2; have y1 := k2.cell z1 hap.out.1 hap.out.2; clear b3 hr z0 z1 z2) | (go_at_call 115; refine (kO.out _ _ b2'.out).mono ?_; rintro e w4 ⟨rfl, g4, cap4, b4, k4⟩; have b4' : Hid (BW w4 q (fF p m s x a nb cb) h2 (.slice (some ⟨g4, 0, none⟩) (st.length + 1) cap4) (st ++ [⟨2, i, h2, false⟩])) := b4; clear b4))
  go_ret
  refine ⟨ok, h2, _, _, rfl, b4'.out, ((Kp.below _ b2.out).trans k2).trans k4, ?_⟩
  rw [hr'.out]
  cases ok <;> rfl
set_option maxRecDepth 20000 in
set_option maxHeartbeats 8000000 in
theorem step3 (q g n cap : Nat) (w : World) (p : P) (m : M) (s x : Int) (a : Option Addr) (nb cb : Nat) (h : Int) (st : List Fr) (o i b0 : Int) (E : Env q g n cap w p m s x a nb cb h st o i) (B : Bnd 10000 (h, st)) (ho : o = 3) (ht : PlainValid.there (ctxOf m s x) o i (n + 1) = true) :
    Calls Tryz.prog 80 #[.pointer (some ⟨q, 0, none⟩), .agg #[.int .i64 o, .int .i64 i, .int .i64 b0]] w (Res w q (fF p m s x a nb cb) (.slice (some ⟨g, 0, none⟩) (n + 1) cap) (PlainValid.step (ctxOf m s x) o i (h, st))) := by
  subst ho
  have hbl : Hid (∀ u : World, Below w.heap.size w u → BW u q (fF p m s x a nb cb) h (.slice (some ⟨g, 0, none⟩) (n + 1) cap) st) := fun u hu => E.b.later hu
  have hn := E.b.len
  obtain ⟨t0, t1, t2, t3⟩ := B.top (by omega : st.length ≠ 0)
  have hlo := B.lo
  have hhi := B.hi
  simp only [top_is hn] at t0 t1 t2 t3
  dsimp only at hlo hhi
  have hnn := E.hn
  have kT : Hid (∀ u : World, Below w.heap.size w u → Calls Tryz.prog 118 #[.pointer (some ⟨q, 0, none⟩), .agg #[.int .i64 3, .int .i64 i, .int .i64 b0]] u fun e w' => e = .returned (.bool true) ∧ Below u.heap.size u w') := fun u hu => by
    have := ValidIns.there q g n cap u p m s x a nb cb h st 3 i b0 (envLater E hu)
    rw [ht] at this
    exact this
  have e1 : Hid (PlainValid.step (ctxOf m s x) 3 i (h, st) = (exch (effT (ctxOf m s x) 3 i) 0 (h, st)).map (opens 3 i)) := by show _ = _; unfold PlainValid.step; dsimp only; rw [← hn, if_neg (by rw [ht]; decide), if_neg (by omega), if_pos (by omega)]
  rw [e1.out]
  have eP : Hid (effP (ctxOf m s x) 3 i = 0) := rfl
  obtain ⟨f0, f1, f2, f3⟩ := eff_bnd (okC E.f (s := s) (x := x) E.h0 E.h1) E.hi ht
  have kE : Hid (∀ u : World, Below w.heap.size w u → Calls Tryz.prog 121 #[.pointer (some ⟨q, 0, none⟩), .agg #[.int .i64 3, .int .i64 i, .int .i64 b0]] u fun e w' => e = .returned (.agg #[.int .i64 (effT (ctxOf m s x) 3 i), .int .i64 (effP (ctxOf m s x) 3 i)]) ∧ Below u.heap.size u w') := fun u hu => ValidEff.effect q g n cap u p m s x a nb cb h st 3 i b0 (envLater E hu) ht
  have kX : Hid (∀ u : World, BW u q (fF p m s x a nb cb) h (.slice (some ⟨g, 0, none⟩) (n + 1) cap) st → Calls Tryz.prog 120 #[.pointer (some ⟨q, 0, none⟩), .agg #[.int .i64 (effT (ctxOf m s x) 3 i), .int .i64 (effP (ctxOf m s x) 3 i)]] u fun e w' => ∃ ok h', e = .returned (.bool ok) ∧ BW w' q (fF p m s x a nb cb) h' (.slice (some ⟨g, 0, none⟩) (n + 1) cap) st ∧ Kp q u w' (.slice (some ⟨g, 0, none⟩) (n + 1) cap) (.slice (some ⟨g, 0, none⟩) (n + 1) cap) ∧ exch (effT (ctxOf m s x) 3 i) (effP (ctxOf m s x) 3 i) (h, st) = if ok = true then some (h', st) else none) := fun u hu => exchR q g n cap u (fF p m s x a nb cb) h st _ _ hu (by omega) (by omega) (by omega) (by omega) (by omega) f0 (by omega) (by omega)
  rw [eP.out] at kE kX
  have kO : Hid (∀ (u : World) (h' : Int), BW u q (fF p m s x a nb cb) h' (.slice (some ⟨g, 0, none⟩) (n + 1) cap) st → Calls Tryz.prog 115 #[.pointer (some ⟨q, 0, none⟩), .int .i64 3, .int .i64 i] u fun e w' => e = .returned (.tuple #[]) ∧ ∃ g' cap', BW w' q (fF p m s x a nb cb) h' (.slice (some ⟨g', 0, none⟩) (st.length + 1) cap') (st ++ [⟨3, i, h', false⟩]) ∧ Kp q u w' (.slice (some ⟨g, 0, none⟩) (n + 1) cap) (.slice (some ⟨g', 0, none⟩) (st.length + 1) cap')) := fun u h' hu => openUp q u (fF p m s x a nb cb) h' _ st 3 i hu (by omega)
  have hap : Hid (w.heap.size ≠ q ∧ some w.heap.size ≠ (Value.slice (some ⟨g, 0, none⟩) (n + 1) cap).ownBlock) := E.b.past (Nat.le_refl _)
  generalize exch (effT (ctxOf m s x) 3 i) 0 (h, st) = X at *
  generalize effT (ctxOf m s x) 3 i = X0 at *
  clear E B ht hn e1 eP
  go_enter Tryz.func80, Tryz.ntmps80
  go_wp2_with (first | (go_at_call 118; refine (kT.out _ (belA w _)).mono ?_; rintro e w1 ⟨rfl, q1⟩; obtain ⟨z0, z1, z2⟩ := boxLater q1; have b1 : Hid (Below w.heap.size w w1) := belB q1) | (go_at_call 121; refine (kE.out _ b1.out).mono ?_; rintro e w2 ⟨rfl, q2⟩; have b2 : Hid (Below w.heap.size w w2) := b1.out.trans (q2.mono b1.out.size); have q12 := q1.trans (q2.mono q1.size); clear z0 z1 z2; obtain ⟨z0, z1, z2⟩ := boxLater q12) | (go_at_call 120; refine (kX.out _ (hbl.out _ b2.out)).mono ?_; rintro e w3 ⟨ok, h2, rfl, b3, k2, hr⟩; have b2' : Hid (BW w3 q (fF p m s x a nb cb) h2 (.slice (some ⟨g, 0, none⟩) (n + 1) cap) st) := b3; have hr' : Hid (X = if ok = true then some (h2, st) else none) := hr; have y0 := k2.cell z0 hap.out.1 hap.out.2; have y1 := k2.cell z1 hap.out.1 hap.out.2; clear b3 hr z0 z1 z2) | (go_at_call 115; refine (kO.out _ _ b2'.out).mono ?_; rintro e w4 ⟨rfl, g4, cap4, b4, k4⟩; have b4' : Hid (BW w4 q (fF p m s x a nb cb) h2 (.slice (some ⟨g4, 0, none⟩) (st.length + 1) cap4) (st ++ [⟨3, i, h2, false⟩])) := b4; clear b4))
  go_ret
  refine ⟨ok, h2, _, _, rfl, b4'.out, ((Kp.below _ b2.out).trans k2).trans k4, ?_⟩
  rw [hr'.out]
  cases ok <;> rfl
set_option maxRecDepth 20000 in
set_option maxHeartbeats 8000000 in
theorem step4 (q g n cap : Nat) (w : World) (p : P) (m : M) (s x : Int) (a : Option Addr) (nb cb : Nat) (h : Int) (st : List Fr) (o i b0 : Int) (E : Env q g n cap w p m s x a nb cb h st o i) (B : Bnd 10000 (h, st)) (ho : o = 4) (ht : PlainValid.there (ctxOf m s x) o i (n + 1) = true) :
    Calls Tryz.prog 80 #[.pointer (some ⟨q, 0, none⟩), .agg #[.int .i64 o, .int .i64 i, .int .i64 b0]] w (Res w q (fF p m s x a nb cb) (.slice (some ⟨g, 0, none⟩) (n + 1) cap) (PlainValid.step (ctxOf m s x) o i (h, st))) := by
  subst ho
  have hbl : Hid (∀ u : World, Below w.heap.size w u → BW u q (fF p m s x a nb cb) h (.slice (some ⟨g, 0, none⟩) (n + 1) cap) st) := fun u hu => E.b.later hu
  have hn := E.b.len
  obtain ⟨t0, t1, t2, t3⟩ := B.top (by omega : st.length ≠ 0)
  have hlo := B.lo
  have hhi := B.hi
  simp only [top_is hn] at t0 t1 t2 t3
  dsimp only at hlo hhi
  have hnn := E.hn
  have kT : Hid (∀ u : World, Below w.heap.size w u → Calls Tryz.prog 118 #[.pointer (some ⟨q, 0, none⟩), .agg #[.int .i64 4, .int .i64 i, .int .i64 b0]] u fun e w' => e = .returned (.bool true) ∧ Below u.heap.size u w') := fun u hu => by
    have := ValidIns.there q g n cap u p m s x a nb cb h st 4 i b0 (envLater E hu)
    rw [ht] at this
    exact this
  have e1 : Hid (PlainValid.step (ctxOf m s x) 4 i (h, st) = (exch (effT (ctxOf m s x) 4 i) 0 (h, st)).map (opens 4 i)) := by show _ = _; unfold PlainValid.step; dsimp only; rw [← hn, if_neg (by rw [ht]; decide), if_neg (by omega), if_pos (by omega)]
  rw [e1.out]
  have eP : Hid (effP (ctxOf m s x) 4 i = 0) := rfl
  obtain ⟨f0, f1, f2, f3⟩ := eff_bnd (okC E.f (s := s) (x := x) E.h0 E.h1) E.hi ht
  have kE : Hid (∀ u : World, Below w.heap.size w u → Calls Tryz.prog 121 #[.pointer (some ⟨q, 0, none⟩), .agg #[.int .i64 4, .int .i64 i, .int .i64 b0]] u fun e w' => e = .returned (.agg #[.int .i64 (effT (ctxOf m s x) 4 i), .int .i64 (effP (ctxOf m s x) 4 i)]) ∧ Below u.heap.size u w') := fun u hu => ValidEff.effect q g n cap u p m s x a nb cb h st 4 i b0 (envLater E hu) ht
  have kX : Hid (∀ u : World, BW u q (fF p m s x a nb cb) h (.slice (some ⟨g, 0, none⟩) (n + 1) cap) st → Calls Tryz.prog 120 #[.pointer (some ⟨q, 0, none⟩), .agg #[.int .i64 (effT (ctxOf m s x) 4 i), .int .i64 (effP (ctxOf m s x) 4 i)]] u fun e w' => ∃ ok h', e = .returned (.bool ok) ∧ BW w' q (fF p m s x a nb cb) h' (.slice (some ⟨g, 0, none⟩) (n + 1) cap) st ∧ Kp q u w' (.slice (some ⟨g, 0, none⟩) (n + 1) cap) (.slice (some ⟨g, 0, none⟩) (n + 1) cap) ∧ exch (effT (ctxOf m s x) 4 i) (effP (ctxOf m s x) 4 i) (h, st) = if ok = true then some (h', st) else none) := fun u hu => exchR q g n cap u (fF p m s x a nb cb) h st _ _ hu (by omega) (by omega) (by omega) (by omega) (by omega) f0 (by omega) (by omega)
  rw [eP.out] at kE kX
  have kO : Hid (∀ (u : World) (h' : Int), BW u q (fF p m s x a nb cb) h' (.slice (some ⟨g, 0, none⟩) (n + 1) cap) st → Calls Tryz.prog 115 #[.pointer (some ⟨q, 0, none⟩), .int .i64 4, .int .i64 i] u fun e w' => e = .returned (.tuple #[]) ∧ ∃ g' cap', BW w' q (fF p m s x a nb cb) h' (.slice (some ⟨g', 0, none⟩) (st.length + 1) cap') (st ++ [⟨4, i, h', false⟩]) ∧ Kp q u w' (.slice (some ⟨g, 0, none⟩) (n + 1) cap) (.slice (some ⟨g', 0, none⟩) (st.length + 1) cap')) := fun u h' hu => openUp q u (fF p m s x a nb cb) h' _ st 4 i hu (by omega)
  have hap : Hid (w.heap.size ≠ q ∧ some w.heap.size ≠ (Value.slice (some ⟨g, 0, none⟩) (n + 1) cap).ownBlock) := E.b.past (Nat.le_refl _)
  generalize exch (effT (ctxOf m s x) 4 i) 0 (h, st) = X at *
  generalize effT (ctxOf m s x) 4 i = X0 at *
  clear E B ht hn e1 eP
  go_enter Tryz.func80, Tryz.ntmps80
  go_wp2_with (first | (go_at_call 118; refine (kT.out _ (belA w _)).mono ?_; rintro e w1 ⟨rfl, q1⟩; obtain ⟨z0, z1, z2⟩ := boxLater q1; have b1 : Hid (Below w.heap.size w w1) := belB q1) | (go_at_call 121; refine (kE.out _ b1.out).mono ?_; rintro e w2 ⟨rfl, q2⟩; have b2 : Hid (Below w.heap.size w w2) := b1.out.trans (q2.mono b1.out.size); have q12 := q1.trans (q2.mono q1.size); clear z0 z1 z2; obtain ⟨z0, z1, z2⟩ := boxLater q12) | (go_at_call 120; refine (kX.out _ (hbl.out _ b2.out)).mono ?_; rintro e w3 ⟨ok, h2, rfl, b3, k2, hr⟩; have b2' : Hid (BW w3 q (fF p m s x a nb cb) h2 (.slice (some ⟨g, 0, none⟩) (n + 1) cap) st) := b3; have hr' : Hid (X = if ok = true then some (h2, st) else none) := hr; have y0 := k2.cell z0 hap.out.1 hap.out.2; have y1 := k2.cell z1 hap.out.1 hap.out.2; clear b3 hr z0 z1 z2) | (go_at_call 115; refine (kO.out _ _ b2'.out).mono ?_; rintro e w4 ⟨rfl, g4, cap4, b4, k4⟩; have b4' : Hid (BW w4 q (fF p m s x a nb cb) h2 (.slice (some ⟨g4, 0, none⟩) (st.length + 1) cap4) (st ++ [⟨4, i, h2, false⟩])) := b4; clear b4))
  go_ret
  refine ⟨ok, h2, _, _, rfl, b4'.out, ((Kp.below _ b2.out).trans k2).trans k4, ?_⟩
  rw [hr'.out]
  cases ok <;> rfl
set_option maxRecDepth 20000 in
set_option maxHeartbeats 8000000 in
theorem step13 (q g j k cap : Nat) (w : World) (p : P) (m : M) (s x : Int) (a : Option Addr) (nb cb : Nat) (h : Int) (st : List Fr) (b0 : Int) (E : Env q g (j + k) cap w p m s x a nb cb h st 13 (k : Int)) (B : Bnd 10000 (h, st)) (ht : PlainValid.there (ctxOf m s x) 13 (k : Int) (j + k + 1) = true) :
    Calls Tryz.prog 80 #[.pointer (some ⟨q, 0, none⟩), .agg #[.int .i64 13, .int .i64 (k : Int), .int .i64 b0]] w (Res w q (fF p m s x a nb cb) (.slice (some ⟨g, 0, none⟩) (j + k + 1) cap) (PlainValid.step (ctxOf m s x) 13 (k : Int) (h, st))) := by
  have hbl : Hid (∀ u : World, Below w.heap.size w u → BW u q (fF p m s x a nb cb) h (.slice (some ⟨g, 0, none⟩) (j + k + 1) cap) st) := fun u hu => E.b.later hu
  have hn := E.b.len
  obtain ⟨t0, t1, t2, t3⟩ := B.top (by omega : st.length ≠ 0)
  have hlo := B.lo
  have hhi := B.hi
  simp only [top_is hn] at t0 t1 t2 t3
  dsimp only at hlo hhi
  have hnn := E.hn
  have kT : Hid (∀ u : World, Below w.heap.size w u → Calls Tryz.prog 118 #[.pointer (some ⟨q, 0, none⟩), .agg #[.int .i64 13, .int .i64 (k : Int), .int .i64 b0]] u fun e w' => e = .returned (.bool true) ∧ Below u.heap.size u w') := fun u hu => by
    have := ValidIns.there q g (j + k) cap u p m s x a nb cb h st 13 (k : Int) b0 (envLater E hu)
    rw [ht] at this
    exact this
  have hbt := brT_bnd B (j := j) (by show j < st.length; omega)
  dsimp only at hbt
  have e1 : Hid (PlainValid.step (ctxOf m s x) 13 (k : Int) (h, st) = brIf (brT (st.getD j dF)) (h, st)) := by show _ = _; unfold PlainValid.step; dsimp only; rw [← hn, if_neg (by rw [ht]; decide), if_neg (by omega), if_neg (by omega), if_neg (by omega), if_neg (by omega), if_neg (by omega), if_pos rfl, show j + k + 1 - 1 - ((k : Int)).toNat = j by omega]
  rw [e1.out]
  have kL : Hid (∀ u : World, BW u q (fF p m s x a nb cb) h (.slice (some ⟨g, 0, none⟩) (j + k + 1) cap) st → Calls Tryz.prog 125 #[.pointer (some ⟨q, 0, none⟩), .int .i64 (k : Int)] u (Res u q (fF p m s x a nb cb) (.slice (some ⟨g, 0, none⟩) (j + k + 1) cap) (brIf (brT (st.getD j dF)) (h, st)))) := fun u hu => branchIfR q g j k cap u (fF p m s x a nb cb) h st hu (by omega) (by omega) (by omega) (by omega) (by omega) hbt
  generalize brIf (brT (st.getD j dF)) (h, st) = X at *
  clear E B ht hn e1
  go_enter Tryz.func80, Tryz.ntmps80
  go_wp2_with (first | (go_at_call 118; refine (kT.out _ (belA w _)).mono ?_; rintro e w1 ⟨rfl, q1⟩; obtain ⟨z0, z1, z2⟩ := boxLater q1; have b1 : Hid (Below w.heap.size w w1) := belB q1) | (go_at_call 125; refine (kL.out _ (hbl.out _ b1.out)).mono ?_; rintro e w2 ⟨ok, h2, v2, st2, rfl, b2, k2, hr⟩; have b2' : Hid (BW w2 q (fF p m s x a nb cb) h2 v2 st2) := b2; have hr' : Hid (X = if ok = true then some (h2, st2) else none) := hr; clear b2 hr))
  go_ret
  exact ⟨ok, h2, v2, st2, rfl, b2'.out, (Kp.below _ b1.out).trans k2, hr'.out⟩
set_option maxRecDepth 20000 in
set_option maxHeartbeats 8000000 in
theorem step12 (q g j k cap : Nat) (w : World) (p : P) (m : M) (s x : Int) (a : Option Addr) (nb cb : Nat) (h : Int) (st : List Fr) (b0 : Int) (E : Env q g (j + k) cap w p m s x a nb cb h st 12 (k : Int)) (B : Bnd 10000 (h, st)) (ht : PlainValid.there (ctxOf m s x) 12 (k : Int) (j + k + 1) = true) :
    Calls Tryz.prog 80 #[.pointer (some ⟨q, 0, none⟩), .agg #[.int .i64 12, .int .i64 (k : Int), .int .i64 b0]] w (Res w q (fF p m s x a nb cb) (.slice (some ⟨g, 0, none⟩) (j + k + 1) cap) (PlainValid.step (ctxOf m s x) 12 (k : Int) (h, st))) := by
  have hbl : Hid (∀ u : World, Below w.heap.size w u → BW u q (fF p m s x a nb cb) h (.slice (some ⟨g, 0, none⟩) (j + k + 1) cap) st) := fun u hu => E.b.later hu
  have hn := E.b.len
  obtain ⟨t0, t1, t2, t3⟩ := B.top (by omega : st.length ≠ 0)
  have hlo := B.lo
  have hhi := B.hi
  simp only [top_is hn] at t0 t1 t2 t3
  dsimp only at hlo hhi
  have hnn := E.hn
  have kT : Hid (∀ u : World, Below w.heap.size w u → Calls Tryz.prog 118 #[.pointer (some ⟨q, 0, none⟩), .agg #[.int .i64 12, .int .i64 (k : Int), .int .i64 b0]] u fun e w' => e = .returned (.bool true) ∧ Below u.heap.size u w') := fun u hu => by
    have := ValidIns.there q g (j + k) cap u p m s x a nb cb h st 12 (k : Int) b0 (envLater E hu)
    rw [ht] at this
    exact this
  have hbt := brT_bnd B (j := j) (by show j < st.length; omega)
  dsimp only at hbt
  have e1 : Hid (PlainValid.step (ctxOf m s x) 12 (k : Int) (h, st) = PlainValid.leave (brT (st.getD j dF)) (h, st)) := by show _ = _; unfold PlainValid.step; dsimp only; rw [← hn, if_neg (by rw [ht]; decide), if_neg (by omega), if_neg (by omega), if_neg (by omega), if_neg (by omega), if_pos rfl, show j + k + 1 - 1 - ((k : Int)).toNat = j by omega]
  rw [e1.out]
  have kF : Hid (∀ u : World, u.cell? ⟨q, 12, none⟩ = some (.slice (some ⟨g, 0, none⟩) (j + k + 1) cap) → Calls Tryz.prog 123 #[.pointer (some ⟨q, 12, none⟩), .int .i64 (k : Int)] u fun e w' => e = .returned (.pointer (some ⟨g, j * 4, none⟩)) ∧ Below u.heap.size u w') := fun u hu => (fromTop q g j k cap u hu (by omega)).mono fun _ _ ⟨z1, m, z2⟩ => ⟨z1, z2 ▸ below_dn u m⟩
  have kB : Hid (∀ u : World, BW u q (fF p m s x a nb cb) h (.slice (some ⟨g, 0, none⟩) (j + k + 1) cap) st → Calls Tryz.prog 124 #[.pointer (some ⟨g, j * 4, none⟩)] u fun e w' => e = .returned (.int .i64 (brT (st.getD j dF))) ∧ u = w') := fun u hu => branchTakes g j _ _ u (hu.cells j (by omega)).1 (hu.cells j (by omega)).2.1 _ _
  have kL : Hid (∀ u : World, BW u q (fF p m s x a nb cb) h (.slice (some ⟨g, 0, none⟩) (j + k + 1) cap) st → Calls Tryz.prog 119 #[.pointer (some ⟨q, 0, none⟩), .int .i64 (brT (st.getD j dF))] u (Res u q (fF p m s x a nb cb) (.slice (some ⟨g, 0, none⟩) (j + k + 1) cap) (PlainValid.leave (brT (st.getD j dF)) (h, st)))) := fun u hu => leaveR q g (j + k) cap u (fF p m s x a nb cb) h st _ hu (by omega) (by omega) (by omega) (by omega) (by omega) hbt.1 (by omega)
  generalize PlainValid.leave (brT (st.getD j dF)) (h, st) = X at *
  generalize brT (st.getD j dF) = c at *
  clear E B ht hn e1
  go_enter Tryz.func80, Tryz.ntmps80
  go_wp2_with (go_at_call 118; refine (kT.out _ (belA w _)).mono ?_; rintro e w1 ⟨rfl, q1⟩; obtain ⟨z0, z1, z2⟩ := boxLater q1; have b1 : Hid (Below w.heap.size w w1) := belB q1)
  go_region_with (first | (go_at_call 123; refine (kF.out _ (hbl.out _ b1.out.drew).pile).mono ?_; rintro e w2 ⟨rfl, q2⟩; have bb : Hid (Below w.heap.size w w2) := b1.out.drew.trans (q2.mono b1.out.size)) | (go_at_call 124; refine (kB.out _ (hbl.out _ bb.out)).mono ?_; rintro e w3 ⟨rfl, rfl⟩) | (go_at_call 119; refine (kL.out _ (hbl.out _ bb.out)).mono ?_; rintro e w4 ⟨ok, h2, v2, st2, rfl, b2, k2, hr⟩; have b2' : Hid (BW w4 q (fF p m s x a nb cb) h2 v2 st2) := b2; have hr' : Hid (X = if ok = true then some (h2, st2) else none) := hr; clear b2 hr))
  all_goals
    go_wp2_with fail
    go_ret
    exact ⟨ok, h2, v2, st2, rfl, b2'.out, (Kp.below _ bb.out).trans k2, hr'.out⟩
theorem stepR (q g n cap : Nat) (w : World) (p : P) (m : M) (s x : Int) (a : Option Addr) (nb cb : Nat) (h : Int) (st : List Fr) (o i b0 : Int) (E : Env q g n cap w p m s x a nb cb h st o i) (B : Bnd 10000 (h, st)) :
    Calls Tryz.prog 80 #[.pointer (some ⟨q, 0, none⟩), .agg #[.int .i64 o, .int .i64 i, .int .i64 b0]] w (Res w q (fF p m s x a nb cb) (.slice (some ⟨g, 0, none⟩) (n + 1) cap) (PlainValid.step (ctxOf m s x) o i (h, st))) := by
  cases ht : PlainValid.there (ctxOf m s x) o i (n + 1) with
  | false => exact stepNo q g n cap w p m s x a nb cb h st o i b0 E B ht
  | true =>
    by_cases c0 : o = 0
    · exact step0 q g n cap w p m s x a nb cb h st o i b0 E B c0 ht
    by_cases c2 : o = 2
    · exact step2 q g n cap w p m s x a nb cb h st o i b0 E B c2 ht
    by_cases c3 : o = 3
    · exact step3 q g n cap w p m s x a nb cb h st o i b0 E B c3 ht
    by_cases c4 : o = 4
    · exact step4 q g n cap w p m s x a nb cb h st o i b0 E B c4 ht
    by_cases c5 : o = 5
    · exact step5 q g n cap w p m s x a nb cb h st o i b0 E B c5 ht
    by_cases c11 : o = 11
    · exact step11 q g n cap w p m s x a nb cb h st o i b0 E B c11 ht
    by_cases c15 : o = 15
    · exact step15 q g n cap w p m s x a nb cb h st o i b0 E B c15 ht
    by_cases c12 : o = 12
    · subst c12
      obtain ⟨i0, i1⟩ := E.hi.idx (by omega)
      have hlt := of_decide_eq_true (show decide (i < ((n + 1 : Nat) : Int)) = true from ht)
      obtain ⟨k, rfl⟩ : ∃ k : Nat, i = k := ⟨i.toNat, by omega⟩
      obtain ⟨j, rfl⟩ : ∃ j : Nat, n = j + k := ⟨n - k, by omega⟩
      exact step12 q g j k cap w p m s x a nb cb h st b0 E B ht
    by_cases c13 : o = 13
    · subst c13
      obtain ⟨i0, i1⟩ := E.hi.idx (by omega)
      have hlt := of_decide_eq_true (show decide (i < ((n + 1 : Nat) : Int)) = true from ht)
      obtain ⟨k, rfl⟩ : ∃ k : Nat, i = k := ⟨i.toNat, by omega⟩
      obtain ⟨j, rfl⟩ : ∃ j : Nat, n = j + k := ⟨n - k, by omega⟩
      exact step13 q g j k cap w p m s x a nb cb h st b0 E B ht
    exact stepElse q g n cap w p m s x a nb cb h st o i b0 E B (by omega) ht
end Go.Proofs.YtajlkdidjelpeaaGreatDoor.ValidStep
