/-
  One instruction of a body, as the program goes through it. (Written by my validstep.py.)
  A body that is rightly shaped, gone through step by step: bounds, and how many are open.
  A whole body, as the program goes through it. (Written by my validwalk.py.)
  The heights of a whole body, as the program tells them. (Written by my validheights.py.)
  FaultAt, StackAt and MaxStack, as the program answers them. (Written by my validface.py.)
  MaxStack, as the program answers it. (Written by my validmax.py.)
-/
import Derived.Test.YtdaffcbamnpjfaaGreatDoorValidEff
import Derived.Test.YtdaffcbamnpjfaaGreatDoorWalksAll
namespace Go.Proofs.YtdaffcbamnpjfaaGreatDoor.ValidStep
open Go.RowKit PlainOps NameCalls PlainNum NumCalls InsCalls InsImpl PlainShape InsMem FormCalls ModMem FormImpl PlainValid ValidCtx ValidMod Piles Walks Walks2 Walks3 Walks4 ValidIns ValidEff

theorem envLater {q g n cap : Nat} {w u : World} {p : P} {m : M} {s x : Int} {a : Option Addr} {nb cb : Nat} {h : Int} {st : List Fr} {o i : Int} (E : Env q g n cap w p m s x a nb cb h st o i) (hb : Below w.heap.size w u) : Env q g n cap u p m s x a nb cb h st o i :=
  ⟨E.b.later hb, E.hR.later hb, E.f, E.h0, E.h1, E.hx, E.hn, E.hi⟩
theorem eff_bnd {c : Ctx} (hc : OkC c) {o i : Int} {n : Nat} (hi : InsF o i) (ht : PlainValid.there c o i n = true) : 0 ≤ effT c o i ∧ effT c o i ≤ 60 ∧ 0 ≤ effP c o i ∧ effP c o i ≤ 1 := by
  by_cases h16 : o = 16
  · subst h16
    have := of_decide_eq_true (show decide (i < ((c.nf : Nat) : Int)) = true from ht)
    obtain ⟨i0, _⟩ := hi.idx (by omega)
    have := hc.sg i.toNat (by omega)
    exact this
  · unfold effT effP
    refine ⟨?_, ?_, ?_, ?_⟩ <;> (repeat' split) <;> omega
/-- The box of the instruction, as it lies behind calls that leave it. -/
theorem boxLater {w u : World} {o i b0 : Int} (hu : Below (w.alloc (.cells #[.int .i64 o, .int .i64 i, .int .i64 b0] 62)).heap.size (w.alloc (.cells #[.int .i64 o, .int .i64 i, .int .i64 b0] 62)) u) : u.cell? ⟨w.heap.size, 0, none⟩ = some (.int .i64 o) ∧ u.cell? ⟨w.heap.size, 1, none⟩ = some (.int .i64 i) ∧ u.cell? ⟨w.heap.size, 2, none⟩ = some (.int .i64 b0) := by
  refine ⟨?_, ?_, ?_⟩ <;> rw [hu.cell (by simp)] <;> simp
theorem belB {w u : World} {ob : Obj} (hu : Below (w.alloc ob).heap.size (w.alloc ob) u) : Below w.heap.size w u := (belA w _).trans (hu.mono (by simp))
set_option maxRecDepth 20000 in
set_option maxHeartbeats 8000000 in
theorem stepNo (q g n cap : Nat) (w : World) (p : P) (m : M) (s x : Int) (a : Option Addr) (nb cb : Nat) (h : Int) (st : List Fr) (o i b0 : Int) (E : Env q g n cap w p m s x a nb cb h st o i) (B : Bnd 10000 (h, st)) (ht : PlainValid.there (ctxOf m s x) o i (n + 1) = false) :
    Calls Tryz.prog 80 #[.pointer (some ⟨q, 0, none⟩), .agg #[.int .i64 o, .int .i64 i, .int .i64 b0]] w (Res w q (fF p m s x a nb cb) (.slice (some ⟨g, 0, none⟩) (n + 1) cap) (PlainValid.step (ctxOf m s x) o i (h, st))) := by
  have hn := E.b.len
  have e1 : Hid (PlainValid.step (ctxOf m s x) o i (h, st) = none) := by show _ = _; unfold PlainValid.step; dsimp only; rw [← hn, if_pos ht]
  rw [e1.out]
  have hbl : Hid (∀ u : World, Below w.heap.size w u → BW u q (fF p m s x a nb cb) h (.slice (some ⟨g, 0, none⟩) (n + 1) cap) st) := fun u hu => E.b.later hu
  obtain ⟨t0, t1, t2, t3⟩ := B.top (by omega : st.length ≠ 0)
  have hlo := B.lo
  have hhi := B.hi
  simp only [top_is hn] at t0 t1 t2 t3
  dsimp only at hlo hhi
  have hnn := E.hn
  have kT : Hid (∀ u : World, Below w.heap.size w u → Calls Tryz.prog 118 #[.pointer (some ⟨q, 0, none⟩), .agg #[.int .i64 o, .int .i64 i, .int .i64 b0]] u fun e w' => e = .returned (.bool false) ∧ Below u.heap.size u w') := fun u hu => by
    have := ValidIns.there q g n cap u p m s x a nb cb h st o i b0 (envLater E hu)
    rw [ht] at this
    exact this
  clear E B ht hn e1
  go_enter Tryz.func80, Tryz.ntmps80
  go_wp2_with (go_at_call 118; refine (kT.out _ (belA w _)).mono ?_; rintro e w1 ⟨rfl, q1⟩; obtain ⟨z0, z1, z2⟩ := boxLater q1; have b1 : Hid (Below w.heap.size w w1) := belB q1)
  go_ret
  exact ⟨false, _, _, _, rfl, hbl.out _ b1.out, Kp.below _ b1.out, rfl⟩
set_option maxRecDepth 20000 in
set_option maxHeartbeats 8000000 in
theorem step0 (q g n cap : Nat) (w : World) (p : P) (m : M) (s x : Int) (a : Option Addr) (nb cb : Nat) (h : Int) (st : List Fr) (o i b0 : Int) (E : Env q g n cap w p m s x a nb cb h st o i) (B : Bnd 10000 (h, st)) (ho : o = 0) (ht : PlainValid.there (ctxOf m s x) o i (n + 1) = true) :
    Calls Tryz.prog 80 #[.pointer (some ⟨q, 0, none⟩), .agg #[.int .i64 o, .int .i64 i, .int .i64 b0]] w (Res w q (fF p m s x a nb cb) (.slice (some ⟨g, 0, none⟩) (n + 1) cap) (PlainValid.step (ctxOf m s x) o i (h, st))) := by
  subst ho
  have hbl : Hid (∀ u : World, Below w.heap.size w u → BW u q (fF p m s x a nb cb) h (.slice (some ⟨g, 0, none⟩) (n + 1) cap) st) := fun u hu => E.b.later hu
  have hn := E.b.len
  obtain ⟨t0, t1, t2, t3⟩ := B.top (by omega : st.length ≠ 0)
  have hlo := B.lo
  have hhi := B.hi
  simp only [top_is hn] at t0 t1 t2 t3
  dsimp only at hlo hhi
  have hnn := E.hn
  have kT : Hid (∀ u : World, Below w.heap.size w u → Calls Tryz.prog 118 #[.pointer (some ⟨q, 0, none⟩), .agg #[.int .i64 0, .int .i64 i, .int .i64 b0]] u fun e w' => e = .returned (.bool true) ∧ Below u.heap.size u w') := fun u hu => by
    have := ValidIns.there q g n cap u p m s x a nb cb h st 0 i b0 (envLater E hu)
    rw [ht] at this
    exact this
  have e1 : Hid (PlainValid.step (ctxOf m s x) 0 i (h, st) = PlainValid.leave 0 (h, st)) := by show _ = _; unfold PlainValid.step; dsimp only; rw [← hn, if_neg (by rw [ht]; decide), if_pos rfl]
  rw [e1.out]
  have kL : Hid (∀ u : World, BW u q (fF p m s x a nb cb) h (.slice (some ⟨g, 0, none⟩) (n + 1) cap) st → Calls Tryz.prog 119 #[.pointer (some ⟨q, 0, none⟩), .int .i64 0] u (Res u q (fF p m s x a nb cb) (.slice (some ⟨g, 0, none⟩) (n + 1) cap) (PlainValid.leave 0 (h, st)))) := fun u hu => leaveR q g n cap u (fF p m s x a nb cb) h st 0 hu (by omega) (by omega) (by omega) (by omega) (by omega) (by omega) (by omega)
  clear E B ht hn e1
  go_enter Tryz.func80, Tryz.ntmps80
  go_wp2_with (first | (go_at_call 118; refine (kT.out _ (belA w _)).mono ?_; rintro e w1 ⟨rfl, q1⟩; obtain ⟨z0, z1, z2⟩ := boxLater q1; have b1 : Hid (Below w.heap.size w w1) := belB q1) | (go_at_call 119; refine (kL.out _ (hbl.out _ b1.out)).mono ?_; rintro e w2 ⟨ok, h2, v2, st2, rfl, b2, k2, hr⟩; have b2' : Hid (BW w2 q (fF p m s x a nb cb) h2 v2 st2) := b2; have hr' : Hid (PlainValid.leave 0 (h, st) = if ok = true then some (h2, st2) else none) := hr; clear b2 hr))
  go_ret
  exact ⟨ok, h2, v2, st2, rfl, b2'.out, (Kp.below _ b1.out).trans k2, hr'.out⟩
set_option maxRecDepth 20000 in
set_option maxHeartbeats 8000000 in
theorem step5 (q g n cap : Nat) (w : World) (p : P) (m : M) (s x : Int) (a : Option Addr) (nb cb : Nat) (h : Int) (st : List Fr) (o i b0 : Int) (E : Env q g n cap w p m s x a nb cb h st o i) (B : Bnd 10000 (h, st)) (ho : o = 5) (ht : PlainValid.there (ctxOf m s x) o i (n + 1) = true) :
    Calls Tryz.prog 80 #[.pointer (some ⟨q, 0, none⟩), .agg #[.int .i64 o, .int .i64 i, .int .i64 b0]] w (Res w q (fF p m s x a nb cb) (.slice (some ⟨g, 0, none⟩) (n + 1) cap) (PlainValid.step (ctxOf m s x) o i (h, st))) := by
  subst ho
  have hbl : Hid (∀ u : World, Below w.heap.size w u → BW u q (fF p m s x a nb cb) h (.slice (some ⟨g, 0, none⟩) (n + 1) cap) st) := fun u hu => E.b.later hu
  have hn := E.b.len
  obtain ⟨t0, t1, t2, t3⟩ := B.top (by omega : st.length ≠ 0)
  have hlo := B.lo
  have hhi := B.hi
  simp only [top_is hn] at t0 t1 t2 t3
  dsimp only at hlo hhi
  have hnn := E.hn
  have kT : Hid (∀ u : World, Below w.heap.size w u → Calls Tryz.prog 118 #[.pointer (some ⟨q, 0, none⟩), .agg #[.int .i64 5, .int .i64 i, .int .i64 b0]] u fun e w' => e = .returned (.bool true) ∧ Below u.heap.size u w') := fun u hu => by
    have := ValidIns.there q g n cap u p m s x a nb cb h st 5 i b0 (envLater E hu)
    rw [ht] at this
    exact this
  have e1 : Hid (PlainValid.step (ctxOf m s x) 5 i (h, st) = PlainValid.turn (h, st)) := by show _ = _; unfold PlainValid.step; dsimp only; rw [← hn, if_neg (by rw [ht]; decide), if_neg (by omega), if_neg (by omega), if_pos rfl]
  rw [e1.out]
  have kL : Hid (∀ u : World, BW u q (fF p m s x a nb cb) h (.slice (some ⟨g, 0, none⟩) (n + 1) cap) st → Calls Tryz.prog 122 #[.pointer (some ⟨q, 0, none⟩)] u (Res u q (fF p m s x a nb cb) (.slice (some ⟨g, 0, none⟩) (n + 1) cap) (PlainValid.turn (h, st)))) := fun u hu => turnR q g n cap u (fF p m s x a nb cb) h st hu (by omega) (by omega) (by omega) (by omega) (by omega) (by omega)
  clear E B ht hn e1
  go_enter Tryz.func80, Tryz.ntmps80
  go_wp2_with (first | (go_at_call 118; refine (kT.out _ (belA w _)).mono ?_; rintro e w1 ⟨rfl, q1⟩; obtain ⟨z0, z1, z2⟩ := boxLater q1; have b1 : Hid (Below w.heap.size w w1) := belB q1) | (go_at_call 122; refine (kL.out _ (hbl.out _ b1.out)).mono ?_; rintro e w2 ⟨ok, h2, v2, st2, rfl, b2, k2, hr⟩; have b2' : Hid (BW w2 q (fF p m s x a nb cb) h2 v2 st2) := b2; have hr' : Hid (PlainValid.turn (h, st) = if ok = true then some (h2, st2) else none) := hr; clear b2 hr))
  go_ret
  exact ⟨ok, h2, v2, st2, rfl, b2'.out, (Kp.below _ b1.out).trans k2, hr'.out⟩
set_option maxRecDepth 20000 in
set_option maxHeartbeats 8000000 in
theorem step11 (q g n cap : Nat) (w : World) (p : P) (m : M) (s x : Int) (a : Option Addr) (nb cb : Nat) (h : Int) (st : List Fr) (o i b0 : Int) (E : Env q g n cap w p m s x a nb cb h st o i) (B : Bnd 10000 (h, st)) (ho : o = 11) (ht : PlainValid.there (ctxOf m s x) o i (n + 1) = true) :
    Calls Tryz.prog 80 #[.pointer (some ⟨q, 0, none⟩), .agg #[.int .i64 o, .int .i64 i, .int .i64 b0]] w (Res w q (fF p m s x a nb cb) (.slice (some ⟨g, 0, none⟩) (n + 1) cap) (PlainValid.step (ctxOf m s x) o i (h, st))) := by
  subst ho
  have hbl : Hid (∀ u : World, Below w.heap.size w u → BW u q (fF p m s x a nb cb) h (.slice (some ⟨g, 0, none⟩) (n + 1) cap) st) := fun u hu => E.b.later hu
  have hn := E.b.len
  obtain ⟨t0, t1, t2, t3⟩ := B.top (by omega : st.length ≠ 0)
  have hlo := B.lo
  have hhi := B.hi
  simp only [top_is hn] at t0 t1 t2 t3
  dsimp only at hlo hhi
  have hnn := E.hn
  have kT : Hid (∀ u : World, Below w.heap.size w u → Calls Tryz.prog 118 #[.pointer (some ⟨q, 0, none⟩), .agg #[.int .i64 11, .int .i64 i, .int .i64 b0]] u fun e w' => e = .returned (.bool true) ∧ Below u.heap.size u w') := fun u hu => by
    have := ValidIns.there q g n cap u p m s x a nb cb h st 11 i b0 (envLater E hu)
    rw [ht] at this
    exact this
  have e1 : Hid (PlainValid.step (ctxOf m s x) 11 i (h, st) = PlainValid.close (h, st)) := by show _ = _; unfold PlainValid.step; dsimp only; rw [← hn, if_neg (by rw [ht]; decide), if_neg (by omega), if_neg (by omega), if_neg (by omega), if_pos rfl]
  rw [e1.out]
  have kL : Hid (∀ u : World, BW u q (fF p m s x a nb cb) h (.slice (some ⟨g, 0, none⟩) (n + 1) cap) st → Calls Tryz.prog 81 #[.pointer (some ⟨q, 0, none⟩)] u (Res u q (fF p m s x a nb cb) (.slice (some ⟨g, 0, none⟩) (n + 1) cap) (PlainValid.close (h, st)))) := fun u hu => (closeR q g n cap u (fF p m s x a nb cb) h st hu (by omega) (by omega) (by omega) (by omega) (by omega) (by omega)).mono fun _ _ z => z.2
  clear E B ht hn e1
  go_enter Tryz.func80, Tryz.ntmps80
  go_wp2_with (first | (go_at_call 118; refine (kT.out _ (belA w _)).mono ?_; rintro e w1 ⟨rfl, q1⟩; obtain ⟨z0, z1, z2⟩ := boxLater q1; have b1 : Hid (Below w.heap.size w w1) := belB q1) | (go_at_call 81; refine (kL.out _ (hbl.out _ b1.out)).mono ?_; rintro e w2 ⟨ok, h2, v2, st2, rfl, b2, k2, hr⟩; have b2' : Hid (BW w2 q (fF p m s x a nb cb) h2 v2 st2) := b2; have hr' : Hid (PlainValid.close (h, st) = if ok = true then some (h2, st2) else none) := hr; clear b2 hr))
  go_ret
  exact ⟨ok, h2, v2, st2, rfl, b2'.out, (Kp.below _ b1.out).trans k2, hr'.out⟩
set_option maxRecDepth 20000 in
set_option maxHeartbeats 8000000 in
theorem step15 (q g n cap : Nat) (w : World) (p : P) (m : M) (s x : Int) (a : Option Addr) (nb cb : Nat) (h : Int) (st : List Fr) (o i b0 : Int) (E : Env q g n cap w p m s x a nb cb h st o i) (B : Bnd 10000 (h, st)) (ho : o = 15) (ht : PlainValid.there (ctxOf m s x) o i (n + 1) = true) :
    Calls Tryz.prog 80 #[.pointer (some ⟨q, 0, none⟩), .agg #[.int .i64 o, .int .i64 i, .int .i64 b0]] w (Res w q (fF p m s x a nb cb) (.slice (some ⟨g, 0, none⟩) (n + 1) cap) (PlainValid.step (ctxOf m s x) o i (h, st))) := by
  subst ho
  have hbl : Hid (∀ u : World, Below w.heap.size w u → BW u q (fF p m s x a nb cb) h (.slice (some ⟨g, 0, none⟩) (n + 1) cap) st) := fun u hu => E.b.later hu
  have hn := E.b.len
  obtain ⟨t0, t1, t2, t3⟩ := B.top (by omega : st.length ≠ 0)
  have hlo := B.lo
  have hhi := B.hi
  simp only [top_is hn] at t0 t1 t2 t3
  dsimp only at hlo hhi
  have hnn := E.hn
  have kT : Hid (∀ u : World, Below w.heap.size w u → Calls Tryz.prog 118 #[.pointer (some ⟨q, 0, none⟩), .agg #[.int .i64 15, .int .i64 i, .int .i64 b0]] u fun e w' => e = .returned (.bool true) ∧ Below u.heap.size u w') := fun u hu => by
    have := ValidIns.there q g n cap u p m s x a nb cb h st 15 i b0 (envLater E hu)
    rw [ht] at this
    exact this
  have e1 : Hid (PlainValid.step (ctxOf m s x) 15 i (h, st) = PlainValid.leave (ctxOf m s x).own (h, st)) := by show _ = _; unfold PlainValid.step; dsimp only; rw [← hn, if_neg (by rw [ht]; decide), if_neg (by omega), if_neg (by omega), if_neg (by omega), if_neg (by omega), if_neg (by omega), if_neg (by omega), if_pos rfl]
  rw [e1.out]
  have hsg := E.f.sg s.toNat (by have := E.h0; have := E.h1; omega)
  have kO : Hid (∀ u : World, Below w.heap.size w u → Calls Tryz.prog 116 #[.pointer (some ⟨q, 0, none⟩)] u fun e w' => e = .returned (.agg #[.int .i64 (MemSig.f0At m.sigs s.toNat), .int .i64 (MemSig.f1At m.sigs s.toNat)]) ∧ Below u.heap.size u w') := fun u hu => ValidIns.own q u p m s x a nb cb h _ st (E.b.later hu) (E.hR.later hu) E.h0 E.h1
  have kL : Hid (∀ u : World, BW u q (fF p m s x a nb cb) h (.slice (some ⟨g, 0, none⟩) (n + 1) cap) st → Calls Tryz.prog 119 #[.pointer (some ⟨q, 0, none⟩), .int .i64 (MemSig.f1At m.sigs s.toNat)] u (Res u q (fF p m s x a nb cb) (.slice (some ⟨g, 0, none⟩) (n + 1) cap) (PlainValid.leave (ctxOf m s x).own (h, st)))) := fun u hu => leaveR q g n cap u (fF p m s x a nb cb) h st (MemSig.f1At m.sigs s.toNat) hu (by omega) (by omega) (by omega) (by omega) (by omega) (by omega) (by omega)
  generalize PlainValid.leave (ctxOf m s x).own (h, st) = X at *
  have hrf := run_sig1
  generalize MemSig.f0At m.sigs s.toNat = X0 at *
  generalize MemSig.f1At m.sigs s.toNat = X1 at *
  clear E B ht hn e1
  go_enter Tryz.func80, Tryz.ntmps80
  go_wp2_with (first | (go_at_call 118; refine (kT.out _ (belA w _)).mono ?_; rintro e w1 ⟨rfl, q1⟩; obtain ⟨z0, z1, z2⟩ := boxLater q1; have b1 : Hid (Below w.heap.size w w1) := belB q1) | (go_at_call 116; refine (kO.out _ b1.out).mono ?_; rintro e w2 ⟨rfl, q2⟩; have b2 : Hid (Below w.heap.size w w2) := b1.out.trans (q2.mono b1.out.size)) | (go_at_call 119; refine (kL.out _ (hbl.out _ b2.out)).mono ?_; rintro e w3 ⟨ok, h2, v2, st2, rfl, b3, k2, hr⟩; have b2' : Hid (BW w3 q (fF p m s x a nb cb) h2 v2 st2) := b3; have hr' : Hid (X = if ok = true then some (h2, st2) else none) := hr; clear b3 hr))
  go_ret
  exact ⟨ok, h2, v2, st2, rfl, b2'.out, (Kp.below _ b2.out).trans k2, hr'.out⟩
set_option maxRecDepth 20000 in
set_option maxHeartbeats 8000000 in
theorem stepElse (q g n cap : Nat) (w : World) (p : P) (m : M) (s x : Int) (a : Option Addr) (nb cb : Nat) (h : Int) (st : List Fr) (o i b0 : Int) (E : Env q g n cap w p m s x a nb cb h st o i) (B : Bnd 10000 (h, st)) (ho : o ≠ 0 ∧ o ≠ 2 ∧ o ≠ 3 ∧ o ≠ 4 ∧ o ≠ 5 ∧ o ≠ 11 ∧ o ≠ 12 ∧ o ≠ 13 ∧ o ≠ 15) (ht : PlainValid.there (ctxOf m s x) o i (n + 1) = true) :
    Calls Tryz.prog 80 #[.pointer (some ⟨q, 0, none⟩), .agg #[.int .i64 o, .int .i64 i, .int .i64 b0]] w (Res w q (fF p m s x a nb cb) (.slice (some ⟨g, 0, none⟩) (n + 1) cap) (PlainValid.step (ctxOf m s x) o i (h, st))) := by
  have hbl : Hid (∀ u : World, Below w.heap.size w u → BW u q (fF p m s x a nb cb) h (.slice (some ⟨g, 0, none⟩) (n + 1) cap) st) := fun u hu => E.b.later hu
  have hn := E.b.len
  obtain ⟨t0, t1, t2, t3⟩ := B.top (by omega : st.length ≠ 0)
  have hlo := B.lo
  have hhi := B.hi
  simp only [top_is hn] at t0 t1 t2 t3
  dsimp only at hlo hhi
  have hnn := E.hn
  have kT : Hid (∀ u : World, Below w.heap.size w u → Calls Tryz.prog 118 #[.pointer (some ⟨q, 0, none⟩), .agg #[.int .i64 o, .int .i64 i, .int .i64 b0]] u fun e w' => e = .returned (.bool true) ∧ Below u.heap.size u w') := fun u hu => by
    have := ValidIns.there q g n cap u p m s x a nb cb h st o i b0 (envLater E hu)
    rw [ht] at this
    exact this
  have e1 : Hid (PlainValid.step (ctxOf m s x) o i (h, st) = exch (effT (ctxOf m s x) o i) (effP (ctxOf m s x) o i) (h, st)) := by show _ = _; unfold PlainValid.step; dsimp only; rw [← hn, if_neg (by rw [ht]; decide), if_neg (by omega), if_neg (by omega), if_neg (by omega), if_neg (by omega), if_neg (by omega), if_neg (by omega), if_neg (by omega)]
  rw [e1.out]
  obtain ⟨f0, f1, f2, f3⟩ := eff_bnd (okC E.f (s := s) (x := x) E.h0 E.h1) E.hi ht
  have kE : Hid (∀ u : World, Below w.heap.size w u → Calls Tryz.prog 121 #[.pointer (some ⟨q, 0, none⟩), .agg #[.int .i64 o, .int .i64 i, .int .i64 b0]] u fun e w' => e = .returned (.agg #[.int .i64 (effT (ctxOf m s x) o i), .int .i64 (effP (ctxOf m s x) o i)]) ∧ Below u.heap.size u w') := fun u hu => ValidEff.effect q g n cap u p m s x a nb cb h st o i b0 (envLater E hu) ht
  have kX : Hid (∀ u : World, BW u q (fF p m s x a nb cb) h (.slice (some ⟨g, 0, none⟩) (n + 1) cap) st → Calls Tryz.prog 120 #[.pointer (some ⟨q, 0, none⟩), .agg #[.int .i64 (effT (ctxOf m s x) o i), .int .i64 (effP (ctxOf m s x) o i)]] u fun e w' => ∃ ok h', e = .returned (.bool ok) ∧ BW w' q (fF p m s x a nb cb) h' (.slice (some ⟨g, 0, none⟩) (n + 1) cap) st ∧ Kp q u w' (.slice (some ⟨g, 0, none⟩) (n + 1) cap) (.slice (some ⟨g, 0, none⟩) (n + 1) cap) ∧ exch (effT (ctxOf m s x) o i) (effP (ctxOf m s x) o i) (h, st) = if ok = true then some (h', st) else none) := fun u hu => exchR q g n cap u (fF p m s x a nb cb) h st _ _ hu (by omega) (by omega) (by omega) (by omega) (by omega) f0 (by omega) (by omega)
  generalize exch (effT (ctxOf m s x) o i) (effP (ctxOf m s x) o i) (h, st) = X at *
  generalize effT (ctxOf m s x) o i = X0 at *
  generalize effP (ctxOf m s x) o i = X1 at *
  have n0 : (o == 0) = false := by simpa using (show o ≠ 0 by omega)
  have n2 : (o == 2) = false := by simpa using (show o ≠ 2 by omega)
  have n3 : (o == 3) = false := by simpa using (show o ≠ 3 by omega)
  have n4 : (o == 4) = false := by simpa using (show o ≠ 4 by omega)
  have n5 : (o == 5) = false := by simpa using (show o ≠ 5 by omega)
  have n11 : (o == 11) = false := by simpa using (show o ≠ 11 by omega)
  have n12 : (o == 12) = false := by simpa using (show o ≠ 12 by omega)
  have n13 : (o == 13) = false := by simpa using (show o ≠ 13 by omega)
  have n15 : (o == 15) = false := by simpa using (show o ≠ 15 by omega)
  clear E B ht hn e1 ho
  go_enter Tryz.func80, Tryz.ntmps80
  go_wp2_with (first | (go_at_call 118; refine (kT.out _ (belA w _)).mono ?_; rintro e w1 ⟨rfl, q1⟩; obtain ⟨z0, z1, z2⟩ := boxLater q1; have b1 : Hid (Below w.heap.size w w1) := belB q1) | (go_at_call 121; refine (kE.out _ b1.out).mono ?_; rintro e w2 ⟨rfl, q2⟩; have b2 : Hid (Below w.heap.size w w2) := b1.out.trans (q2.mono b1.out.size)) | (go_at_call 120; refine (kX.out _ (hbl.out _ b2.out)).mono ?_; rintro e w3 ⟨ok, h2, rfl, b3, k2, hr⟩; have b2' : Hid (BW w3 q (fF p m s x a nb cb) h2 (.slice (some ⟨g, 0, none⟩) (n + 1) cap) st) := b3; have hr' : Hid (X = if ok = true then some (h2, st) else none) := hr; clear b3 hr))
  go_ret
  exact ⟨ok, h2, _, st, rfl, b2'.out, (Kp.below _ b2.out).trans k2, hr'.out⟩
set_option maxRecDepth 20000 in
set_option maxHeartbeats 8000000 in
theorem step2 (q g n cap : Nat) (w : World) (p : P) (m : M) (s x : Int) (a : Option Addr) (nb cb : Nat) (h : Int) (st : List Fr) (o i b0 : Int) (E : Env q g n cap w p m s x a nb cb h st o i) (B : Bnd 10000 (h, st)) (ho : o = 2) (ht : PlainValid.there (ctxOf m s x) o i (n + 1) = true) :
    Calls Tryz.prog 80 #[.pointer (some ⟨q, 0, none⟩), .agg #[.int .i64 o, .int .i64 i, .int .i64 b0]] w (Res w q (fF p m s x a nb cb) (.slice (some ⟨g, 0, none⟩) (n + 1) cap) (PlainValid.step (ctxOf m s x) o i (h, st))) := by
  subst ho
  have hbl : Hid (∀ u : World, Below w.heap.size w u → BW u q (fF p m s x a nb cb) h (.slice (some ⟨g, 0, none⟩) (n + 1) cap) st) := fun u hu => E.b.later hu
  have hn := E.b.len
  obtain ⟨t0, t1, t2, t3⟩ := B.top (by omega : st.length ≠ 0)
  have hlo := B.lo
  have hhi := B.hi
  simp only [top_is hn] at t0 t1 t2 t3
  dsimp only at hlo hhi
  have hnn := E.hn
  have kT : Hid (∀ u : World, Below w.heap.size w u → Calls Tryz.prog 118 #[.pointer (some ⟨q, 0, none⟩), .agg #[.int .i64 2, .int .i64 i, .int .i64 b0]] u fun e w' => e = .returned (.bool true) ∧ Below u.heap.size u w') := fun u hu => by
    have := ValidIns.there q g n cap u p m s x a nb cb h st 2 i b0 (envLater E hu)
    rw [ht] at this
    exact this
  have e1 : Hid (PlainValid.step (ctxOf m s x) 2 i (h, st) = (exch (effT (ctxOf m s x) 2 i) 0 (h, st)).map (opens 2 i)) := by show _ = _; unfold PlainValid.step; dsimp only; rw [← hn, if_neg (by rw [ht]; decide), if_neg (by omega), if_pos (by omega)]
  rw [e1.out]
  have eP : Hid (effP (ctxOf m s x) 2 i = 0) := rfl
  obtain ⟨f0, f1, f2, f3⟩ := eff_bnd (okC E.f (s := s) (x := x) E.h0 E.h1) E.hi ht
  have kE : Hid (∀ u : World, Below w.heap.size w u → Calls Tryz.prog 121 #[.pointer (some ⟨q, 0, none⟩), .agg #[.int .i64 2, .int .i64 i, .int .i64 b0]] u fun e w' => e = .returned (.agg #[.int .i64 (effT (ctxOf m s x) 2 i), .int .i64 (effP (ctxOf m s x) 2 i)]) ∧ Below u.heap.size u w') := fun u hu => ValidEff.effect q g n cap u p m s x a nb cb h st 2 i b0 (envLater E hu) ht
  have kX : Hid (∀ u : World, BW u q (fF p m s x a nb cb) h (.slice (some ⟨g, 0, none⟩) (n + 1) cap) st → Calls Tryz.prog 120 #[.pointer (some ⟨q, 0, none⟩), .agg #[.int .i64 (effT (ctxOf m s x) 2 i), .int .i64 (effP (ctxOf m s x) 2 i)]] u fun e w' => ∃ ok h', e = .returned (.bool ok) ∧ BW w' q (fF p m s x a nb cb) h' (.slice (some ⟨g, 0, none⟩) (n + 1) cap) st ∧ Kp q u w' (.slice (some ⟨g, 0, none⟩) (n + 1) cap) (.slice (some ⟨g, 0, none⟩) (n + 1) cap) ∧ exch (effT (ctxOf m s x) 2 i) (effP (ctxOf m s x) 2 i) (h, st) = if ok = true then some (h', st) else none) := fun u hu => exchR q g n cap u (fF p m s x a nb cb) h st _ _ hu (by omega) (by omega) (by omega) (by omega) (by omega) f0 (by omega) (by omega)
  rw [eP.out] at kE kX
  have kO : Hid (∀ (u : World) (h' : Int), BW u q (fF p m s x a nb cb) h' (.slice (some ⟨g, 0, none⟩) (n + 1) cap) st → Calls Tryz.prog 115 #[.pointer (some ⟨q, 0, none⟩), .int .i64 2, .int .i64 i] u fun e w' => e = .returned (.tuple #[]) ∧ ∃ g' cap', BW w' q (fF p m s x a nb cb) h' (.slice (some ⟨g', 0, none⟩) (st.length + 1) cap') (st ++ [⟨2, i, h', false⟩]) ∧ Kp q u w' (.slice (some ⟨g, 0, none⟩) (n + 1) cap) (.slice (some ⟨g', 0, none⟩) (st.length + 1) cap')) := fun u h' hu => openUp q u (fF p m s x a nb cb) h' _ st 2 i hu (by omega)
  have hap : Hid (w.heap.size ≠ q ∧ some w.heap.size ≠ (Value.slice (some ⟨g, 0, none⟩) (n + 1) cap).ownBlock) := E.b.past (Nat.le_refl _)
  generalize exch (effT (ctxOf m s x) 2 i) 0 (h, st) = X at *
  generalize effT (ctxOf m s x) 2 i = X0 at *
  clear E B ht hn e1 eP
  go_enter Tryz.func80, Tryz.ntmps80
  go_wp2_with (first | (go_at_call 118; refine (kT.out _ (belA w _)).mono ?_; rintro e w1 ⟨rfl, q1⟩; obtain ⟨z0, z1, z2⟩ := boxLater q1; have b1 : Hid (Below w.heap.size w w1) := belB q1) | (go_at_call 121; refine (kE.out _ b1.out).mono ?_; rintro e w2 ⟨rfl, q2⟩; have b2 : Hid (Below w.heap.size w w2) := b1.out.trans (q2.mono b1.out.size); have q12 := q1.trans (q2.mono q1.size); clear z0 z1 z2; obtain ⟨z0, z1, z2⟩ := boxLater q12) | (go_at_call 120; refine (kX.out _ (hbl.out _ b2.out)).mono ?_; rintro e w3 ⟨ok, h2, rfl, b3, k2, hr⟩; have b2' : Hid (BW w3 q (fF p m s x a nb cb) h2 (.slice (some ⟨g, 0, none⟩) (n + 1) cap) st) := b3; have hr' : Hid (X = if ok = true then some (h2, st) else none) := hr; have y0 := k2.cell z0 hap.out.1 hap.out.2; have y1 := k2.cell z1 hap.out.1 hap.out.2; clear b3 hr z0 z1 z2) | (go_at_call 115; refine (kO.out _ _ b2'.out).mono ?_; rintro e w4 ⟨rfl, g4, cap4, b4, k4⟩; have b4' : Hid (BW w4 q (fF p m s x a nb cb) h2 (.slice (some ⟨g4, 0, none⟩) (st.length + 1) cap4) (st ++ [⟨2, i, h2, false⟩])) := b4; clear b4))
  go_ret
  refine ⟨ok, h2, _, _, rfl, b4'.out, ((Kp.below _ b2.out).trans k2).trans k4, ?_⟩
  rw [hr'.out]
  cases ok <;> rfl
set_option maxRecDepth 20000 in
set_option maxHeartbeats 8000000 in
theorem step3 (q g n cap : Nat) (w : World) (p : P) (m : M) (s x : Int) (a : Option Addr) (nb cb : Nat) (h : Int) (st : List Fr) (o i b0 : Int) (E : Env q g n cap w p m s x a nb cb h st o i) (B : Bnd 10000 (h, st)) (ho : o = 3) (ht : PlainValid.there (ctxOf m s x) o i (n + 1) = true) :
    Calls Tryz.prog 80 #[.pointer (some ⟨q, 0, none⟩), .agg #[.int .i64 o, .int .i64 i, .int .i64 b0]] w (Res w q (fF p m s x a nb cb) (.slice (some ⟨g, 0, none⟩) (n + 1) cap) (PlainValid.step (ctxOf m s x) o i (h, st))) := by
  subst ho
  have hbl : Hid (∀ u : World, Below w.heap.size w u → BW u q (fF p m s x a nb cb) h (.slice (some ⟨g, 0, none⟩) (n + 1) cap) st) := fun u hu => E.b.later hu
  have hn := E.b.len
  obtain ⟨t0, t1, t2, t3⟩ := B.top (by omega : st.length ≠ 0)
  have hlo := B.lo
  have hhi := B.hi
  simp only [top_is hn] at t0 t1 t2 t3
  dsimp only at hlo hhi
  have hnn := E.hn
  have kT : Hid (∀ u : World, Below w.heap.size w u → Calls Tryz.prog 118 #[.pointer (some ⟨q, 0, none⟩), .agg #[.int .i64 3, .int .i64 i, .int .i64 b0]] u fun e w' => e = .returned (.bool true) ∧ Below u.heap.size u w') := fun u hu => by
    have := ValidIns.there q g n cap u p m s x a nb cb h st 3 i b0 (envLater E hu)
    rw [ht] at this
    exact this
  have e1 : Hid (PlainValid.step (ctxOf m s x) 3 i (h, st) = (exch (effT (ctxOf m s x) 3 i) 0 (h, st)).map (opens 3 i)) := by show _ = _; unfold PlainValid.step; dsimp only; rw [← hn, if_neg (by rw [ht]; decide), if_neg (by omega), if_pos (by omega)]
  rw [e1.out]
  have eP : Hid (effP (ctxOf m s x) 3 i = 0) := rfl
  obtain ⟨f0, f1, f2, f3⟩ := eff_bnd (okC E.f (s := s) (x := x) E.h0 E.h1) E.hi ht
  have kE : Hid (∀ u : World, Below w.heap.size w u → Calls Tryz.prog 121 #[.pointer (some ⟨q, 0, none⟩), .agg #[.int .i64 3, .int .i64 i, .int .i64 b0]] u fun e w' => e = .returned (.agg #[.int .i64 (effT (ctxOf m s x) 3 i), .int .i64 (effP (ctxOf m s x) 3 i)]) ∧ Below u.heap.size u w') := fun u hu => ValidEff.effect q g n cap u p m s x a nb cb h st 3 i b0 (envLater E hu) ht
  have kX : Hid (∀ u : World, BW u q (fF p m s x a nb cb) h (.slice (some ⟨g, 0, none⟩) (n + 1) cap) st → Calls Tryz.prog 120 #[.pointer (some ⟨q, 0, none⟩), .agg #[.int .i64 (effT (ctxOf m s x) 3 i), .int .i64 (effP (ctxOf m s x) 3 i)]] u fun e w' => ∃ ok h', e = .returned (.bool ok) ∧ BW w' q (fF p m s x a nb cb) h' (.slice (some ⟨g, 0, none⟩) (n + 1) cap) st ∧ Kp q u w' (.slice (some ⟨g, 0, none⟩) (n + 1) cap) (.slice (some ⟨g, 0, none⟩) (n + 1) cap) ∧ exch (effT (ctxOf m s x) 3 i) (effP (ctxOf m s x) 3 i) (h, st) = if ok = true then some (h', st) else none) := fun u hu => exchR q g n cap u (fF p m s x a nb cb) h st _ _ hu (by omega) (by omega) (by omega) (by omega) (by omega) f0 (by omega) (by omega)
  rw [eP.out] at kE kX
  have kO : Hid (∀ (u : World) (h' : Int), BW u q (fF p m s x a nb cb) h' (.slice (some ⟨g, 0, none⟩) (n + 1) cap) st → Calls Tryz.prog 115 #[.pointer (some ⟨q, 0, none⟩), .int .i64 3, .int .i64 i] u fun e w' => e = .returned (.tuple #[]) ∧ ∃ g' cap', BW w' q (fF p m s x a nb cb) h' (.slice (some ⟨g', 0, none⟩) (st.length + 1) cap') (st ++ [⟨3, i, h', false⟩]) ∧ Kp q u w' (.slice (some ⟨g, 0, none⟩) (n + 1) cap) (.slice (some ⟨g', 0, none⟩) (st.length + 1) cap')) := fun u h' hu => openUp q u (fF p m s x a nb cb) h' _ st 3 i hu (by omega)
  have hap : Hid (w.heap.size ≠ q ∧ some w.heap.size ≠ (Value.slice (some ⟨g, 0, none⟩) (n + 1) cap).ownBlock) := E.b.past (Nat.le_refl _)
  generalize exch (effT (ctxOf m s x) 3 i) 0 (h, st) = X at *
  generalize effT (ctxOf m s x) 3 i = X0 at *
  clear E B ht hn e1 eP
  go_enter Tryz.func80, Tryz.ntmps80
  go_wp2_with (first | (go_at_call 118; refine (kT.out _ (belA w _)).mono ?_; rintro e w1 ⟨rfl, q1⟩; obtain ⟨z0, z1, z2⟩ := boxLater q1; have b1 : Hid (Below w.heap.size w w1) := belB q1) | (go_at_call 121; refine (kE.out _ b1.out).mono ?_; rintro e w2 ⟨rfl, q2⟩; have b2 : Hid (Below w.heap.size w w2) := b1.out.trans (q2.mono b1.out.size); have q12 := q1.trans (q2.mono q1.size); clear z0 z1 z2; obtain ⟨z0, z1, z2⟩ := boxLater q12) | (go_at_call 120; refine (kX.out _ (hbl.out _ b2.out)).mono ?_; rintro e w3 ⟨ok, h2, rfl, b3, k2, hr⟩; have b2' : Hid (BW w3 q (fF p m s x a nb cb) h2 (.slice (some ⟨g, 0, none⟩) (n + 1) cap) st) := b3; have hr' : Hid (X = if ok = true then some (h2, st) else none) := hr; have y0 := k2.cell z0 hap.out.1 hap.out.2; have y1 := k2.cell z1 hap.out.1 hap.out.2; clear b3 hr z0 z1 z2) | (go_at_call 115; refine (kO.out _ _ b2'.out).mono ?_; rintro e w4 ⟨rfl, g4, cap4, b4, k4⟩; have b4' : Hid (BW w4 q (fF p m s x a nb cb) h2 (.slice (some ⟨g4, 0, none⟩) (st.length + 1) cap4) (st ++ [⟨3, i, h2, false⟩])) := b4; clear b4))
  go_ret
  refine ⟨ok, h2, _, _, rfl, b4'.out, ((Kp.below _ b2.out).trans k2).trans k4, ?_⟩
  rw [hr'.out]
  cases ok <;> rfl
set_option maxRecDepth 20000 in
set_option maxHeartbeats 8000000 in
theorem step4 (q g n cap : Nat) (w : World) (p : P) (m : M) (s x : Int) (a : Option Addr) (nb cb : Nat) (h : Int) (st : List Fr) (o i b0 : Int) (E : Env q g n cap w p m s x a nb cb h st o i) (B : Bnd 10000 (h, st)) (ho : o = 4) (ht : PlainValid.there (ctxOf m s x) o i (n + 1) = true) :
    Calls Tryz.prog 80 #[.pointer (some ⟨q, 0, none⟩), .agg #[.int .i64 o, .int .i64 i, .int .i64 b0]] w (Res w q (fF p m s x a nb cb) (.slice (some ⟨g, 0, none⟩) (n + 1) cap) (PlainValid.step (ctxOf m s x) o i (h, st))) := by
  subst ho
  have hbl : Hid (∀ u : World, Below w.heap.size w u → BW u q (fF p m s x a nb cb) h (.slice (some ⟨g, 0, none⟩) (n + 1) cap) st) := fun u hu => E.b.later hu
  have hn := E.b.len
  obtain ⟨t0, t1, t2, t3⟩ := B.top (by omega : st.length ≠ 0)
  have hlo := B.lo
  have hhi := B.hi
  simp only [top_is hn] at t0 t1 t2 t3
  dsimp only at hlo hhi
  have hnn := E.hn
  have kT : Hid (∀ u : World, Below w.heap.size w u → Calls Tryz.prog 118 #[.pointer (some ⟨q, 0, none⟩), .agg #[.int .i64 4, .int .i64 i, .int .i64 b0]] u fun e w' => e = .returned (.bool true) ∧ Below u.heap.size u w') := fun u hu => by
    have := ValidIns.there q g n cap u p m s x a nb cb h st 4 i b0 (envLater E hu)
    rw [ht] at this
    exact this
  have e1 : Hid (PlainValid.step (ctxOf m s x) 4 i (h, st) = (exch (effT (ctxOf m s x) 4 i) 0 (h, st)).map (opens 4 i)) := by show _ = _; unfold PlainValid.step; dsimp only; rw [← hn, if_neg (by rw [ht]; decide), if_neg (by omega), if_pos (by omega)]
  rw [e1.out]
  have eP : Hid (effP (ctxOf m s x) 4 i = 0) := rfl
  obtain ⟨f0, f1, f2, f3⟩ := eff_bnd (okC E.f (s := s) (x := x) E.h0 E.h1) E.hi ht
  have kE : Hid (∀ u : World, Below w.heap.size w u → Calls Tryz.prog 121 #[.pointer (some ⟨q, 0, none⟩), .agg #[.int .i64 4, .int .i64 i, .int .i64 b0]] u fun e w' => e = .returned (.agg #[.int .i64 (effT (ctxOf m s x) 4 i), .int .i64 (effP (ctxOf m s x) 4 i)]) ∧ Below u.heap.size u w') := fun u hu => ValidEff.effect q g n cap u p m s x a nb cb h st 4 i b0 (envLater E hu) ht
  have kX : Hid (∀ u : World, BW u q (fF p m s x a nb cb) h (.slice (some ⟨g, 0, none⟩) (n + 1) cap) st → Calls Tryz.prog 120 #[.pointer (some ⟨q, 0, none⟩), .agg #[.int .i64 (effT (ctxOf m s x) 4 i), .int .i64 (effP (ctxOf m s x) 4 i)]] u fun e w' => ∃ ok h', e = .returned (.bool ok) ∧ BW w' q (fF p m s x a nb cb) h' (.slice (some ⟨g, 0, none⟩) (n + 1) cap) st ∧ Kp q u w' (.slice (some ⟨g, 0, none⟩) (n + 1) cap) (.slice (some ⟨g, 0, none⟩) (n + 1) cap) ∧ exch (effT (ctxOf m s x) 4 i) (effP (ctxOf m s x) 4 i) (h, st) = if ok = true then some (h', st) else none) := fun u hu => exchR q g n cap u (fF p m s x a nb cb) h st _ _ hu (by omega) (by omega) (by omega) (by omega) (by omega) f0 (by omega) (by omega)
  rw [eP.out] at kE kX
  have kO : Hid (∀ (u : World) (h' : Int), BW u q (fF p m s x a nb cb) h' (.slice (some ⟨g, 0, none⟩) (n + 1) cap) st → Calls Tryz.prog 115 #[.pointer (some ⟨q, 0, none⟩), .int .i64 4, .int .i64 i] u fun e w' => e = .returned (.tuple #[]) ∧ ∃ g' cap', BW w' q (fF p m s x a nb cb) h' (.slice (some ⟨g', 0, none⟩) (st.length + 1) cap') (st ++ [⟨4, i, h', false⟩]) ∧ Kp q u w' (.slice (some ⟨g, 0, none⟩) (n + 1) cap) (.slice (some ⟨g', 0, none⟩) (st.length + 1) cap')) := fun u h' hu => openUp q u (fF p m s x a nb cb) h' _ st 4 i hu (by omega)
  have hap : Hid (w.heap.size ≠ q ∧ some w.heap.size ≠ (Value.slice (some ⟨g, 0, none⟩) (n + 1) cap).ownBlock) := E.b.past (Nat.le_refl _)
  generalize exch (effT (ctxOf m s x) 4 i) 0 (h, st) = X at *
  generalize effT (ctxOf m s x) 4 i = X0 at *
  clear E B ht hn e1 eP
  go_enter Tryz.func80, Tryz.ntmps80
  go_wp2_with (first | (go_at_call 118; refine (kT.out _ (belA w _)).mono ?_; rintro e w1 ⟨rfl, q1⟩; obtain ⟨z0, z1, z2⟩ := boxLater q1; have b1 : Hid (Below w.heap.size w w1) := belB q1) | (go_at_call 121; refine (kE.out _ b1.out).mono ?_; rintro e w2 ⟨rfl, q2⟩; have b2 : Hid (Below w.heap.size w w2) := b1.out.trans (q2.mono b1.out.size); have q12 := q1.trans (q2.mono q1.size); clear z0 z1 z2; obtain ⟨z0, z1, z2⟩ := boxLater q12) | (go_at_call 120; refine (kX.out _ (hbl.out _ b2.out)).mono ?_; rintro e w3 ⟨ok, h2, rfl, b3, k2, hr⟩; have b2' : Hid (BW w3 q (fF p m s x a nb cb) h2 (.slice (some ⟨g, 0, none⟩) (n + 1) cap) st) := b3; have hr' : Hid (X = if ok = true then some (h2, st) else none) := hr; have y0 := k2.cell z0 hap.out.1 hap.out.2; have y1 := k2.cell z1 hap.out.1 hap.out.2; clear b3 hr z0 z1 z2) | (go_at_call 115; refine (kO.out _ _ b2'.out).mono ?_; rintro e w4 ⟨rfl, g4, cap4, b4, k4⟩; have b4' : Hid (BW w4 q (fF p m s x a nb cb) h2 (.slice (some ⟨g4, 0, none⟩) (st.length + 1) cap4) (st ++ [⟨4, i, h2, false⟩])) := b4; clear b4))
  go_ret
  refine ⟨ok, h2, _, _, rfl, b4'.out, ((Kp.below _ b2.out).trans k2).trans k4, ?_⟩
  rw [hr'.out]
  cases ok <;> rfl
set_option maxRecDepth 20000 in
set_option maxHeartbeats 8000000 in
theorem step13 (q g j k cap : Nat) (w : World) (p : P) (m : M) (s x : Int) (a : Option Addr) (nb cb : Nat) (h : Int) (st : List Fr) (b0 : Int) (E : Env q g (j + k) cap w p m s x a nb cb h st 13 (k : Int)) (B : Bnd 10000 (h, st)) (ht : PlainValid.there (ctxOf m s x) 13 (k : Int) (j + k + 1) = true) :
    Calls Tryz.prog 80 #[.pointer (some ⟨q, 0, none⟩), .agg #[.int .i64 13, .int .i64 (k : Int), .int .i64 b0]] w (Res w q (fF p m s x a nb cb) (.slice (some ⟨g, 0, none⟩) (j + k + 1) cap) (PlainValid.step (ctxOf m s x) 13 (k : Int) (h, st))) := by
  have hbl : Hid (∀ u : World, Below w.heap.size w u → BW u q (fF p m s x a nb cb) h (.slice (some ⟨g, 0, none⟩) (j + k + 1) cap) st) := fun u hu => E.b.later hu
  have hn := E.b.len
  obtain ⟨t0, t1, t2, t3⟩ := B.top (by omega : st.length ≠ 0)
  have hlo := B.lo
  have hhi := B.hi
  simp only [top_is hn] at t0 t1 t2 t3
  dsimp only at hlo hhi
  have hnn := E.hn
  have kT : Hid (∀ u : World, Below w.heap.size w u → Calls Tryz.prog 118 #[.pointer (some ⟨q, 0, none⟩), .agg #[.int .i64 13, .int .i64 (k : Int), .int .i64 b0]] u fun e w' => e = .returned (.bool true) ∧ Below u.heap.size u w') := fun u hu => by
    have := ValidIns.there q g (j + k) cap u p m s x a nb cb h st 13 (k : Int) b0 (envLater E hu)
    rw [ht] at this
    exact this
  have hbt := brT_bnd B (j := j) (by show j < st.length; omega)
  dsimp only at hbt
  have e1 : Hid (PlainValid.step (ctxOf m s x) 13 (k : Int) (h, st) = brIf (brT (st.getD j dF)) (h, st)) := by show _ = _; unfold PlainValid.step; dsimp only; rw [← hn, if_neg (by rw [ht]; decide), if_neg (by omega), if_neg (by omega), if_neg (by omega), if_neg (by omega), if_neg (by omega), if_pos rfl, show j + k + 1 - 1 - ((k : Int)).toNat = j by omega]
  rw [e1.out]
  have kL : Hid (∀ u : World, BW u q (fF p m s x a nb cb) h (.slice (some ⟨g, 0, none⟩) (j + k + 1) cap) st → Calls Tryz.prog 125 #[.pointer (some ⟨q, 0, none⟩), .int .i64 (k : Int)] u (Res u q (fF p m s x a nb cb) (.slice (some ⟨g, 0, none⟩) (j + k + 1) cap) (brIf (brT (st.getD j dF)) (h, st)))) := fun u hu => branchIfR q g j k cap u (fF p m s x a nb cb) h st hu (by omega) (by omega) (by omega) (by omega) (by omega) hbt
  generalize brIf (brT (st.getD j dF)) (h, st) = X at *
  clear E B ht hn e1
  go_enter Tryz.func80, Tryz.ntmps80
  go_wp2_with (first | (go_at_call 118; refine (kT.out _ (belA w _)).mono ?_; rintro e w1 ⟨rfl, q1⟩; obtain ⟨z0, z1, z2⟩ := boxLater q1; have b1 : Hid (Below w.heap.size w w1) := belB q1) | (go_at_call 125; refine (kL.out _ (hbl.out _ b1.out)).mono ?_; rintro e w2 ⟨ok, h2, v2, st2, rfl, b2, k2, hr⟩; have b2' : Hid (BW w2 q (fF p m s x a nb cb) h2 v2 st2) := b2; have hr' : Hid (X = if ok = true then some (h2, st2) else none) := hr; clear b2 hr))
  go_ret
  exact ⟨ok, h2, v2, st2, rfl, b2'.out, (Kp.below _ b1.out).trans k2, hr'.out⟩
set_option maxRecDepth 20000 in
set_option maxHeartbeats 8000000 in
theorem step12 (q g j k cap : Nat) (w : World) (p : P) (m : M) (s x : Int) (a : Option Addr) (nb cb : Nat) (h : Int) (st : List Fr) (b0 : Int) (E : Env q g (j + k) cap w p m s x a nb cb h st 12 (k : Int)) (B : Bnd 10000 (h, st)) (ht : PlainValid.there (ctxOf m s x) 12 (k : Int) (j + k + 1) = true) :
    Calls Tryz.prog 80 #[.pointer (some ⟨q, 0, none⟩), .agg #[.int .i64 12, .int .i64 (k : Int), .int .i64 b0]] w (Res w q (fF p m s x a nb cb) (.slice (some ⟨g, 0, none⟩) (j + k + 1) cap) (PlainValid.step (ctxOf m s x) 12 (k : Int) (h, st))) := by
  have hbl : Hid (∀ u : World, Below w.heap.size w u → BW u q (fF p m s x a nb cb) h (.slice (some ⟨g, 0, none⟩) (j + k + 1) cap) st) := fun u hu => E.b.later hu
  have hn := E.b.len
  obtain ⟨t0, t1, t2, t3⟩ := B.top (by omega : st.length ≠ 0)
  have hlo := B.lo
  have hhi := B.hi
  simp only [top_is hn] at t0 t1 t2 t3
  dsimp only at hlo hhi
  have hnn := E.hn
  have kT : Hid (∀ u : World, Below w.heap.size w u → Calls Tryz.prog 118 #[.pointer (some ⟨q, 0, none⟩), .agg #[.int .i64 12, .int .i64 (k : Int), .int .i64 b0]] u fun e w' => e = .returned (.bool true) ∧ Below u.heap.size u w') := fun u hu => by
    have := ValidIns.there q g (j + k) cap u p m s x a nb cb h st 12 (k : Int) b0 (envLater E hu)
    rw [ht] at this
    exact this
  have hbt := brT_bnd B (j := j) (by show j < st.length; omega)
  dsimp only at hbt
  have e1 : Hid (PlainValid.step (ctxOf m s x) 12 (k : Int) (h, st) = PlainValid.leave (brT (st.getD j dF)) (h, st)) := by show _ = _; unfold PlainValid.step; dsimp only; rw [← hn, if_neg (by rw [ht]; decide), if_neg (by omega), if_neg (by omega), if_neg (by omega), if_neg (by omega), if_pos rfl, show j + k + 1 - 1 - ((k : Int)).toNat = j by omega]
  rw [e1.out]
  have kF : Hid (∀ u : World, u.cell? ⟨q, 12, none⟩ = some (.slice (some ⟨g, 0, none⟩) (j + k + 1) cap) → Calls Tryz.prog 123 #[.pointer (some ⟨q, 12, none⟩), .int .i64 (k : Int)] u fun e w' => e = .returned (.pointer (some ⟨g, j * 4, none⟩)) ∧ Below u.heap.size u w') := fun u hu => (fromTop q g j k cap u hu (by omega)).mono fun _ _ ⟨z1, m, z2⟩ => ⟨z1, z2 ▸ below_dn u m⟩
  have kB : Hid (∀ u : World, BW u q (fF p m s x a nb cb) h (.slice (some ⟨g, 0, none⟩) (j + k + 1) cap) st → Calls Tryz.prog 124 #[.pointer (some ⟨g, j * 4, none⟩)] u fun e w' => e = .returned (.int .i64 (brT (st.getD j dF))) ∧ u = w') := fun u hu => branchTakes g j _ _ u (hu.cells j (by omega)).1 (hu.cells j (by omega)).2.1 _ _
  have kL : Hid (∀ u : World, BW u q (fF p m s x a nb cb) h (.slice (some ⟨g, 0, none⟩) (j + k + 1) cap) st → Calls Tryz.prog 119 #[.pointer (some ⟨q, 0, none⟩), .int .i64 (brT (st.getD j dF))] u (Res u q (fF p m s x a nb cb) (.slice (some ⟨g, 0, none⟩) (j + k + 1) cap) (PlainValid.leave (brT (st.getD j dF)) (h, st)))) := fun u hu => leaveR q g (j + k) cap u (fF p m s x a nb cb) h st _ hu (by omega) (by omega) (by omega) (by omega) (by omega) hbt.1 (by omega)
  generalize PlainValid.leave (brT (st.getD j dF)) (h, st) = X at *
  generalize brT (st.getD j dF) = c at *
  clear E B ht hn e1
  go_enter Tryz.func80, Tryz.ntmps80
  go_wp2_with (go_at_call 118; refine (kT.out _ (belA w _)).mono ?_; rintro e w1 ⟨rfl, q1⟩; obtain ⟨z0, z1, z2⟩ := boxLater q1; have b1 : Hid (Below w.heap.size w w1) := belB q1)
  go_region_with (first | (go_at_call 123; refine (kF.out _ (hbl.out _ b1.out.drew).pile).mono ?_; rintro e w2 ⟨rfl, q2⟩; have bb : Hid (Below w.heap.size w w2) := b1.out.drew.trans (q2.mono b1.out.size)) | (go_at_call 124; refine (kB.out _ (hbl.out _ bb.out)).mono ?_; rintro e w3 ⟨rfl, rfl⟩) | (go_at_call 119; refine (kL.out _ (hbl.out _ bb.out)).mono ?_; rintro e w4 ⟨ok, h2, v2, st2, rfl, b2, k2, hr⟩; have b2' : Hid (BW w4 q (fF p m s x a nb cb) h2 v2 st2) := b2; have hr' : Hid (X = if ok = true then some (h2, st2) else none) := hr; clear b2 hr))
  all_goals
    go_wp2_with fail
    go_ret
    exact ⟨ok, h2, v2, st2, rfl, b2'.out, (Kp.below _ bb.out).trans k2, hr'.out⟩
theorem stepR (q g n cap : Nat) (w : World) (p : P) (m : M) (s x : Int) (a : Option Addr) (nb cb : Nat) (h : Int) (st : List Fr) (o i b0 : Int) (E : Env q g n cap w p m s x a nb cb h st o i) (B : Bnd 10000 (h, st)) :
    Calls Tryz.prog 80 #[.pointer (some ⟨q, 0, none⟩), .agg #[.int .i64 o, .int .i64 i, .int .i64 b0]] w (Res w q (fF p m s x a nb cb) (.slice (some ⟨g, 0, none⟩) (n + 1) cap) (PlainValid.step (ctxOf m s x) o i (h, st))) := by
  cases ht : PlainValid.there (ctxOf m s x) o i (n + 1) with
  | false => exact stepNo q g n cap w p m s x a nb cb h st o i b0 E B ht
  | true =>
    by_cases c0 : o = 0
    · exact step0 q g n cap w p m s x a nb cb h st o i b0 E B c0 ht
    by_cases c2 : o = 2
    · exact step2 q g n cap w p m s x a nb cb h st o i b0 E B c2 ht
    by_cases c3 : o = 3
    · exact step3 q g n cap w p m s x a nb cb h st o i b0 E B c3 ht
    by_cases c4 : o = 4
    · exact step4 q g n cap w p m s x a nb cb h st o i b0 E B c4 ht
    by_cases c5 : o = 5
    · exact step5 q g n cap w p m s x a nb cb h st o i b0 E B c5 ht
    by_cases c11 : o = 11
    · exact step11 q g n cap w p m s x a nb cb h st o i b0 E B c11 ht
    by_cases c15 : o = 15
    · exact step15 q g n cap w p m s x a nb cb h st o i b0 E B c15 ht
    by_cases c12 : o = 12
    · subst c12
      obtain ⟨i0, i1⟩ := E.hi.idx (by omega)
      have hlt := of_decide_eq_true (show decide (i < ((n + 1 : Nat) : Int)) = true from ht)
      obtain ⟨k, rfl⟩ : ∃ k : Nat, i = k := ⟨i.toNat, by omega⟩
      obtain ⟨j, rfl⟩ : ∃ j : Nat, n = j + k := ⟨n - k, by omega⟩
      exact step12 q g j k cap w p m s x a nb cb h st b0 E B ht
    by_cases c13 : o = 13
    · subst c13
      obtain ⟨i0, i1⟩ := E.hi.idx (by omega)
      have hlt := of_decide_eq_true (show decide (i < ((n + 1 : Nat) : Int)) = true from ht)
      obtain ⟨k, rfl⟩ : ∃ k : Nat, i = k := ⟨i.toNat, by omega⟩
      obtain ⟨j, rfl⟩ : ∃ j : Nat, n = j + k := ⟨n - k, by omega⟩
      exact step13 q g j k cap w p m s x a nb cb h st b0 E B ht
    exact stepElse q g n cap w p m s x a nb cb h st o i b0 E B (by omega) ht
end Go.Proofs.YtdaffcbamnpjfaaGreatDoor.ValidStep
namespace Go.Proofs.YtdaffcbamnpjfaaGreatDoor.ValidNext
open Go.RowKit PlainShape InsMem ShapeCalls PlainValid ValidCtx ValidStep

/-- How many are open behind an instruction. -/
def nOpen (o : Int) (n : Nat) : Nat := if bg o = true then n + 1 else if o = 11 then n - 1 else n
theorem step_next {c : Ctx} {o i : Int} {k : Nat} {s s' : S2} (hc : OkC c) (hi : InsF o i) (hB : Bnd k s) (hn : s.2.length ≠ 0) (e : PlainValid.step c o i s = some s') : Bnd (k + 1) s' ∧ s'.2.length = nOpen o s.2.length := by
  unfold PlainValid.step at e
  split at e
  · cases e
  rename_i ht
  have ht : PlainValid.there c o i s.2.length = true := by simpa using ht
  split at e
  · rename_i ho
    subst ho
    obtain ⟨a, b⟩ := leave_bnd hB hn e
    exact ⟨a.mono (Nat.le_succ k), b⟩
  split at e
  · rename_i ho
    rw [Option.map_eq_some_iff] at e
    obtain ⟨s1, e1, rfl⟩ := e
    obtain ⟨a, b, d⟩ := exch_bnd hB hn (Int.le_refl _) (by omega) e1
    obtain ⟨i0, i1⟩ := hi.one ho
    obtain ⟨x, y⟩ := opens_bnd (o := o) a i0 i1
    refine ⟨x, ?_⟩
    rw [y, b]
    unfold nOpen
    rw [if_pos ((bg_cases o).2 ho)]
  rename_i hob
  have hb : bg o = false := by
    cases h : bg o with
    | false => rfl
    | true => exact absurd ((bg_cases o).1 h) hob
  have hno : o ≠ 11 → nOpen o s.2.length = s.2.length := fun h => by unfold nOpen; rw [hb, if_neg (by decide), if_neg h]
  split at e
  · rename_i ho
    obtain ⟨a, b⟩ := turn_bnd hB hn e
    exact ⟨a.mono (Nat.le_succ k), by rw [hno (by omega)]; exact b⟩
  split at e
  · rename_i ho
    subst ho
    obtain ⟨a, b⟩ := close_bnd hB hn e
    exact ⟨a, b⟩
  rename_i h11
  rw [hno h11]
  split at e
  · obtain ⟨a, b⟩ := leave_bnd hB hn e
    exact ⟨a.mono (Nat.le_succ k), b⟩
  split at e
  · rename_i ho
    subst ho
    have hlt := of_decide_eq_true (show decide (i < (s.2.length : Int)) = true from ht)
    obtain ⟨i0, _⟩ := hi.idx (by omega)
    obtain ⟨t0, t1⟩ := brT_bnd hB (j := s.2.length - 1 - i.toNat) (by omega)
    unfold brIf at e
    rw [Option.bind_eq_some_iff] at e
    obtain ⟨s1, e1, e2⟩ := e
    obtain ⟨a, b, d⟩ := exch_bnd hB hn (Int.le_refl _) (by omega) e1
    have a' : Bnd k s1 := ⟨a.lo, by have := hB.hi; omega, by rw [b]; exact hB.fr⟩
    obtain ⟨a2, b2, d2⟩ := exch_bnd a' (by rw [b]; exact hn) t0 t1 e2
    exact ⟨a2, by rw [b2, b]⟩
  split at e
  · obtain ⟨a, b⟩ := leave_bnd hB hn e
    exact ⟨a.mono (Nat.le_succ k), b⟩
  · obtain ⟨f0, f1, f2, f3⟩ := eff_bnd hc hi ht
    obtain ⟨a, b, d⟩ := exch_bnd hB hn f2 f3 e
    exact ⟨a, by rw [b]⟩
theorem shape_next {l : List I3} {f k : Nat} {sh : List Int} (h : shpF l (f + 1) k sh = true) : ∃ sh', shpF l f (k + 1) sh' = true ∧ sh'.length + 1 = nOpen (oAt l k) (sh.length + 1) ∧ (oAt l k = 11 → sh.length ≠ 0) := by
  unfold nOpen
  cases hb : bg (oAt l k) with
  | true =>
    rw [shp_bg rfl hb] at h
    exact ⟨_, h, by simp, fun e => absurd e (bg_ne hb)⟩
  | false =>
    by_cases h5 : oAt l k = 5
    · by_cases h0 : sh.length = 0
      · rw [shp_else0 h5 (.inl h0)] at h; cases h
      · by_cases h4 : sh.getD (sh.length - 1) 0 = 4
        · rw [shp_else h5 h0 h4] at h
          exact ⟨_, h, by rw [h5]; simp, fun e => by omega⟩
        · rw [shp_else0 h5 (.inr h4)] at h; cases h
    · by_cases h11 : oAt l k = 11
      · by_cases h0 : sh.length = 0
        · rw [shp_end0 h11 h0] at h; cases h
        · rw [shp_end h11 h0] at h
          refine ⟨_, h, ?_, fun _ => h0⟩
          rw [h11, if_neg (by decide), if_pos rfl, List.length_take]
          omega
      · rw [shp_no rfl hb h5 h11] at h
        exact ⟨_, h, by rw [if_neg (by decide), if_neg h11], fun e => absurd e h11⟩
theorem nOpen_pos {l : List I3} {k n : Nat} (h : oAt l k = 11 → n ≠ 0) : nOpen (oAt l k) (n + 1) ≠ 0 := by
  unfold nOpen
  split
  · omega
  · split
    · rename_i e; have := h e; omega
    · omega
theorem start_bnd {c : Ctx} (hc : OkC c) : Bnd 0 (PlainValid.start c) := by
  refine ⟨Int.le_refl _, Int.le_refl _, fun j hj => ?_⟩
  obtain rfl : j = 0 := by simpa [PlainValid.start] using hj
  have := hc.own
  exact ⟨Int.le_refl _, Int.le_refl _, this.1, this.2⟩
end Go.Proofs.YtdaffcbamnpjfaaGreatDoor.ValidNext
namespace Go.Proofs.YtdaffcbamnpjfaaGreatDoor.ValidWalk
open Go.RowKit PlainOps NameCalls PlainNum NumCalls InsCalls InsImpl PlainShape InsMem PlainAll ShapeCalls FormCalls ModMem FormImpl PlainValid ValidCtx ValidMod Piles Walks Walks2 Walks3 Walks4 ValidIns ValidEff ValidStep ValidNext

/-- A body and what it stands in: what the walk wants. -/
structure Bod (w : World) (p : P) (m : M) (s x : Int) (a : Option Addr) (l : List I3) : Prop where
  rd : Rd w p m
  f : Facts m
  h0 : 0 ≤ s
  h1 : s < m.sigs.length
  hx : 0 ≤ x ∧ x ≤ 60
  rl : RdI w a l
  bo : boOk l = true
theorem Bod.later {w u : World} {p : P} {m : M} {s x : Int} {a : Option Addr} {l : List I3} (h : Bod w p m s x a l) (hb : Below w.heap.size w u) : Bod u p m s x a l := ⟨h.rd.later hb, h.f, h.h0, h.h1, h.hx, h.rl.later hb, h.bo⟩
theorem Bod.len {w : World} {p : P} {m : M} {s x : Int} {a : Option Addr} {l : List I3} (h : Bod w p m s x a l) : l.length ≤ 1500 := by
  have := h.bo
  unfold boOk at this
  simp only [Bool.and_eq_true] at this
  exact of_decide_eq_true this.1
theorem Bod.ins {w : World} {p : P} {m : M} {s x : Int} {a : Option Addr} {l : List I3} (h : Bod w p m s x a l) (k : Nat) (hk : k < l.length) : InsF (oAt l k) (aAt l k) := by
  have := h.bo
  unfold boOk at this
  simp only [Bool.and_eq_true] at this
  exact insF (allF_at _ 0 this.2.1 k (by omega) (by omega))
theorem Bod.shape {w : World} {p : P} {m : M} {s x : Int} {a : Option Addr} {l : List I3} (h : Bod w p m s x a l) : shpF l l.length 0 [] = true := by
  have := h.bo
  unfold boOk at this
  simp only [Bool.and_eq_true] at this
  exact this.2.2
theorem bw_new (w : World) (p : P) (m : M) (s x : Int) (a : Option Addr) (l : List I3) (cb : Nat) : BW (((w.alloc (.cells #[.slice p.a0 m.sigs.length p.c0, .slice p.a1 m.imps.length p.c1, .slice p.a2 m.fns.length p.c2, .int .i64 m.pages, .int .i64 m.most, .slice p.a3 m.gls.length p.c3, .slice p.a4 m.exs.length p.c4, .slice p.a5 m.dat.length p.c5] 39)).alloc (.cells #[.int .i64 s, .int .i64 x, .slice a l.length cb] 60)).alloc (.cells #[.slice p.a0 m.sigs.length p.c0, .slice p.a1 m.imps.length p.c1, .slice p.a2 m.fns.length p.c2, .int .i64 m.pages, .int .i64 m.most, .slice p.a3 m.gls.length p.c3, .slice p.a4 m.exs.length p.c4, .slice p.a5 m.dat.length p.c5, .int .i64 s, .int .i64 x, .slice a l.length cb, .int .i64 0, .slice none 0 0] 168)) (w.heap.size + 2) (fF p m s x a l.length cb) 0 (.slice none 0 0) [] := by
  have r := World.rowIs_alloc ((w.alloc (.cells #[.slice p.a0 m.sigs.length p.c0, .slice p.a1 m.imps.length p.c1, .slice p.a2 m.fns.length p.c2, .int .i64 m.pages, .int .i64 m.most, .slice p.a3 m.gls.length p.c3, .slice p.a4 m.exs.length p.c4, .slice p.a5 m.dat.length p.c5] 39)).alloc (.cells #[.int .i64 s, .int .i64 x, .slice a l.length cb] 60)) #[.slice p.a0 m.sigs.length p.c0, .slice p.a1 m.imps.length p.c1, .slice p.a2 m.fns.length p.c2, .int .i64 m.pages, .int .i64 m.most, .slice p.a3 m.gls.length p.c3, .slice p.a4 m.exs.length p.c4, .slice p.a5 m.dat.length p.c5, .int .i64 s, .int .i64 x, .slice a l.length cb, .int .i64 0, .slice none 0 0] 168 (bwC (fF p m s x a l.length cb) 0 (.slice none 0 0)) (fun i hi => by
    match i, hi with
    | 0, _ => rfl
    | 1, _ => rfl
    | 2, _ => rfl
    | 3, _ => rfl
    | 4, _ => rfl
    | 5, _ => rfl
    | 6, _ => rfl
    | 7, _ => rfl
    | 8, _ => rfl
    | 9, _ => rfl
    | 10, _ => rfl
    | 11, _ => rfl
    | 12, _ => rfl)
  simp only [World.size_alloc] at r
  exact ⟨r, World.ownsRow_nil _ _ _ _⟩
set_option maxRecDepth 20000 in
set_option maxHeartbeats 8000000 in
theorem begin' (p : P) (m : M) (s x : Int) (a : Option Addr) (l : List I3) (cb : Nat) (w : World) (h : Bod w p m s x a l) :
    Calls Tryz.prog 78 #[.agg #[.slice p.a0 m.sigs.length p.c0, .slice p.a1 m.imps.length p.c1, .slice p.a2 m.fns.length p.c2, .int .i64 m.pages, .int .i64 m.most, .slice p.a3 m.gls.length p.c3, .slice p.a4 m.exs.length p.c4, .slice p.a5 m.dat.length p.c5], .agg #[.int .i64 s, .int .i64 x, .slice a l.length cb]] w fun e w' => ∃ q g cap, e = .returned (.pointer (some ⟨q, 0, none⟩)) ∧ BW w' q (fF p m s x a l.length cb) 0 (.slice (some ⟨g, 0, none⟩) 1 cap) [⟨2, (ctxOf m s x).own, 0, false⟩] ∧ w.heap.size ≤ q ∧ Below w.heap.size w w' := by
  have hB : Hid (BW (((w.alloc (.cells #[.slice p.a0 m.sigs.length p.c0, .slice p.a1 m.imps.length p.c1, .slice p.a2 m.fns.length p.c2, .int .i64 m.pages, .int .i64 m.most, .slice p.a3 m.gls.length p.c3, .slice p.a4 m.exs.length p.c4, .slice p.a5 m.dat.length p.c5] 39)).alloc (.cells #[.int .i64 s, .int .i64 x, .slice a l.length cb] 60)).alloc (.cells #[.slice p.a0 m.sigs.length p.c0, .slice p.a1 m.imps.length p.c1, .slice p.a2 m.fns.length p.c2, .int .i64 m.pages, .int .i64 m.most, .slice p.a3 m.gls.length p.c3, .slice p.a4 m.exs.length p.c4, .slice p.a5 m.dat.length p.c5, .int .i64 s, .int .i64 x, .slice a l.length cb, .int .i64 0, .slice none 0 0] 168)) (w.heap.size + 2) (fF p m s x a l.length cb) 0 (.slice none 0 0) []) := bw_new w p m s x a l cb
  have bb : Hid (Below w.heap.size w (((w.alloc (.cells #[.slice p.a0 m.sigs.length p.c0, .slice p.a1 m.imps.length p.c1, .slice p.a2 m.fns.length p.c2, .int .i64 m.pages, .int .i64 m.most, .slice p.a3 m.gls.length p.c3, .slice p.a4 m.exs.length p.c4, .slice p.a5 m.dat.length p.c5] 39)).alloc (.cells #[.int .i64 s, .int .i64 x, .slice a l.length cb] 60)).alloc (.cells #[.slice p.a0 m.sigs.length p.c0, .slice p.a1 m.imps.length p.c1, .slice p.a2 m.fns.length p.c2, .int .i64 m.pages, .int .i64 m.most, .slice p.a3 m.gls.length p.c3, .slice p.a4 m.exs.length p.c4, .slice p.a5 m.dat.length p.c5, .int .i64 s, .int .i64 x, .slice a l.length cb, .int .i64 0, .slice none 0 0] 168))) := (((Below.refl _ _).alloc (Nat.le_refl _) _).alloc (by simp) _).alloc (by simp; omega) _
  have kO : Hid (∀ u : World, BW u (w.heap.size + 2) (fF p m s x a l.length cb) 0 (.slice none 0 0) [] → Below w.heap.size w u → Calls Tryz.prog 116 #[.pointer (some ⟨w.heap.size + 2, 0, none⟩)] u fun e w' => e = .returned (.agg #[.int .i64 (MemSig.f0At m.sigs s.toNat), .int .i64 (MemSig.f1At m.sigs s.toNat)]) ∧ Below u.heap.size u w') := fun u bu hu => ValidIns.own _ u p m s x a l.length cb 0 _ [] bu (h.rd.later hu) h.h0 h.h1
  have kU : Hid (∀ u : World, BW u (w.heap.size + 2) (fF p m s x a l.length cb) 0 (.slice none 0 0) [] → Calls Tryz.prog 115 #[.pointer (some ⟨w.heap.size + 2, 0, none⟩), .int .i64 2, .int .i64 (MemSig.f1At m.sigs s.toNat)] u fun e w' => e = .returned (.tuple #[]) ∧ ∃ g cap, BW w' (w.heap.size + 2) (fF p m s x a l.length cb) 0 (.slice (some ⟨g, 0, none⟩) 1 cap) [⟨2, (ctxOf m s x).own, 0, false⟩] ∧ Kp (w.heap.size + 2) u w' (.slice none 0 0) (.slice (some ⟨g, 0, none⟩) 1 cap)) := fun u bu => openUp _ u (fF p m s x a l.length cb) 0 _ [] 2 (MemSig.f1At m.sigs s.toNat) bu (by simp)
  have hrf := run_sig1
  clear h
  generalize (ctxOf m s x).own = co at *
  generalize MemSig.f0At m.sigs s.toNat = X0 at *
  generalize MemSig.f1At m.sigs s.toNat = X1 at *
  generalize (fF p m s x a l.length cb) = FF at *
  generalize l.length = NB at *
  generalize m.sigs.length = N0 at *
  generalize m.imps.length = N1 at *
  generalize m.fns.length = N2 at *
  generalize m.gls.length = N3 at *
  generalize m.exs.length = N4 at *
  generalize m.dat.length = N5 at *
  go_enter Tryz.func78, Tryz.ntmps78
  go_wp2_with (first | (go_at_call 116; refine (kO.out _ hB.out bb.out).mono ?_; rintro e w1 ⟨rfl, q1⟩) | (go_at_call 115; refine (kU.out _ (hB.out.later q1)).mono ?_; rintro e w2 ⟨rfl, g2, cap2, b2, k2⟩; have b2' : Hid (BW w2 (w.heap.size + 2) FF 0 (.slice (some ⟨g2, 0, none⟩) 1 cap2) [⟨2, co, 0, false⟩]) := b2; have k2' : Hid (Kp (w.heap.size + 2) w1 w2 (.slice none 0 0) (.slice (some ⟨g2, 0, none⟩) 1 cap2)) := k2; clear b2 k2))
  go_ret
  refine ⟨w.heap.size + 2, g2, cap2, rfl, b2'.out, by omega, ?_⟩
  have x1 := bb.out.trans (q1.mono bb.out.size)
  exact x1.trans ⟨k2'.out.os, k2'.out.tape, k2'.out.output, k2'.out.size, fun k hk => k2'.out.block k (Nat.lt_of_lt_of_le hk x1.size) (by omega) (by simp [Value.ownBlock])⟩
end Go.Proofs.YtdaffcbamnpjfaaGreatDoor.ValidWalk
namespace Go.Proofs.YtdaffcbamnpjfaaGreatDoor.ValidHeights
open Go.RowKit PlainOps NameCalls PlainNum NumCalls InsCalls InsImpl PlainShape InsMem PlainAll ShapeCalls FormCalls ModMem FormImpl PlainValid ValidCtx ValidMod Piles Walks Walks2 Walks3 Walks4 ValidIns ValidEff ValidStep ValidNext ValidWalk

theorem bwGrown {w w' : World} {p : Nat} {F : Nat → Value} {h : Int} {v : Value} {st : List Fr} {r : Option Nat} (b : BW w p F h v st) (hg : w.grownBy w' r) (h1 : some p ≠ r) (h2 : ∀ k, v.ownBlock = some k → some k ≠ r) : BW w' p F h v st := by
  refine ⟨b.box.of_block (hg.block p b.lt h1), b.own.1, ?_⟩
  rcases b.own.2 with h0 | ⟨g, cap, cur, hv, hgB, hh, rest⟩
  · exact .inl h0
  · exact .inr ⟨g, cap, cur, hv, hgB, (hg.block g (Array.getElem?_eq_some_iff.1 hh).1 (h2 g (by rw [hv]; rfl))).trans hh, rest⟩
theorem ownKp {B p : Nat} {w w' : World} {v v' vl : Value} {acc : List Int} (h : OwnS B w vl acc) (k : Kp p w w' v v') (hB : p < B) (hs : ∀ ga, vl.ownBlock = some ga → v.ownBlock ≠ some ga) : OwnS B w' vl acc := by
  refine ⟨h.1, ?_⟩
  rcases h.2 with h0 | ⟨g, cap, cur, hv, hg, hh, r⟩
  · exact .inl h0
  · exact .inr ⟨g, cap, cur, hv, hg, (k.block g (Array.getElem?_eq_some_iff.1 hh).1 (by omega) (fun e => hs g (by rw [hv]; rfl) e.symm)).trans hh, r⟩
theorem kpBelow {p B : Nat} {w w' : World} {v v' : Value} (k : Kp p w w' v v') (hB : B ≤ p) (hs : B ≤ w.heap.size) (hv : ∀ g, v.ownBlock = some g → B ≤ g) : Below B w w' :=
  ⟨k.os, k.tape, k.output, k.size, fun i hi => k.block i (by omega) (by omega) (fun e => by have := hv i e.symm; omega)⟩
theorem sepKp {p : Nat} {w w' : World} {v v' vl : Value} (k : Kp p w w' v v') (hl : ∀ ga, vl.ownBlock = some ga → ga < w.heap.size) (hs : ∀ ga, vl.ownBlock = some ga → v.ownBlock ≠ some ga) : ∀ ga, vl.ownBlock = some ga → v'.ownBlock ≠ some ga := fun ga h e => by
  rcases k.lies with a | a
  · exact hs ga h (a.symm.trans e)
  · have := a ga e
    have := hl ga h
    omega
theorem ownB_eq {g n cap g' : Nat} (h : (Value.slice (some ⟨g, 0, none⟩) n cap).ownBlock = some g') : g = g' := by simpa [Value.ownBlock] using h
theorem newCell (w : World) (o : Obj) (m : Nat) (x : Value) (t : TypeId) : (((w.alloc o).drewN m).alloc (.cells #[x] t)).cell? ⟨w.heap.size + 1, 0, none⟩ = some x := by
  have e : ((w.alloc o).drewN m).heap.size = w.heap.size + 1 := by show (w.alloc o).heap.size = _; simp
  have k : ∀ u : World, (u.alloc (.cells #[x] t)).cell? ⟨u.heap.size, 0, none⟩ = some x := fun u => by simp
  rw [← e]
  exact k _
theorem oldCell (w : World) (o o' : Obj) (m j : Nat) (x : Value) (h : (w.alloc o).cell? ⟨w.heap.size, j, none⟩ = some x) : (((w.alloc o).drewN m).alloc o').cell? ⟨w.heap.size, j, none⟩ = some x := by
  have hb : Below (w.alloc o).heap.size (w.alloc o) (((w.alloc o).drewN m).alloc o') := (below_dn _ m).alloc (Nat.le_refl _) _
  rw [hb.cell (by simp)]
  exact h
theorem ownLow {B B' : Nat} {w : World} {v : Value} {l : List Int} (h : OwnS B w v l) (hB : B' ≤ B) : OwnS B' w v l := by
  refine ⟨h.1, ?_⟩
  rcases h.2 with h0 | ⟨g, cap, cur, hv, hg, r⟩
  · exact .inl h0
  · exact .inr ⟨g, cap, cur, hv, Nat.le_trans hB hg, r⟩
set_option maxRecDepth 20000 in
set_option maxHeartbeats 16000000 in
theorem heights (p : P) (m : M) (s x : Int) (a : Option Addr) (l : List I3) (cb : Nat) (w : World) (h : Bod w p m s x a l) :
    Calls Tryz.prog 39 #[.agg #[.slice p.a0 m.sigs.length p.c0, .slice p.a1 m.imps.length p.c1, .slice p.a2 m.fns.length p.c2, .int .i64 m.pages, .int .i64 m.most, .slice p.a3 m.gls.length p.c3, .slice p.a4 m.exs.length p.c4, .slice p.a5 m.dat.length p.c5], .agg #[.int .i64 s, .int .i64 x, .slice a l.length cb]] w fun e w' => ∃ v, e = .returned (.tuple #[v, .int .i64 (body (ctxOf m s x) l).2]) ∧ OwnS w.heap.size w' v (body (ctxOf m s x) l).1 ∧ Below w.heap.size w w' := by
  obtain ⟨i0, hi, hz0, hz1, hz2⟩ := info_parts info3
  have hl := h.len
  have bF : Hid (Below w.heap.size w ((w.alloc (.cells #[.slice p.a0 m.sigs.length p.c0, .slice p.a1 m.imps.length p.c1, .slice p.a2 m.fns.length p.c2, .int .i64 m.pages, .int .i64 m.most, .slice p.a3 m.gls.length p.c3, .slice p.a4 m.exs.length p.c4, .slice p.a5 m.dat.length p.c5] 39)).alloc (.cells #[.int .i64 s, .int .i64 x, .slice a l.length cb] 60))) := ((Below.refl _ _).alloc (Nat.le_refl _) _).alloc (by simp) _
  have hA : Hid (Bod ((w.alloc (.cells #[.slice p.a0 m.sigs.length p.c0, .slice p.a1 m.imps.length p.c1, .slice p.a2 m.fns.length p.c2, .int .i64 m.pages, .int .i64 m.most, .slice p.a3 m.gls.length p.c3, .slice p.a4 m.exs.length p.c4, .slice p.a5 m.dat.length p.c5] 39)).alloc (.cells #[.int .i64 s, .int .i64 x, .slice a l.length cb] 60)) p m s x a l) := h.later bF.out
  have hC : Hid (OkC (ctxOf m s x)) := okC h.f h.h0 h.h1
  have kB : Hid (Calls Tryz.prog 78 #[.agg #[.slice p.a0 m.sigs.length p.c0, .slice p.a1 m.imps.length p.c1, .slice p.a2 m.fns.length p.c2, .int .i64 m.pages, .int .i64 m.most, .slice p.a3 m.gls.length p.c3, .slice p.a4 m.exs.length p.c4, .slice p.a5 m.dat.length p.c5], .agg #[.int .i64 s, .int .i64 x, .slice a l.length cb]] ((w.alloc (.cells #[.slice p.a0 m.sigs.length p.c0, .slice p.a1 m.imps.length p.c1, .slice p.a2 m.fns.length p.c2, .int .i64 m.pages, .int .i64 m.most, .slice p.a3 m.gls.length p.c3, .slice p.a4 m.exs.length p.c4, .slice p.a5 m.dat.length p.c5] 39)).alloc (.cells #[.int .i64 s, .int .i64 x, .slice a l.length cb] 60)) fun e w' => ∃ q g cap, e = .returned (.pointer (some ⟨q, 0, none⟩)) ∧ BW w' q (fF p m s x a l.length cb) 0 (.slice (some ⟨g, 0, none⟩) 1 cap) [⟨2, (ctxOf m s x).own, 0, false⟩] ∧ w.heap.size + 2 ≤ q ∧ Below (w.heap.size + 2) ((w.alloc (.cells #[.slice p.a0 m.sigs.length p.c0, .slice p.a1 m.imps.length p.c1, .slice p.a2 m.fns.length p.c2, .int .i64 m.pages, .int .i64 m.most, .slice p.a3 m.gls.length p.c3, .slice p.a4 m.exs.length p.c4, .slice p.a5 m.dat.length p.c5] 39)).alloc (.cells #[.int .i64 s, .int .i64 x, .slice a l.length cb] 60)) w') := by
    have := begin' p m s x a l cb ((w.alloc (.cells #[.slice p.a0 m.sigs.length p.c0, .slice p.a1 m.imps.length p.c1, .slice p.a2 m.fns.length p.c2, .int .i64 m.pages, .int .i64 m.most, .slice p.a3 m.gls.length p.c3, .slice p.a4 m.exs.length p.c4, .slice p.a5 m.dat.length p.c5] 39)).alloc (.cells #[.int .i64 s, .int .i64 x, .slice a l.length cb] 60)) hA.out
    simp only [World.size_alloc] at this
    exact this
  have hbx : Hid (∀ u : World, Below (w.heap.size + 2) ((w.alloc (.cells #[.slice p.a0 m.sigs.length p.c0, .slice p.a1 m.imps.length p.c1, .slice p.a2 m.fns.length p.c2, .int .i64 m.pages, .int .i64 m.most, .slice p.a3 m.gls.length p.c3, .slice p.a4 m.exs.length p.c4, .slice p.a5 m.dat.length p.c5] 39)).alloc (.cells #[.int .i64 s, .int .i64 x, .slice a l.length cb] 60)) u → u.cell? ⟨w.heap.size + 1, 2, none⟩ = some (.slice a l.length cb)) := fun u hu => by
    rw [hu.cell (by show w.heap.size + 1 < _; omega)]
    have := (MemFunc.r3 (MemFunc.r3_made (w.alloc (.cells #[.slice p.a0 m.sigs.length p.c0, .slice p.a1 m.imps.length p.c1, .slice p.a2 m.fns.length p.c2, .int .i64 m.pages, .int .i64 m.most, .slice p.a3 m.gls.length p.c3, .slice p.a4 m.exs.length p.c4, .slice p.a5 m.dat.length p.c5] 39)) (.int .i64 s) (.int .i64 x) (.slice a l.length cb) 60)).2.2.1
    simp only [World.size_alloc] at this
    exact this
  obtain ⟨R, hR⟩ : ∃ R, body (ctxOf m s x) l = R := ⟨_, rfl⟩
  have hR' : Hid (walk (ctxOf m s x) l l.length 0 (PlainValid.start (ctxOf m s x)) [] = R) := hR
  rw [hR]
  clear hR h
  go_enter Tryz.func39, Tryz.ntmps39
  go_wp2_with (go_at_call 78; refine kB.out.mono ?_; rintro e w1 ⟨q, g1, cap1, rfl, bw1, hq, bel1⟩; have bw1' : Hid (BW w1 q (fF p m s x a l.length cb) 0 (.slice (some ⟨g1, 0, none⟩) 1 cap1) [⟨2, (ctxOf m s x).own, 0, false⟩]) := bw1; have cB := hbx.out _ bel1; clear bw1)
  go_loopw [6, 16] (fun vl vk wr => ∃ (k f : Nat) (acc : List Int) (h : Int) (v : Value) (st : List Fr) (sh : List Int), k + f = l.length ∧ vk = .int .i64 k ∧ OwnS (q + 1) wr vl acc ∧ acc.length = k ∧ BW wr q (fF p m s x a l.length cb) h v st ∧ (∀ ga, vl.ownBlock = some ga → v.ownBlock ≠ some ga) ∧ Bnd k (h, st) ∧ shpF l f k sh = true ∧ sh.length + 1 = st.length ∧ st.length ≤ k + 1 ∧ walk (ctxOf m s x) l f k (h, st) acc = R ∧ Below (w.heap.size + 2) ((w.alloc (.cells #[.slice p.a0 m.sigs.length p.c0, .slice p.a1 m.imps.length p.c1, .slice p.a2 m.fns.length p.c2, .int .i64 m.pages, .int .i64 m.most, .slice p.a3 m.gls.length p.c3, .slice p.a4 m.exs.length p.c4, .slice p.a5 m.dat.length p.c5] 39)).alloc (.cells #[.int .i64 s, .int .i64 x, .slice a l.length cb] 60)) wr) (fun _ vk _ => l.length - (intOf vk).toNat)
  case atStart => exact ⟨0, l.length, [], 0, _, _, [], by omega, rfl, World.ownsRow_nil _ _ _ _, rfl, bw1'.out, fun ga e => by simp [Value.ownBlock] at e, start_bnd hC.out, hA.out.shape, rfl, by simp, hR'.out, bel1⟩
  case round =>
    obtain ⟨k, f, acc, h, v, st, sh, hk, rfl, own, hacc, bw, hsep, hB, hsh, hst, hle, hw, bel⟩ := hrel
    obtain ⟨av, cv', hv⟩ := own.form0
    rw [hacc] at hv
    subst hv
    generalize hWF : ((w.alloc (.cells #[.slice p.a0 m.sigs.length p.c0, .slice p.a1 m.imps.length p.c1, .slice p.a2 m.fns.length p.c2, .int .i64 m.pages, .int .i64 m.most, .slice p.a3 m.gls.length p.c3, .slice p.a4 m.exs.length p.c4, .slice p.a5 m.dat.length p.c5] 39)).alloc (.cells #[.int .i64 s, .int .i64 x, .slice a l.length cb] 60)) = w0 at *
    have hw0s : w0.heap.size = w.heap.size + 2 := by rw [← hWF]; simp
    have hbx0 : Hid (Below w.heap.size w w0) := bF.out
    clear hWF
    have hw' : Hid (walk (ctxOf m s x) l f k (h, st) acc = R) := hw
    have own' : Hid (wr.ownsRow (q + 1) 3 1 (.slice av k cv') k (acc.map fun z => .int .i64 z)) := by have := own; unfold OwnS at this; rw [hacc] at this; exact this
    have hacc' : Hid (acc.length = k) := hacc
    have bw' : Hid (BW wr q (fF p m s x a l.length cb) h v st) := bw
    have hsep' : Hid (∀ ga, (Value.slice av k cv').ownBlock = some ga → v.ownBlock ≠ some ga) := hsep
    have hB' : Hid (Bnd k (h, st)) := hB
    have bel' : Hid (Below (w.heap.size + 2) w0 wr) := bel
    have hsz : w.heap.size + 2 ≤ wr.heap.size := by have := bel.size; omega
    obtain ⟨n, hn⟩ : ∃ n, st.length = n + 1 := ⟨st.length - 1, by omega⟩
    obtain ⟨g, cap, hv, hqg, hgw, hcap⟩ := bw.form (by omega)
    rw [hn] at hv
    subst hv
    have hqw := bw.lt
    clear hw hB hsep bw1' cB hR'
    by_cases hlt : k < l.length
    · have hlt' : (k : Int) < (l.length : Int) := by omega
      obtain ⟨f, rfl⟩ : ∃ j, f = j + 1 := ⟨f - 1, by omega⟩
      have hBod : Hid (∀ u : World, Below (w.heap.size + 2) w0 u → Bod u p m s x a l) := fun u hu => hA.out.later (hu.mono (by omega))
      rcases (hBod.out _ bel).rl with h0 | ⟨b, off, ha, hc⟩
      · omega
      · obtain ⟨c0, c1, c2⟩ := hc k hlt
        have hbb : b < wr.heap.size := World.block_lt_of_cell? wr _ c0
        have hIns := hA.out.ins k hlt
        have hIns' : Hid (InsF (oAt l k) (aAt l k)) := hIns
        have hWn : Hid (∀ s', PlainValid.step (ctxOf m s x) (oAt l k) (aAt l k) (h, st) = some s' → walk (ctxOf m s x) l f (k + 1) s' (acc ++ [PlainValid.told (h, st)]) = R) := fun s' e => by rw [← walk_yes e]; exact hw'.out
        have hWf : Hid (PlainValid.step (ctxOf m s x) (oAt l k) (aAt l k) (h, st) = none → R = (acc ++ [PlainValid.told (h, st)], (k : Int))) := fun e => by rw [← hw'.out]; exact walk_no e
        have hNx : Hid (∀ s', PlainValid.step (ctxOf m s x) (oAt l k) (aAt l k) (h, st) = some s' → Bnd (k + 1) s' ∧ s'.2.length = nOpen (oAt l k) st.length) := fun s' e => step_next hC.out hIns hB'.out (by show st.length ≠ 0; omega) e
        obtain ⟨sh', hs1, hs2, hs3⟩ := shape_next hsh
        have hSh : Hid (shpF l f (k + 1) sh' = true ∧ sh'.length + 1 = nOpen (oAt l k) st.length) := ⟨hs1, by rw [hs2, hst]⟩
        have kTo : Hid (∀ u : World, BW u q (fF p m s x a l.length cb) h (.slice (some ⟨g, 0, none⟩) (n + 1) cap) st → Calls Tryz.prog 79 #[.pointer (some ⟨q, 0, none⟩)] u fun e w' => e = .returned (.int .i64 (PlainValid.told (h, st))) ∧ ∃ m, w' = u.drewN m) := fun u hu => by
          have := Walks3.told q g n cap u (fF p m s x a l.length cb) h st hu (by omega)
          unfold PlainValid.told
          simp only [top_is hn.symm]
          exact this
        have kSt : Hid (∀ (u : World) (b0 : Int), BW u q (fF p m s x a l.length cb) h (.slice (some ⟨g, 0, none⟩) (n + 1) cap) st → Below (w.heap.size + 2) w0 u → Calls Tryz.prog 80 #[.pointer (some ⟨q, 0, none⟩), .agg #[.int .i64 (oAt l k), .int .i64 (aAt l k), .int .i64 b0]] u (Res u q (fF p m s x a l.length cb) (.slice (some ⟨g, 0, none⟩) (n + 1) cap) (PlainValid.step (ctxOf m s x) (oAt l k) (aAt l k) (h, st)))) := fun u b0 hu hb => stepR q g n cap u p m s x a l.length cb h st _ _ b0 ⟨hu, (hBod.out u hb).rd, hA.out.f, hA.out.h0, hA.out.h1, hA.out.hx, by omega, hIns⟩ (hB'.out.mono (by omega))
        have hlen : Hid (sh.length + 1 = st.length) := hst
        subst ha
        clear hc hw' hsh hs1 hs2 hs3 hst hIns bel own bw hacc
        generalize PlainValid.step (ctxOf m s x) (oAt l k) (aAt l k) (h, st) = X at *
        generalize PlainValid.told (h, st) = tt at *
        generalize oAt l k = o at *
        generalize aAt l k = i at *
        generalize bAt l k = b0 at *
        have lts := World.ownsRow.lt own'.out
        have x1 : Hid (Below (w.heap.size + 2) w0 (wr.alloc (.cells #[.int .i64 o, .int .i64 i, .int .i64 b0] 62))) := bel'.out.alloc hsz _
        have kTo1 : Hid (Calls Tryz.prog 79 #[.pointer (some ⟨q, 0, none⟩)] (wr.alloc (.cells #[.int .i64 o, .int .i64 i, .int .i64 b0] 62)) fun e w' => e = .returned (.int .i64 tt) ∧ ∃ m, w' = (wr.alloc (.cells #[.int .i64 o, .int .i64 i, .int .i64 b0] 62)).drewN m) := kTo.out _ (bw'.out.alloc _)
        clear kTo
        go_wp2_with (first | (go_at_call 79; refine kTo1.out.mono ?_; rintro e w2 ⟨rfl, m2, rfl⟩) | (at_builtin; refine wpList_append_own_at _ rfl _ _ 45 rfl (q + 1) 3 i0 (.int .i64 0) 1 8 Tryz.underlying45 hi hz0 hz1 hz2 rfl (by decide) _ _ _ rfl (World.ownsRow.alloc (show ((wr.alloc (.cells #[.int .i64 o, .int .i64 i, .int .i64 b0] 62)).drewN m2).ownsRow (q + 1) 3 1 _ _ _ from World.ownsRow.alloc own'.out _) _) ⟨wr.heap.size + 1, 0, none⟩ 1 1 [Value.int .i64 tt] rfl rfl ?c1 ?c2 ?c3 ?c4 ?c5 ?_))
        case c1 =>
          intro j u hj
          match j, hj with
          | 0, hj => simp at hj; subst hj; exact newCell _ _ _ _ _
        case c2 => intro u hu; simp at hu; subst hu; rfl
        case c3 => unfold maxLen; omega
        case c4 => omega
        case c5 => simp; omega
        intro v' w3 hown1 hgrow _ hat
        have own3 : Hid (OwnS (q + 1) w3 v' (acc ++ [tt])) := own_snoc (by rw [hacc'.out]; exact hown1)
        have W3 := World.grownBy_alloc ((wr.alloc (.cells #[.int .i64 o, .int .i64 i, .int .i64 b0] 62)).drewN m2) (.cells #[.int .i64 tt] 3) none
        have bw3 : Hid (BW w3 q (fF p m s x (some ⟨b, off, none⟩) l.length cb) h (.slice (some ⟨g, 0, none⟩) (n + 1) cap) st) := bwGrown (((bw'.out.alloc (.cells #[.int .i64 o, .int .i64 i, .int .i64 b0] 62)).drewN m2).alloc (.cells #[.int .i64 tt] 3)) hgrow (fun e => by have := (lts q e.symm).1; omega) (fun k' e e' => hsep'.out k' e'.symm e)
        have ci : w3.cell? ⟨wr.heap.size, 0, none⟩ = some (.int .i64 o) ∧ w3.cell? ⟨wr.heap.size, 1, none⟩ = some (.int .i64 i) ∧ w3.cell? ⟨wr.heap.size, 2, none⟩ = some (.int .i64 b0) := by
          refine ⟨?_, ?_, ?_⟩ <;> rw [grown_cell hgrow (by simp; omega) (fun e => by have := (lts _ e).2; omega)] <;> exact oldCell _ _ _ _ _ _ (by simp)
        obtain ⟨ci0, ci1, ci2⟩ := ci
        have bel3 : Hid (Below (w.heap.size + 2) w0 w3) := (((bel'.out.alloc hsz (.cells #[.int .i64 o, .int .i64 i, .int .i64 b0] 62)).trans ((below_dn _ m2).mono (by simp; omega))).alloc (by simp; omega) (.cells #[.int .i64 tt] 3)).grown hgrow (by simp; omega) (fun k' e => by have := (lts k' e).1; omega)
        have sep3 : Hid (∀ ga, v'.ownBlock = some ga → (Value.slice (some ⟨g, 0, none⟩) (n + 1) cap).ownBlock ≠ some ga) := fun ga e => by
          rcases hat with z | z
          · exact hsep'.out ga (z.symm.trans e)
          · intro e2
            have : g = ga := by simpa [Value.ownBlock] using e2
            have h3 : ga = wr.heap.size + 1 + 1 := by rw [z] at e; simp at e; omega
            omega
        have lt3 : Hid (∀ ga, v'.ownBlock = some ga → q + 1 ≤ ga ∧ ga < w3.heap.size) := World.ownsRow.lt own3.out
        clear hown1 hgrow hat W3 x1 kTo1
        obtain ⟨av3, cv3, hv3⟩ := OwnS.form0 own3.out
        rw [List.length_append, List.length_singleton, hacc'.out] at hv3
        subst hv3
        go_wp2_with (go_at_call 80; refine (kSt.out _ _ bw3.out bel3.out).mono ?_; rintro e w4 ⟨ok, h4, v4, st4, rfl, bw4, kp4, hr⟩; have bw4' : Hid (BW w4 q (fF p m s x (some ⟨b, off, none⟩) l.length cb) h4 v4 st4) := bw4; have kp4' : Hid (Kp q w3 w4 (.slice (some ⟨g, 0, none⟩) (n + 1) cap) v4) := kp4; have hr' : Hid (X = if ok = true then some (h4, st4) else none) := hr; clear bw4 kp4 hr; cases ok)
        · have own4 := ownKp own3.out kp4'.out (by omega) sep3.out
          have e1 : Hid (R = (acc ++ [tt], (k : Int))) := hWf.out hr'.out
          have bel4 : Hid (Below w.heap.size w w4) := (hbx0.out.trans ((bel3.out.trans (kpBelow kp4'.out (B := w.heap.size + 2) hq (by have := bel3.out.size; omega) (fun g' e => by have := ownB_eq e; omega))).mono (by omega)))
          go_ret2
          rw [e1.out]
          exact ⟨_, rfl, ownLow own4 (by omega), bel4.out⟩
        · have own4 : Hid (OwnS (q + 1) w4 (.slice av3 (k + 1) cv3) (acc ++ [tt])) := ownKp own3.out kp4'.out (by omega) sep3.out
          have bel4 : Hid (Below (w.heap.size + 2) w0 w4) := bel3.out.trans (kpBelow kp4'.out (B := w.heap.size + 2) hq (by have := bel3.out.size; omega) (fun g' e => by have := ownB_eq e; omega))
          obtain ⟨nx1, nx2⟩ := hNx.out _ hr'.out
          have sep4 := sepKp kp4'.out (fun ga e => (lt3.out ga e).2) sep3.out
          go_roundw
          case rel => exact ⟨k + 1, f, acc ++ [tt], h4, v4, st4, sh', by omega, by go_num, own4.out, by rw [List.length_append, List.length_singleton, hacc'.out], bw4'.out, sep4, nx1, hSh.out.1, by rw [hSh.out.2]; exact nx2.symm, by rw [show st4.length = _ from nx2]; unfold nOpen; split <;> (try split) <;> omega, hWn.out _ hr'.out, bel4.out⟩
          case measure => simp [intOf]; omega
    · obtain rfl : k = l.length := by omega
      obtain rfl : f = 0 := by omega
      have hn0 : n = 0 := by
        have : shpF l 0 l.length sh = true := hsh
        have := of_decide_eq_true (show decide (sh.length = 0) = true from this)
        omega
      subst hn0
      have e1 : Hid (R = if closes (h, st) = true then (acc, -1) else (acc, (l.length : Int))) := hw'.out.symm
      obtain ⟨t0, t1, t2, t3⟩ := hB'.out.top (by show st.length ≠ 0; omega)
      have hlo := hB'.out.lo
      have hhi := hB'.out.hi
      simp only [top_is hn.symm] at t0 t1 t2 t3
      dsimp only at hlo hhi
      have kC : Hid (∀ u : World, BW u q (fF p m s x a l.length cb) h (.slice (some ⟨g, 0, none⟩) 1 cap) st → Calls Tryz.prog 81 #[.pointer (some ⟨q, 0, none⟩)] u fun e w' => e = .returned (.bool (closes (h, st))) ∧ Res u q (fF p m s x a l.length cb) (.slice (some ⟨g, 0, none⟩) 1 cap) (PlainValid.close (h, st)) e w') := fun u hu => closeR q g 0 cap u (fF p m s x a l.length cb) h st hu (by omega) (by omega) (by omega) (by omega) (by omega) (by omega)
      have lts := World.ownsRow.lt own'.out
      have cB := hbx.out _ bel
      clear own bw hsh hst hle hacc bel hw' hB' t0 t1 t2 t3 hlo hhi
      generalize closes (h, st) = C at *
      generalize PlainValid.close (h, st) = Y at *
      cases C with
      | true =>
        have e2 : Hid (R = (acc, -1)) := e1.out
        go_wp2_with (go_at_call 81; refine (kC.out _ bw'.out).mono ?_; rintro e w4 ⟨rfl, ok, h4, v4, st4, _, _, kp4, _⟩; have kp4' : Hid (Kp q wr w4 (.slice (some ⟨g, 0, none⟩) 1 cap) v4) := kp4; clear kp4)
        have own4 : Hid (w4.ownsRow (q + 1) 3 1 (.slice av l.length cv') l.length (acc.map fun z => .int .i64 z)) := by
          have := ownKp (vl := .slice av l.length cv') (acc := acc) (B := q + 1) (w := wr) (show wr.ownsRow _ _ _ _ _ _ by rw [hacc'.out]; exact own'.out) kp4'.out (by omega) hsep'.out
          unfold OwnS at this
          rw [hacc'.out] at this
          exact this
        have bel4 : Hid (Below w.heap.size w w4) := (hbx0.out.trans ((bel'.out.trans (kpBelow kp4'.out (B := w.heap.size + 2) hq (by omega) (fun g' e => by have := ownB_eq e; omega))).mono (by omega)))
        go_ret2
        rw [e2.out]
        refine ⟨_, rfl, ownLow (B := q + 1) ?_ (by omega), bel4.out⟩
        unfold OwnS
        rw [hacc'.out]
        exact own4.out
      | false =>
        have e2 : Hid (R = (acc, (l.length : Int))) := e1.out
        go_wp2_with (go_at_call 81; refine (kC.out _ bw'.out).mono ?_; rintro e w4 ⟨rfl, ok, h4, v4, st4, _, _, kp4, _⟩; have cB4 := kp4.cell cB (by omega) (by simp [Value.ownBlock]; omega); have kp4' : Hid (Kp q wr w4 (.slice (some ⟨g, 0, none⟩) 1 cap) v4) := kp4; clear kp4)
        have own4 : Hid (w4.ownsRow (q + 1) 3 1 (.slice av l.length cv') l.length (acc.map fun z => .int .i64 z)) := by
          have := ownKp (vl := .slice av l.length cv') (acc := acc) (B := q + 1) (w := wr) (show wr.ownsRow _ _ _ _ _ _ by rw [hacc'.out]; exact own'.out) kp4'.out (by omega) hsep'.out
          unfold OwnS at this
          rw [hacc'.out] at this
          exact this
        have bel4 : Hid (Below w.heap.size w w4) := (hbx0.out.trans ((bel'.out.trans (kpBelow kp4'.out (B := w.heap.size + 2) hq (by omega) (fun g' e => by have := ownB_eq e; omega))).mono (by omega)))
        go_quiet (fail)
        go_wp2_with fail
        go_ret2
        rw [e2.out]
        refine ⟨_, rfl, ownLow (B := q + 1) ?_ (by omega), bel4.out.trans ⟨rfl, rfl, rfl, Nat.le_refl _, fun _ _ => rfl⟩⟩
        unfold OwnS
        rw [hacc'.out]
        exact own4.out
end Go.Proofs.YtdaffcbamnpjfaaGreatDoor.ValidHeights
namespace Go.Proofs.YtdaffcbamnpjfaaGreatDoor.ValidFace
open Go.RowKit PlainOps NameCalls PlainNum NumCalls InsCalls InsImpl PlainShape InsMem PlainAll ShapeCalls FormCalls ModMem FormImpl PlainValid ValidCtx ValidMod Piles ValidIns ValidStep ValidWalk ValidHeights

/-- There is such a function, in a module of right form. -/
def hasF (m : M) (i : Int) : Bool := formOk m && wi i 0 ((m.fns.length : Int) - 1)
def bodyOf (m : M) (j : Nat) : List Int × Int := body (ctxOf m (MemFunc.at1 m.fns j).sig (MemFunc.at1 m.fns j).loc) (MemFunc.at1 m.fns j).body
def faultAt (m : M) (i : Int) : Int := if hasF m i = true then (bodyOf m i.toNat).2 else -2
def stackAt (m : M) (i : Int) : Option (List Int) := if faultAt m i = -1 then some (bodyOf m i.toNat).1 else none
def maxL : List Int → Int → Int
  | [], q => q
  | x :: l, q => maxL l (if q < x then x else q)
def maxStack (m : M) (i : Int) : Int := match stackAt m i with
  | none => -1
  | some l => maxL l 0
theorem bodyOf_same {m m' : M} (s : Same m m') {j : Nat} (hj : j < m.fns.length) : bodyOf m' j = bodyOf m j := by
  obtain ⟨a, b, c⟩ := s.s2 j hj
  unfold bodyOf
  rw [a, b, c, ctx_same s]
theorem hasF_same {m m' : M} (s : Same m m') (i : Int) : hasF m' i = hasF m i := by unfold hasF; rw [formOk_same s, s.n2]
theorem hasF_lt {m : M} {i : Int} (h : hasF m i = true) : formOk m = true ∧ 0 ≤ i ∧ i < m.fns.length := by
  unfold hasF at h
  simp only [Bool.and_eq_true] at h
  have := wi_is h.2
  exact ⟨h.1, this.1, by omega⟩
theorem faultAt_same {m m' : M} (s : Same m m') (i : Int) : faultAt m' i = faultAt m i := by
  unfold faultAt
  rw [hasF_same s]
  split
  · rename_i h
    obtain ⟨_, h0, h1⟩ := hasF_lt h
    rw [bodyOf_same s (by omega)]
  · rfl
theorem stackAt_same {m m' : M} (s : Same m m') (i : Int) : stackAt m' i = stackAt m i := by
  unfold stackAt
  rw [faultAt_same s]
  split
  · rename_i h
    unfold faultAt at h
    split at h
    · rename_i h'
      obtain ⟨_, h0, h1⟩ := hasF_lt h'
      rw [bodyOf_same s (by omega)]
    · omega
  · rfl
theorem maxStack_same {m m' : M} (s : Same m m') (i : Int) : maxStack m' i = maxStack m i := by unfold maxStack; rw [stackAt_same s]
/-- What the face's functions want. -/
structure Mod (w : World) (p : P) (m : M) : Prop where
  rd : Rd w p m
  sm : Small m
  tab : Tab w
  utf : Utf w
theorem Mod.later {w u : World} {p : P} {m : M} (h : Mod w p m) (hb : Below w.heap.size w u) : Mod u p m := ⟨h.rd.later hb, h.sm, h.tab.later hb, UtfLaw.tabs_later h.utf hb⟩
set_option maxRecDepth 20000 in
set_option maxHeartbeats 4000000 in
theorem hasFunc (w : World) (p : P) (m : M) (i : Int) (h : Mod w p m) :
    Calls Tryz.prog 38 #[.agg #[.slice p.a0 m.sigs.length p.c0, .slice p.a1 m.imps.length p.c1, .slice p.a2 m.fns.length p.c2, .int .i64 m.pages, .int .i64 m.most, .slice p.a3 m.gls.length p.c3, .slice p.a4 m.exs.length p.c4, .slice p.a5 m.dat.length p.c5], .int .i64 i] w fun e w' => e = .returned (.bool (hasF m i)) ∧ Below w.heap.size w w' := by
  have kF : Hid (∀ u : World, Below w.heap.size w u → Calls Tryz.prog 47 #[.agg #[.slice p.a0 m.sigs.length p.c0, .slice p.a1 m.imps.length p.c1, .slice p.a2 m.fns.length p.c2, .int .i64 m.pages, .int .i64 m.most, .slice p.a3 m.gls.length p.c3, .slice p.a4 m.exs.length p.c4, .slice p.a5 m.dat.length p.c5]] u fun e w' => e = .returned (.bool (formOk m)) ∧ Below u.heap.size u w') := fun u hu => impl_formOk u p m (h.rd.later hu) h.sm (h.tab.later hu) (UtfLaw.tabs_later h.utf hu)
  have kW : Hid (∀ u : World, Calls Tryz.prog 77 #[.int .i64 i, .int .i64 0, .int .i64 ((m.fns.length : Int) - 1)] u fun e w' => e = .returned (.bool (wi i 0 ((m.fns.length : Int) - 1))) ∧ u = w') := fun u => impl_within _ _ _ u
  have hr : Hid ((w.alloc (.cells #[.slice p.a0 m.sigs.length p.c0, .slice p.a1 m.imps.length p.c1, .slice p.a2 m.fns.length p.c2, .int .i64 m.pages, .int .i64 m.most, .slice p.a3 m.gls.length p.c3, .slice p.a4 m.exs.length p.c4, .slice p.a5 m.dat.length p.c5] 39)).rowIs w.heap.size 39 8 (R8 (.slice p.a0 m.sigs.length p.c0) (.slice p.a1 m.imps.length p.c1) (.slice p.a2 m.fns.length p.c2) (.int .i64 m.pages) (.int .i64 m.most) (.slice p.a3 m.gls.length p.c3) (.slice p.a4 m.exs.length p.c4) (.slice p.a5 m.dat.length p.c5))) := r8_made w (.slice p.a0 m.sigs.length p.c0) (.slice p.a1 m.imps.length p.c1) (.slice p.a2 m.fns.length p.c2) (.int .i64 m.pages) (.int .i64 m.most) (.slice p.a3 m.gls.length p.c3) (.slice p.a4 m.exs.length p.c4) (.slice p.a5 m.dat.length p.c5) 39
  have hs := h.sm.n2
  unfold hasF
  generalize formOk m = A at *
  generalize wi i 0 ((m.fns.length : Int) - 1) = B at *
  clear h
  generalize m.sigs.length = N0 at *
  generalize m.imps.length = N1 at *
  generalize m.fns.length = N2 at *
  generalize m.gls.length = N3 at *
  generalize m.exs.length = N4 at *
  generalize m.dat.length = N5 at *
  cases A with
  | false =>
    go_enter Tryz.func38, Tryz.ntmps38
    go_wp2_with (go_at_call 47; refine (kF.out _ ((Below.refl _ _).alloc (Nat.le_refl _) _)).mono ?_; rintro e w1 ⟨rfl, q1⟩)
    go_ret
    exact ⟨rfl, belB q1⟩
  | true =>
    go_enter Tryz.func38, Tryz.ntmps38
    go_wp2_with (first | (go_at_call 47; refine (kF.out _ ((Below.refl _ _).alloc (Nat.le_refl _) _)).mono ?_; rintro e w1 ⟨rfl, q1⟩; obtain ⟨_, _, _, _, _, _, _, _⟩ := r8 (row_later hr.out q1)) | (go_at_call 77; refine (kW.out _).mono ?_; rintro e w2 ⟨rfl, rfl⟩))
    go_ret
    exact ⟨by cases B <;> rfl, belB q1⟩
theorem bod_of {w : World} {p : P} {m : M} {j : Nat} (h : Mod w p m) (hf : formOk m = true) (hj : j < m.fns.length) : Bod w p m (MemFunc.at1 m.fns j).sig (MemFunc.at1 m.fns j).loc (MemFunc.at1 m.fns j).ad (MemFunc.at1 m.fns j).body := by
  have f := facts hf
  obtain ⟨f0, f1, f2, f3, f4⟩ := f.fn j hj
  refine ⟨h.rd, f, f0, f1, ⟨f2, f3⟩, ?_, f4⟩
  obtain ⟨_, _, hF, _⟩ := h.rd
  rcases hF with h0 | ⟨b, off, _, hc⟩
  · omega
  · exact (hc j hj).2.2.2
theorem fn_cells {w : World} {p : P} {m : M} {j : Nat} (h : Rd w p m) (hj : j < m.fns.length) : ∃ b off, p.a2 = some ⟨b, off, none⟩ ∧ w.cell? ⟨b, off + j * 3, none⟩ = some (.int .i64 (MemFunc.at1 m.fns j).sig) ∧ w.cell? ⟨b, off + j * 3 + 1, none⟩ = some (.int .i64 (MemFunc.at1 m.fns j).loc) ∧ w.cell? ⟨b, off + j * 3 + 2, none⟩ = some (.slice (MemFunc.at1 m.fns j).ad (MemFunc.at1 m.fns j).body.length (MemFunc.at1 m.fns j).cp) := by
  obtain ⟨_, _, hF, _⟩ := h
  rcases hF with h0 | ⟨b, off, ha, hc⟩
  · omega
  · obtain ⟨x, y, z, _⟩ := hc j hj
    exact ⟨b, off, ha, x, y, z⟩
set_option maxRecDepth 20000 in
set_option maxHeartbeats 8000000 in
theorem impl_faultAt (w : World) (p : P) (m : M) (i : Int) (h : Mod w p m) :
    Calls Tryz.prog 10 #[.agg #[.slice p.a0 m.sigs.length p.c0, .slice p.a1 m.imps.length p.c1, .slice p.a2 m.fns.length p.c2, .int .i64 m.pages, .int .i64 m.most, .slice p.a3 m.gls.length p.c3, .slice p.a4 m.exs.length p.c4, .slice p.a5 m.dat.length p.c5], .int .i64 i] w fun e w' => e = .returned (.int .i64 (faultAt m i)) ∧ Below w.heap.size w w' := by
  have kF : Hid (∀ u : World, Below w.heap.size w u → Calls Tryz.prog 38 #[.agg #[.slice p.a0 m.sigs.length p.c0, .slice p.a1 m.imps.length p.c1, .slice p.a2 m.fns.length p.c2, .int .i64 m.pages, .int .i64 m.most, .slice p.a3 m.gls.length p.c3, .slice p.a4 m.exs.length p.c4, .slice p.a5 m.dat.length p.c5], .int .i64 i] u fun e w' => e = .returned (.bool (hasF m i)) ∧ Below u.heap.size u w') := fun u hu => hasFunc u p m i (h.later hu)
  have hr : Hid ((w.alloc (.cells #[.slice p.a0 m.sigs.length p.c0, .slice p.a1 m.imps.length p.c1, .slice p.a2 m.fns.length p.c2, .int .i64 m.pages, .int .i64 m.most, .slice p.a3 m.gls.length p.c3, .slice p.a4 m.exs.length p.c4, .slice p.a5 m.dat.length p.c5] 39)).rowIs w.heap.size 39 8 (R8 (.slice p.a0 m.sigs.length p.c0) (.slice p.a1 m.imps.length p.c1) (.slice p.a2 m.fns.length p.c2) (.int .i64 m.pages) (.int .i64 m.most) (.slice p.a3 m.gls.length p.c3) (.slice p.a4 m.exs.length p.c4) (.slice p.a5 m.dat.length p.c5))) := r8_made w (.slice p.a0 m.sigs.length p.c0) (.slice p.a1 m.imps.length p.c1) (.slice p.a2 m.fns.length p.c2) (.int .i64 m.pages) (.int .i64 m.most) (.slice p.a3 m.gls.length p.c3) (.slice p.a4 m.exs.length p.c4) (.slice p.a5 m.dat.length p.c5) 39
  cases hH : hasF m i with
  | false =>
    rw [hH] at kF
    have e1 : Hid (faultAt m i = -2) := by show _ = _; unfold faultAt; rw [hH]; rfl
    rw [e1.out]
    clear h hH e1
    generalize m.sigs.length = N0 at *
    generalize m.imps.length = N1 at *
    generalize m.fns.length = N2 at *
    generalize m.gls.length = N3 at *
    generalize m.exs.length = N4 at *
    generalize m.dat.length = N5 at *
    go_enter Tryz.func10, Tryz.ntmps10
    go_wp2_with (go_at_call 38; refine (kF.out _ ((Below.refl _ _).alloc (Nat.le_refl _) _)).mono ?_; rintro e w1 ⟨rfl, q1⟩)
    go_ret
    exact ⟨rfl, belB q1⟩
  | true =>
    rw [hH] at kF
    obtain ⟨hf, i0, i1⟩ := hasF_lt hH
    obtain ⟨j, rfl⟩ : ∃ j : Nat, i = j := ⟨i.toNat, by omega⟩
    have hj : j < m.fns.length := by omega
    have hj' : (j : Int) < (m.fns.length : Int) := i1
    obtain ⟨b, off, ha, _, _, _⟩ := fn_cells h.rd hj
    have hcs : Hid (∀ u : World, Below w.heap.size w u → u.cell? ⟨b, off + j * 3, none⟩ = some (.int .i64 (MemFunc.at1 m.fns j).sig) ∧ u.cell? ⟨b, off + j * 3 + 1, none⟩ = some (.int .i64 (MemFunc.at1 m.fns j).loc) ∧ u.cell? ⟨b, off + j * 3 + 2, none⟩ = some (.slice (MemFunc.at1 m.fns j).ad (MemFunc.at1 m.fns j).body.length (MemFunc.at1 m.fns j).cp)) := fun u hu => by
      obtain ⟨b', off', ha', x, y, z⟩ := fn_cells (h.rd.later hu) hj
      rw [ha] at ha'
      simp only [Option.some.injEq, Addr.mk.injEq, and_true] at ha'
      obtain ⟨rfl, rfl⟩ := ha'
      exact ⟨x, y, z⟩
    have kH : Hid (∀ u : World, Below w.heap.size w u → Calls Tryz.prog 39 #[.agg #[.slice p.a0 m.sigs.length p.c0, .slice p.a1 m.imps.length p.c1, .slice p.a2 m.fns.length p.c2, .int .i64 m.pages, .int .i64 m.most, .slice p.a3 m.gls.length p.c3, .slice p.a4 m.exs.length p.c4, .slice p.a5 m.dat.length p.c5], .agg #[.int .i64 (MemFunc.at1 m.fns j).sig, .int .i64 (MemFunc.at1 m.fns j).loc, .slice (MemFunc.at1 m.fns j).ad (MemFunc.at1 m.fns j).body.length (MemFunc.at1 m.fns j).cp]] u fun e w' => ∃ v, e = .returned (.tuple #[v, .int .i64 (bodyOf m j).2]) ∧ OwnS u.heap.size w' v (bodyOf m j).1 ∧ Below u.heap.size u w') := fun u hu => heights p m _ _ _ _ _ u (bod_of (h.later hu) hf hj)
    have e1 : Hid (faultAt m (j : Int) = (bodyOf m j).2) := by show _ = _; unfold faultAt; rw [if_pos hH]; rfl
    rw [e1.out]
    clear e1
    generalize (bodyOf m j).2 = R at *
    generalize (bodyOf m j).1 = L at *
    rw [ha] at kF kH hr ⊢
    clear h hH hf i0 i1 hj
    generalize (MemFunc.at1 m.fns j).sig = S at *
    generalize (MemFunc.at1 m.fns j).loc = X at *
    generalize (MemFunc.at1 m.fns j).ad = AD at *
    generalize (MemFunc.at1 m.fns j).body.length = NB at *
    generalize (MemFunc.at1 m.fns j).cp = CP at *
    generalize m.sigs.length = N0 at *
    generalize m.imps.length = N1 at *
    generalize m.fns.length = N2 at *
    generalize m.gls.length = N3 at *
    generalize m.exs.length = N4 at *
    generalize m.dat.length = N5 at *
    go_enter Tryz.func10, Tryz.ntmps10
    go_wp2_with (go_at_call 38; refine (kF.out _ ((Below.refl _ _).alloc (Nat.le_refl _) _)).mono ?_; rintro e w1 ⟨rfl, q1⟩; have b1 : Hid (Below w.heap.size w w1) := belB q1; obtain ⟨_, _, _, _, _, _, _, _⟩ := r8 (row_later hr.out q1); obtain ⟨_, _, _⟩ := hcs.out _ b1.out)
    go_region_with (go_at_call 39; refine (kH.out _ b1.out.drew).mono ?_; rintro e w2 ⟨vl, rfl, o2, q2⟩; have o2' : Hid (OwnS w1.heap.size w2 vl L) := o2; clear o2)
    all_goals
      go_wp2_with fail
      go_ret
      exact ⟨rfl, b1.out.drew.trans (q2.mono b1.out.size)⟩
set_option maxRecDepth 20000 in
set_option maxHeartbeats 8000000 in
theorem impl_stackAt (w : World) (p : P) (m : M) (i : Int) (h : Mod w p m) :
    Calls Tryz.prog 15 #[.agg #[.slice p.a0 m.sigs.length p.c0, .slice p.a1 m.imps.length p.c1, .slice p.a2 m.fns.length p.c2, .int .i64 m.pages, .int .i64 m.most, .slice p.a3 m.gls.length p.c3, .slice p.a4 m.exs.length p.c4, .slice p.a5 m.dat.length p.c5], .int .i64 i] w fun e w' => (match stackAt m i with
    | none => e = .returned (.tuple #[.slice none 0 0, .bool false])
    | some l => ∃ v, e = .returned (.tuple #[v, .bool true]) ∧ OwnS w.heap.size w' v l) ∧ Below w.heap.size w w' := by
  have kF : Hid (∀ u : World, Below w.heap.size w u → Calls Tryz.prog 38 #[.agg #[.slice p.a0 m.sigs.length p.c0, .slice p.a1 m.imps.length p.c1, .slice p.a2 m.fns.length p.c2, .int .i64 m.pages, .int .i64 m.most, .slice p.a3 m.gls.length p.c3, .slice p.a4 m.exs.length p.c4, .slice p.a5 m.dat.length p.c5], .int .i64 i] u fun e w' => e = .returned (.bool (hasF m i)) ∧ Below u.heap.size u w') := fun u hu => hasFunc u p m i (h.later hu)
  have hr : Hid ((w.alloc (.cells #[.slice p.a0 m.sigs.length p.c0, .slice p.a1 m.imps.length p.c1, .slice p.a2 m.fns.length p.c2, .int .i64 m.pages, .int .i64 m.most, .slice p.a3 m.gls.length p.c3, .slice p.a4 m.exs.length p.c4, .slice p.a5 m.dat.length p.c5] 39)).rowIs w.heap.size 39 8 (R8 (.slice p.a0 m.sigs.length p.c0) (.slice p.a1 m.imps.length p.c1) (.slice p.a2 m.fns.length p.c2) (.int .i64 m.pages) (.int .i64 m.most) (.slice p.a3 m.gls.length p.c3) (.slice p.a4 m.exs.length p.c4) (.slice p.a5 m.dat.length p.c5))) := r8_made w (.slice p.a0 m.sigs.length p.c0) (.slice p.a1 m.imps.length p.c1) (.slice p.a2 m.fns.length p.c2) (.int .i64 m.pages) (.int .i64 m.most) (.slice p.a3 m.gls.length p.c3) (.slice p.a4 m.exs.length p.c4) (.slice p.a5 m.dat.length p.c5) 39
  cases hH : hasF m i with
  | false =>
    rw [hH] at kF
    have e1 : Hid (stackAt m i = none) := by show _ = _; unfold stackAt faultAt; rw [hH]; rfl
    rw [e1.out]
    clear h hH e1
    generalize m.sigs.length = N0 at *
    generalize m.imps.length = N1 at *
    generalize m.fns.length = N2 at *
    generalize m.gls.length = N3 at *
    generalize m.exs.length = N4 at *
    generalize m.dat.length = N5 at *
    go_enter Tryz.func15, Tryz.ntmps15
    go_wp2_with (go_at_call 38; refine (kF.out _ ((Below.refl _ _).alloc (Nat.le_refl _) _)).mono ?_; rintro e w1 ⟨rfl, q1⟩)
    go_ret2
    exact ⟨rfl, belB q1⟩
  | true =>
    rw [hH] at kF
    obtain ⟨hf, i0, i1⟩ := hasF_lt hH
    obtain ⟨j, rfl⟩ : ∃ j : Nat, i = j := ⟨i.toNat, by omega⟩
    have hj : j < m.fns.length := by omega
    have hj' : (j : Int) < (m.fns.length : Int) := i1
    obtain ⟨b, off, ha, _, _, _⟩ := fn_cells h.rd hj
    have hcs : Hid (∀ u : World, Below w.heap.size w u → u.cell? ⟨b, off + j * 3, none⟩ = some (.int .i64 (MemFunc.at1 m.fns j).sig) ∧ u.cell? ⟨b, off + j * 3 + 1, none⟩ = some (.int .i64 (MemFunc.at1 m.fns j).loc) ∧ u.cell? ⟨b, off + j * 3 + 2, none⟩ = some (.slice (MemFunc.at1 m.fns j).ad (MemFunc.at1 m.fns j).body.length (MemFunc.at1 m.fns j).cp)) := fun u hu => by
      obtain ⟨b', off', ha', x, y, z⟩ := fn_cells (h.rd.later hu) hj
      rw [ha] at ha'
      simp only [Option.some.injEq, Addr.mk.injEq, and_true] at ha'
      obtain ⟨rfl, rfl⟩ := ha'
      exact ⟨x, y, z⟩
    have kH : Hid (∀ u : World, Below w.heap.size w u → Calls Tryz.prog 39 #[.agg #[.slice p.a0 m.sigs.length p.c0, .slice p.a1 m.imps.length p.c1, .slice p.a2 m.fns.length p.c2, .int .i64 m.pages, .int .i64 m.most, .slice p.a3 m.gls.length p.c3, .slice p.a4 m.exs.length p.c4, .slice p.a5 m.dat.length p.c5], .agg #[.int .i64 (MemFunc.at1 m.fns j).sig, .int .i64 (MemFunc.at1 m.fns j).loc, .slice (MemFunc.at1 m.fns j).ad (MemFunc.at1 m.fns j).body.length (MemFunc.at1 m.fns j).cp]] u fun e w' => ∃ v, e = .returned (.tuple #[v, .int .i64 (bodyOf m j).2]) ∧ OwnS u.heap.size w' v (bodyOf m j).1 ∧ Below u.heap.size u w') := fun u hu => heights p m _ _ _ _ _ u (bod_of (h.later hu) hf hj)
    have e0 : Hid (faultAt m (j : Int) = (bodyOf m j).2) := by show _ = _; unfold faultAt; rw [if_pos hH]; rfl
    have e1 : Hid (stackAt m (j : Int) = if (bodyOf m j).2 = -1 then some (bodyOf m j).1 else none) := by show _ = _; unfold stackAt; rw [e0.out]; rfl
    rw [e1.out]
    clear e1 e0
    generalize (bodyOf m j).2 = R at *
    generalize (bodyOf m j).1 = L at *
    rw [ha] at kF kH hr ⊢
    clear h hH hf i0 i1 hj
    generalize (MemFunc.at1 m.fns j).sig = S at *
    generalize (MemFunc.at1 m.fns j).loc = X at *
    generalize (MemFunc.at1 m.fns j).ad = AD at *
    generalize (MemFunc.at1 m.fns j).body.length = NB at *
    generalize (MemFunc.at1 m.fns j).cp = CP at *
    generalize m.sigs.length = N0 at *
    generalize m.imps.length = N1 at *
    generalize m.fns.length = N2 at *
    generalize m.gls.length = N3 at *
    generalize m.exs.length = N4 at *
    generalize m.dat.length = N5 at *
    by_cases hR : R = -1
    · subst hR
      rw [if_pos rfl]
      go_enter Tryz.func15, Tryz.ntmps15
      go_wp2_with (go_at_call 38; refine (kF.out _ ((Below.refl _ _).alloc (Nat.le_refl _) _)).mono ?_; rintro e w1 ⟨rfl, q1⟩; have b1 : Hid (Below w.heap.size w w1) := belB q1; obtain ⟨_, _, _, _, _, _, _, _⟩ := r8 (row_later hr.out q1); obtain ⟨_, _, _⟩ := hcs.out _ b1.out)
      go_region_with (go_at_call 39; refine (kH.out _ b1.out.drew).mono ?_; rintro e w2 ⟨vl, rfl, o2, q2⟩; have o2' : Hid (OwnS w1.heap.size w2 vl L) := o2; clear o2)
      all_goals
        go_wp2_with fail
        go_ret2
        exact ⟨⟨_, rfl, ownLow o2'.out b1.out.size⟩, b1.out.drew.trans (q2.mono b1.out.size)⟩
    · rw [if_neg hR]
      have hR1 : (R == -1) = false := by simpa using hR
      have hR2 : (R != -1) = true := by simpa using hR
      clear hR
      go_enter Tryz.func15, Tryz.ntmps15
      go_wp2_with (go_at_call 38; refine (kF.out _ ((Below.refl _ _).alloc (Nat.le_refl _) _)).mono ?_; rintro e w1 ⟨rfl, q1⟩; have b1 : Hid (Below w.heap.size w w1) := belB q1; obtain ⟨_, _, _, _, _, _, _, _⟩ := r8 (row_later hr.out q1); obtain ⟨_, _, _⟩ := hcs.out _ b1.out)
      go_region_with (go_at_call 39; refine (kH.out _ b1.out.drew).mono ?_; rintro e w2 ⟨vl, rfl, o2, q2⟩; have o2' : Hid (OwnS w1.heap.size w2 vl L) := o2; clear o2)
      all_goals
        go_wp2_with fail
        go_ret2
        exact ⟨rfl, b1.out.drew.trans (q2.mono b1.out.size)⟩
end Go.Proofs.YtdaffcbamnpjfaaGreatDoor.ValidFace
namespace Go.Proofs.YtdaffcbamnpjfaaGreatDoor.ValidMax
open Go.RowKit PlainOps NameCalls PlainNum NumCalls InsCalls InsImpl PlainShape InsMem PlainAll ShapeCalls FormCalls ModMem FormImpl PlainValid ValidCtx ValidMod Piles ValidIns ValidStep ValidWalk ValidHeights ValidFace

theorem maxL_at {l : List Int} {k : Nat} (hk : k < l.length) (q : Int) : maxL (l.drop k) q = maxL (l.drop (k + 1)) (if q < l.getD k 0 then l.getD k 0 else q) := by
  rw [List.drop_eq_getElem_cons hk, maxL]
  simp [List.getD, hk]
theorem ownS_rows {B : Nat} {w : World} {v : Value} {l : List Int} (h : OwnS B w v l) : ∃ a cap, v = .slice a l.length cap ∧ (l.length = 0 ∨ ∃ g, a = some ⟨g, 0, none⟩ ∧ ∀ j, j < l.length → w.cell? ⟨g, j, none⟩ = some (.int .i64 (l.getD j 0))) := by
  by_cases h0 : l.length = 0
  · obtain ⟨a, cap, hv⟩ := h.form0
    exact ⟨a, cap, hv, .inl h0⟩
  · obtain ⟨g, cap, hv, _, _, _⟩ := h.form h0
    subst hv
    exact ⟨_, cap, rfl, .inr ⟨g, rfl, fun j hj => h.cell j hj⟩⟩
theorem body_len (m : M) (j : Nat) : (bodyOf m j).1.length ≤ (MemFunc.at1 m.fns j).body.length := by
  have := (walk_len (ctxOf m (MemFunc.at1 m.fns j).sig (MemFunc.at1 m.fns j).loc) (MemFunc.at1 m.fns j).body (MemFunc.at1 m.fns j).body.length 0 (PlainValid.start (ctxOf m (MemFunc.at1 m.fns j).sig (MemFunc.at1 m.fns j).loc)) []).2
  unfold bodyOf body
  simpa using this
theorem stack_len {m : M} {i : Int} {l : List Int} (h : stackAt m i = some l) : l.length ≤ 1500 := by
  unfold stackAt at h
  split at h
  · rename_i hf
    unfold faultAt at hf
    split at hf
    · rename_i hh
      obtain ⟨h1, h2, h3⟩ := hasF_lt hh
      have := body_len m i.toNat
      have hb := ((facts h1).fn i.toNat (by omega)).2.2.2.2
      unfold boOk at hb
      simp only [Bool.and_eq_true] at hb
      have := of_decide_eq_true hb.1
      cases h
      omega
    · omega
  · cases h
set_option maxRecDepth 20000 in
set_option maxHeartbeats 8000000 in
theorem impl_maxStack (w : World) (p : P) (m : M) (i : Int) (h : Mod w p m) :
    Calls Tryz.prog 21 #[.agg #[.slice p.a0 m.sigs.length p.c0, .slice p.a1 m.imps.length p.c1, .slice p.a2 m.fns.length p.c2, .int .i64 m.pages, .int .i64 m.most, .slice p.a3 m.gls.length p.c3, .slice p.a4 m.exs.length p.c4, .slice p.a5 m.dat.length p.c5], .int .i64 i] w fun e w' => e = .returned (.int .i64 (maxStack m i)) ∧ Below w.heap.size w w' := by
  have kS : Hid (∀ u : World, Below w.heap.size w u → Calls Tryz.prog 15 #[.agg #[.slice p.a0 m.sigs.length p.c0, .slice p.a1 m.imps.length p.c1, .slice p.a2 m.fns.length p.c2, .int .i64 m.pages, .int .i64 m.most, .slice p.a3 m.gls.length p.c3, .slice p.a4 m.exs.length p.c4, .slice p.a5 m.dat.length p.c5], .int .i64 i] u fun e w' => (match stackAt m i with
    | none => e = .returned (.tuple #[.slice none 0 0, .bool false])
    | some l => ∃ v, e = .returned (.tuple #[v, .bool true]) ∧ OwnS u.heap.size w' v l) ∧ Below u.heap.size u w') := fun u hu => impl_stackAt u p m i (h.later hu)
  clear h
  cases hS : stackAt m i with
  | none =>
    rw [hS] at kS
    have e1 : Hid (maxStack m i = -1) := by show _ = _; unfold maxStack; rw [hS]
    rw [e1.out]
    clear hS e1
    generalize m.sigs.length = N0 at *
    generalize m.imps.length = N1 at *
    generalize m.fns.length = N2 at *
    generalize m.gls.length = N3 at *
    generalize m.exs.length = N4 at *
    generalize m.dat.length = N5 at *
    go_enter Tryz.func21, Tryz.ntmps21
    go_wp2_with (go_at_call 15; refine (kS.out _ ((Below.refl _ _).alloc (Nat.le_refl _) _)).mono ?_; rintro e w1 ⟨rfl, q1⟩)
    go_ret
    exact ⟨rfl, belB q1⟩
  | some l =>
    rw [hS] at kS
    have hl := stack_len hS
    obtain ⟨R, hR⟩ : ∃ R, maxL l 0 = R := ⟨_, rfl⟩
    have e1 : Hid (maxStack m i = R) := by show _ = _; unfold maxStack; rw [hS]; exact hR
    have hR' : Hid (maxL (l.drop 0) 0 = R) := hR
    rw [e1.out]
    clear hS e1 hR
    generalize m.sigs.length = N0 at *
    generalize m.imps.length = N1 at *
    generalize m.fns.length = N2 at *
    generalize m.gls.length = N3 at *
    generalize m.exs.length = N4 at *
    generalize m.dat.length = N5 at *
    go_enter Tryz.func21, Tryz.ntmps21
    go_wp2_with (go_at_call 15; refine (kS.out _ ((Below.refl _ _).alloc (Nat.le_refl _) _)).mono ?_; rintro e w1 ⟨⟨v, rfl, o1⟩, q1⟩; obtain ⟨av, cap, rfl, hrow⟩ := ownS_rows o1; have hrow' : Hid (l.length = 0 ∨ ∃ g, av = some ⟨g, 0, none⟩ ∧ ∀ j, j < l.length → w1.cell? ⟨g, j, none⟩ = some (.int .i64 (l.getD j 0))) := hrow; have b1 : Hid (Below w.heap.size w w1) := belB q1; clear o1 hrow)
    go_loop [7, 20] (fun vq vk => ∃ (k : Nat) (q : Int), k ≤ l.length ∧ vk = .int .i64 k ∧ vq = .int .i64 q ∧ maxL (l.drop k) q = R) (fun _ vk => l.length - (intOf vk).toNat)
    case atStart => exact ⟨0, 0, by omega, rfl, rfl, hR'.out⟩
    case round =>
      obtain ⟨k, q, hk, rfl, rfl, hm⟩ := hrel
      have hm' : Hid (maxL (l.drop k) q = R) := hm
      clear hm hR'
      by_cases hlt : k < l.length
      · have hlt' : (k : Int) < (l.length : Int) := by omega
        rcases hrow'.out with h0 | ⟨g, ha, hc⟩
        · omega
        · have c0 := hc k hlt
          subst ha
          clear hc
          have e2 : Hid (maxL (l.drop (k + 1)) (if q < l.getD k 0 then l.getD k 0 else q) = R) := by rw [← maxL_at hlt]; exact hm'.out
          generalize l.getD k 0 = z at *
          by_cases hz : q < z
          · rw [if_pos hz] at e2
            go_wp2_with fail
            exact ⟨⟨k + 1, z, by omega, by go_num, by rw [show max q z = z by omega], e2.out⟩, by simp [intOf]; omega⟩
          · rw [if_neg hz] at e2
            go_wp2_with fail
            exact ⟨⟨k + 1, q, by omega, by go_num, by rw [show max q z = q by omega], e2.out⟩, by simp [intOf]; omega⟩
      · obtain rfl : k = l.length := by omega
        have e2 : Hid (q = R) := by have := hm'.out; rw [List.drop_length] at this; exact this
        go_wp2_with fail
        go_ret
        exact ⟨by rw [← e2.out]; rfl, b1.out⟩
end Go.Proofs.YtdaffcbamnpjfaaGreatDoor.ValidMax
