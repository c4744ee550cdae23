/-
  FaultAt, StackAt and MaxStack, as the program answers them. (Written by my validface.py.)
-/
import Derived.Test.YtajlkdidjelpeaaGreatDoorValidHeights
namespace Go.Proofs.YtajlkdidjelpeaaGreatDoor.ValidFace
open Go.RowKit PlainOps NameCalls PlainNum NumCalls InsCalls InsImpl PlainShape InsMem PlainAll ShapeCalls FormCalls ModMem FormImpl PlainValid ValidCtx ValidMod Piles ValidIns ValidStep ValidWalk ValidHeights

/-- There is such a function, in a module of right form. -/
def hasF (m : M) (i : Int) : Bool := formOk m && wi i 0 ((m.fns.length : Int) - 1)
def bodyOf (m : M) (j : Nat) : List Int × Int := body (ctxOf m (MemFunc.at1 m.fns j).sig (MemFunc.at1 m.fns j).loc) (MemFunc.at1 m.fns j).body
def faultAt (m : M) (i : Int) : Int := if hasF m i = true then (bodyOf m i.toNat).2 else -2
def stackAt (m : M) (i : Int) : Option (List Int) := if faultAt m i = -1 then some (bodyOf m i.toNat).1 else none
def maxL : List Int → Int → Int
  | [], q => q
  | x :: l, q => maxL l (if q < x then x else q)
def maxStack (m : M) (i : Int) : Int := match stackAt m i with
  | none => -1
  | some l => maxL l 0
theorem bodyOf_same {m m' : M} (s : Same m m') {j : Nat} (hj : j < m.fns.length) : bodyOf m' j = bodyOf m j := by
  obtain ⟨a, b, c⟩ := s.s2 j hj
  unfold bodyOf
  rw [a, b, c, ctx_same s]
theorem hasF_same {m m' : M} (s : Same m m') (i : Int) : hasF m' i = hasF m i := by unfold hasF; rw [formOk_same s, s.n2]
theorem hasF_lt {m : M} {i : Int} (h : hasF m i = true) : formOk m = true ∧ 0 ≤ i ∧ i < m.fns.length := by
  unfold hasF at h
  simp only [Bool.and_eq_true] at h
  have := wi_is h.2
  exact ⟨h.1, this.1, by omega⟩
theorem faultAt_same {m m' : M} (s : Same m m') (i : Int) : faultAt m' i = faultAt m i := by
  unfold faultAt
  rw [hasF_same s]
  split
  · rename_i h
    obtain ⟨_, h0, h1⟩ := hasF_lt h
    rw [bodyOf_same s (by omega)]
  · rfl
theorem stackAt_same {m m' : M} (s : Same m m') (i : Int) : stackAt m' i = stackAt m i := by
  unfold stackAt
  rw [faultAt_same s]
  split
  · rename_i h
    unfold faultAt at h
    split at h
    · rename_i h'
      obtain ⟨_, h0, h1⟩ := hasF_lt h'
      rw [bodyOf_same s (by omega)]
    · omega
  · rfl
theorem maxStack_same {m m' : M} (s : Same m m') (i : Int) : maxStack m' i = maxStack m i := by unfold maxStack; rw [stackAt_same s]
/-- What the face's functions want. -/
structure Mod (w : World) (p : P) (m : M) : Prop where
  rd : Rd w p m
  sm : Small m
  tab : Tab w
  utf : Utf w
theorem Mod.later {w u : World} {p : P} {m : M} (h : Mod w p m) (hb : Below w.heap.size w u) : Mod u p m := ⟨h.rd.later hb, h.sm, h.tab.later hb, UtfLaw.tabs_later h.utf hb⟩
set_option maxRecDepth 20000 in
set_option maxHeartbeats 4000000 in
theorem hasFunc (w : World) (p : P) (m : M) (i : Int) (h : Mod w p m) :
    Calls Tryz.prog 38 #[.agg #[.slice p.a0 m.sigs.length p.c0, .slice p.a1 m.imps.length p.c1, .slice p.a2 m.fns.length p.c2, .int .i64 m.pages, .int .i64 m.most, .slice p.a3 m.gls.length p.c3, .slice p.a4 m.exs.length p.c4, .slice p.a5 m.dat.length p.c5], .int .i64 i] w fun e w' => e = .returned (.bool (hasF m i)) ∧ Below w.heap.size w w' := by
  have kF : Hid (∀ u : World, Below w.heap.size w u → Calls Tryz.prog 47 #[.agg #[.slice p.a0 m.sigs.length p.c0, .slice p.a1 m.imps.length p.c1, .slice p.a2 m.fns.length p.c2, .int .i64 m.pages, .int .i64 m.most, .slice p.a3 m.gls.length p.c3, .slice p.a4 m.exs.length p.c4, .slice p.a5 m.dat.length p.c5]] u fun e w' => e = .returned (.bool (formOk m)) ∧ Below u.heap.size u w') := fun u hu => impl_formOk u p m (h.rd.later hu) h.sm (h.tab.later hu) (UtfLaw.tabs_later h.utf hu)
  have kW : Hid (∀ u : World, Calls Tryz.prog 77 #[.int .i64 i, .int .i64 0, .int .i64 ((m.fns.length : Int) - 1)] u fun e w' => e = .returned (.bool (wi i 0 ((m.fns.length : Int) - 1))) ∧ u = w') := fun u => impl_within _ _ _ u
  have hr : Hid ((w.alloc (.cells #[.slice p.a0 m.sigs.length p.c0, .slice p.a1 m.imps.length p.c1, .slice p.a2 m.fns.length p.c2, .int .i64 m.pages, .int .i64 m.most, .slice p.a3 m.gls.length p.c3, .slice p.a4 m.exs.length p.c4, .slice p.a5 m.dat.length p.c5] 39)).rowIs w.heap.size 39 8 (R8 (.slice p.a0 m.sigs.length p.c0) (.slice p.a1 m.imps.length p.c1) (.slice p.a2 m.fns.length p.c2) (.int .i64 m.pages) (.int .i64 m.most) (.slice p.a3 m.gls.length p.c3) (.slice p.a4 m.exs.length p.c4) (.slice p.a5 m.dat.length p.c5))) := r8_made w (.slice p.a0 m.sigs.length p.c0) (.slice p.a1 m.imps.length p.c1) (.slice p.a2 m.fns.length p.c2) (.int .i64 m.pages) (.int .i64 m.most) (.slice p.a3 m.gls.length p.c3) (.slice p.a4 m.exs.length p.c4) (.slice p.a5 m.dat.length p.c5) 39
  have hs := h.sm.n2
  unfold hasF
  generalize formOk m = A at *
  generalize wi i 0 ((m.fns.length : Int) - 1) = B at *
  clear h
  generalize m.sigs.length = N0 at *
  generalize m.imps.length = N1 at *
  generalize m.fns.length = N2 at *
  generalize m.gls.length = N3 at *
  generalize m.exs.length = N4 at *
  generalize m.dat.length = N5 at *
  cases A with
  | false =>
    go_enter Tryz.func38, Tryz.ntmps38
    go_wp2_with (go_at_call 47; refine (kF.out _ ((Below.refl _ _).alloc (Nat.le_refl _) _)).mono ?_; rintro e w1 ⟨rfl, q1⟩)
    go_ret
    exact ⟨rfl, belB q1⟩
  | true =>
    go_enter Tryz.func38, Tryz.ntmps38
    go_wp2_with (first | (go_at_call 47; refine (kF.out _ ((Below.refl _ _).alloc (Nat.le_refl _) _)).mono ?_; rintro e w1 ⟨rfl, q1⟩; obtain ⟨_, _, _, _, _, _, _, _⟩ := r8 (row_later hr.out q1)) | (go_at_call 77; refine (kW.out _).mono ?_; rintro e w2 ⟨rfl, rfl⟩))
    go_ret
    exact ⟨by cases B <;> rfl, belB q1⟩
theorem bod_of {w : World} {p : P} {m : M} {j : Nat} (h : Mod w p m) (hf : formOk m = true) (hj : j < m.fns.length) : Bod w p m (MemFunc.at1 m.fns j).sig (MemFunc.at1 m.fns j).loc (MemFunc.at1 m.fns j).ad (MemFunc.at1 m.fns j).body := by
  have f := facts hf
  obtain ⟨f0, f1, f2, f3, f4⟩ := f.fn j hj
  refine ⟨h.rd, f, f0, f1, ⟨f2, f3⟩, ?_, f4⟩
  obtain ⟨_, _, hF, _⟩ := h.rd
  rcases hF with h0 | ⟨b, off, _, hc⟩
  · omega
  · exact (hc j hj).2.2.2
theorem fn_cells {w : World} {p : P} {m : M} {j : Nat} (h : Rd w p m) (hj : j < m.fns.length) : ∃ b off, p.a2 = some ⟨b, off, none⟩ ∧ w.cell? ⟨b, off + j * 3, none⟩ = some (.int .i64 (MemFunc.at1 m.fns j).sig) ∧ w.cell? ⟨b, off + j * 3 + 1, none⟩ = some (.int .i64 (MemFunc.at1 m.fns j).loc) ∧ w.cell? ⟨b, off + j * 3 + 2, none⟩ = some (.slice (MemFunc.at1 m.fns j).ad (MemFunc.at1 m.fns j).body.length (MemFunc.at1 m.fns j).cp) := by
  obtain ⟨_, _, hF, _⟩ := h
  rcases hF with h0 | ⟨b, off, ha, hc⟩
  · omega
  · obtain ⟨x, y, z, _⟩ := hc j hj
    exact ⟨b, off, ha, x, y, z⟩
set_option maxRecDepth 20000 in
set_option maxHeartbeats 8000000 in
theorem impl_faultAt (w : World) (p : P) (m : M) (i : Int) (h : Mod w p m) :
    Calls Tryz.prog 10 #[.agg #[.slice p.a0 m.sigs.length p.c0, .slice p.a1 m.imps.length p.c1, .slice p.a2 m.fns.length p.c2, .int .i64 m.pages, .int .i64 m.most, .slice p.a3 m.gls.length p.c3, .slice p.a4 m.exs.length p.c4, .slice p.a5 m.dat.length p.c5], .int .i64 i] w fun e w' => e = .returned (.int .i64 (faultAt m i)) ∧ Below w.heap.size w w' := by
  have kF : Hid (∀ u : World, Below w.heap.size w u → Calls Tryz.prog 38 #[.agg #[.slice p.a0 m.sigs.length p.c0, .slice p.a1 m.imps.length p.c1, .slice p.a2 m.fns.length p.c2, .int .i64 m.pages, .int .i64 m.most, .slice p.a3 m.gls.length p.c3, .slice p.a4 m.exs.length p.c4, .slice p.a5 m.dat.length p.c5], .int .i64 i] u fun e w' => e = .returned (.bool (hasF m i)) ∧ Below u.heap.size u w') := fun u hu => hasFunc u p m i (h.later hu)
  have hr : Hid ((w.alloc (.cells #[.slice p.a0 m.sigs.length p.c0, .slice p.a1 m.imps.length p.c1, .slice p.a2 m.fns.length p.c2, .int .i64 m.pages, .int .i64 m.most, .slice p.a3 m.gls.length p.c3, .slice p.a4 m.exs.length p.c4, .slice p.a5 m.dat.length p.c5] 39)).rowIs w.heap.size 39 8 (R8 (.slice p.a0 m.sigs.length p.c0) (.slice p.a1 m.imps.length p.c1) (.slice p.a2 m.fns.length p.c2) (.int .i64 m.pages) (.int .i64 m.most) (.slice p.a3 m.gls.length p.c3) (.slice p.a4 m.exs.length p.c4) (.slice p.a5 m.dat.length p.c5))) := r8_made w (.slice p.a0 m.sigs.length p.c0) (.slice p.a1 m.imps.length p.c1) (.slice p.a2 m.fns.length p.c2) (.int .i64 m.pages) (.int .i64 m.most) (.slice p.a3 m.gls.length p.c3) (.slice p.a4 m.exs.length p.c4) (.slice p.a5 m.dat.length p.c5) 39
  cases hH : hasF m i with
  | false =>
    rw [hH] at kF
    have e1 : Hid (faultAt m i = -2) := by show _ = _; unfold faultAt; rw [hH]; rfl
    rw [e1.out]
    clear h hH e1
    generalize m.sigs.length = N0 at *
    generalize m.imps.length = N1 at *
    generalize m.fns.length = N2 at *
    generalize m.gls.length = N3 at *
    generalize m.exs.length = N4 at *
    generalize m.dat.length = N5 at *
    go_enter Tryz.func10, Tryz.ntmps10
    go_wp2_with (go_at_call 38; refine (kF.out _ ((Below.refl _ _).alloc (Nat.le_refl _) _)).mono ?_; rintro e w1 ⟨rfl, q1⟩)
    go_ret
    exact ⟨rfl, belB q1⟩
  | true =>
    rw [hH] at kF
    obtain ⟨hf, i0, i1⟩ := hasF_lt hH
    obtain ⟨j, rfl⟩ : ∃ j : Nat, i = j := ⟨i.toNat, by omega⟩
    have hj : j < m.fns.length := by omega
    have hj' : (j : Int) < (m.fns.length : Int) := i1
    obtain ⟨b, off, ha, _, _, _⟩ := fn_cells h.rd hj
    have hcs : Hid (∀ u : World, Below w.heap.size w u → u.cell? ⟨b, off + j * 3, none⟩ = some (.int .i64 (MemFunc.at1 m.fns j).sig) ∧ u.cell? ⟨b, off + j * 3 + 1, none⟩ = some (.int .i64 (MemFunc.at1 m.fns j).loc) ∧ u.cell? ⟨b, off + j * 3 + 2, none⟩ = some (.slice (MemFunc.at1 m.fns j).ad (MemFunc.at1 m.fns j).body.length (MemFunc.at1 m.fns j).cp)) := fun u hu => by
      obtain ⟨b', off', ha', x, y, z⟩ := fn_cells (h.rd.later hu) hj
      rw [ha] at ha'
      simp only [Option.some.injEq, Addr.mk.injEq, and_true] at ha'
      obtain ⟨rfl, rfl⟩ := ha'
      exact ⟨x, y, z⟩
    have kH : Hid (∀ u : World, Below w.heap.size w u → Calls Tryz.prog 39 #[.agg #[.slice p.a0 m.sigs.length p.c0, .slice p.a1 m.imps.length p.c1, .slice p.a2 m.fns.length p.c2, .int .i64 m.pages, .int .i64 m.most, .slice p.a3 m.gls.length p.c3, .slice p.a4 m.exs.length p.c4, .slice p.a5 m.dat.length p.c5], .agg #[.int .i64 (MemFunc.at1 m.fns j).sig, .int .i64 (MemFunc.at1 m.fns j).loc, .slice (MemFunc.at1 m.fns j).ad (MemFunc.at1 m.fns j).body.length (MemFunc.at1 m.fns j).cp]] u fun e w' => ∃ v, e = .returned (.tuple #[v, .int .i64 (bodyOf m j).2]) ∧ OwnS u.heap.size w' v (bodyOf m j).1 ∧ Below u.heap.size u w') := fun u hu => heights p m _ _ _ _ _ u (bod_of (h.later hu) hf hj)
    have e1 : Hid (faultAt m (j : Int) = (bodyOf m j).2) := by show _ = _; unfold faultAt; rw [if_pos hH]; rfl
    rw [e1.out]
    clear e1
    generalize (bodyOf m j).2 = R at *
    generalize (bodyOf m j).1 = L at *
    rw [ha] at kF kH hr ⊢
    clear h hH hf i0 i1 hj
    generalize (MemFunc.at1 m.fns j).sig = S at *
    generalize (MemFunc.at1 m.fns j).loc = X at *
    generalize (MemFunc.at1 m.fns j).ad = AD at *
    generalize (MemFunc.at1 m.fns j).body.length = NB at *
    generalize (MemFunc.at1 m.fns j).cp = CP at *
    generalize m.sigs.length = N0 at *
    generalize m.imps.length = N1 at *
    generalize m.fns.length = N2 at *
    generalize m.gls.length = N3 at *
    generalize m.exs.length = N4 at *
    generalize m.dat.length = N5 at *
    go_enter Tryz.func10, Tryz.ntmps10
    go_wp2_with (go_at_call 38; refine (kF.out _ ((Below.refl _ _).alloc (Nat.le_refl _) _)).mono ?_; rintro e w1 ⟨rfl, q1⟩; have b1 : Hid (Below w.heap.size w w1) := belB q1; obtain ⟨_, _, _, _, _, _, _, _⟩ := r8 (row_later hr.out q1); obtain ⟨_, _, _⟩ := hcs.out _ b1.out)
    go_region_with (go_at_call 39; refine (kH.out _ b1.out.drew).mono ?_; rintro e w2 ⟨vl, rfl, o2, q2⟩; have o2' : Hid (OwnS w1.heap.size w2 vl L) := o2; clear o2)
    all_goals
      go_wp2_with fail
      go_ret
      exact ⟨rfl, b1.out.drew.trans (q2.mono b1.out.size)⟩
set_option maxRecDepth 20000 in
set_option maxHeartbeats 8000000 in
theorem impl_stackAt (w : World) (p : P) (m : M) (i : Int) (h : Mod w p m) :
    Calls Tryz.prog 15 #[.agg #[.slice p.a0 m.sigs.length p.c0, .slice p.a1 m.imps.length p.c1, .slice p.a2 m.fns.length p.c2, .int .i64 m.pages, .int .i64 m.most, .slice p.a3 m.gls.length p.c3, .slice p.a4 m.exs.length p.c4, .slice p.a5 m.dat.length p.c5], .int .i64 i] w fun e w' => (match stackAt m i with
    | none => e = .returned (.tuple #[.slice none 0 0, .bool false])
    | some l => ∃ v, e = .returned (.tuple #[v, .bool true]) ∧ OwnS w.heap.size w' v l) ∧ Below w.heap.size w w' := by
  have kF : Hid (∀ u : World, Below w.heap.size w u → Calls Tryz.prog 38 #[.agg #[.slice p.a0 m.sigs.length p.c0, .slice p.a1 m.imps.length p.c1, .slice p.a2 m.fns.length p.c2, .int .i64 m.pages, .int .i64 m.most, .slice p.a3 m.gls.length p.c3, .slice p.a4 m.exs.length p.c4, .slice p.a5 m.dat.length p.c5], .int .i64 i] u fun e w' => e = .returned (.bool (hasF m i)) ∧ Below u.heap.size u w') := fun u hu => hasFunc u p m i (h.later hu)
  have hr : Hid ((w.alloc (.cells #[.slice p.a0 m.sigs.length p.c0, .slice p.a1 m.imps.length p.c1, .slice p.a2 m.fns.length p.c2, .int .i64 m.pages, .int .i64 m.most, .slice p.a3 m.gls.length p.c3, .slice p.a4 m.exs.length p.c4, .slice p.a5 m.dat.length p.c5] 39)).rowIs w.heap.size 39 8 (R8 (.slice p.a0 m.sigs.length p.c0) (.slice p.a1 m.imps.length p.c1) (.slice p.a2 m.fns.length p.c2) (.int .i64 m.pages) (.int .i64 m.most) (.slice p.a3 m.gls.length p.c3) (.slice p.a4 m.exs.length p.c4) (.slice p.a5 m.dat.length p.c5))) := r8_made w (.slice p.a0 m.sigs.length p.c0) (.slice p.a1 m.imps.length p.c1) (.slice p.a2 m.fns.length p.c2) (.int .i64 m.pages) (.int .i64 m.most) (.slice p.a3 m.gls.length p.c3) (.slice p.a4 m.exs.length p.c4) (.slice p.a5 m.dat.length p.c5) 39
  cases hH : hasF m i with
  | false =>
    rw [hH] at kF
    have e1 : Hid (stackAt m i = none) := by show _ = _; unfold stackAt faultAt; rw [hH]; rfl
    rw [e1.out]
    clear h hH e1
    generalize m.sigs.length = N0 at *
    generalize m.imps.length = N1 at *
    generalize m.fns.length = N2 at *
    generalize m.gls.length = N3 at *
    generalize m.exs.length = N4 at *
    generalize m.dat.length = N5 at *
    go_enter Tryz.func15, Tryz.ntmps15
    go_wp2_with (go_at_call 38; refine (kF.out _ ((Below.refl _ _).alloc (Nat.le_refl _) _)).mono ?_; rintro e w1 ⟨rfl, q1⟩)
    go_ret2
    exact ⟨rfl, belB q1⟩
  | true =>
    rw [hH] at kF
    obtain ⟨hf, i0, i1⟩ := hasF_lt hH
    obtain ⟨j, rfl⟩ : ∃ j : Nat, i = j := ⟨i.toNat, by omega⟩
    have hj : j < m.fns.length := by omega
    have hj' : (j : Int) < (m.fns.length : Int) := i1
    obtain ⟨b, off, ha, _, _, _⟩ := fn_cells h.rd hj
    have hcs : Hid (∀ u : World, Below w.heap.size w u → u.cell? ⟨b, off + j * 3, none⟩ = some (.int .i64 (MemFunc.at1 m.fns j).sig) ∧ u.cell? ⟨b, off + j * 3 + 1, none⟩ = some (.int .i64 (MemFunc.at1 m.fns j).loc) ∧ u.cell? ⟨b, off + j * 3 + 2, none⟩ = some (.slice (MemFunc.at1 m.fns j).ad (MemFunc.at1 m.fns j).body.length (MemFunc.at1 m.fns j).cp)) := fun u hu => by
      obtain ⟨b', off', ha', x, y, z⟩ := fn_cells (h.rd.later hu) hj
      rw [ha] at ha'
      simp only [Option.some.injEq, Addr.mk.injEq, and_true] at ha'
      obtain ⟨rfl, rfl⟩ := ha'
      exact ⟨x, y, z⟩
    have kH : Hid (∀ u : World, Below w.heap.size w u → Calls Tryz.prog 39 #[.agg #[.slice p.a0 m.sigs.length p.c0, .slice p.a1 m.imps.length p.c1, .slice p.a2 m.fns.length p.c2, .int .i64 m.pages, .int .i64 m.most, .slice p.a3 m.gls.length p.c3, .slice p.a4 m.exs.length p.c4, .slice p.a5 m.dat.length p.c5], .agg #[.int .i64 (MemFunc.at1 m.fns j).sig, .int .i64 (MemFunc.at1 m.fns j).loc, .slice (MemFunc.at1 m.fns j).ad (MemFunc.at1 m.fns j).body.length (MemFunc.at1 m.fns j).cp]] u fun e w' => ∃ v, e = .returned (.tuple #[v, .int .i64 (bodyOf m j).2]) ∧ OwnS u.heap.size w' v (bodyOf m j).1 ∧ Below u.heap.size u w') := fun u hu => heights p m _ _ _ _ _ u (bod_of (h.later hu) hf hj)
    have e0 : Hid (faultAt m (j : Int) = (bodyOf m j).2) := by show _ = _; unfold faultAt; rw [if_pos hH]; rfl
    have e1 : Hid (stackAt m (j : Int) = if (bodyOf m j).2 = -1 then some (bodyOf m j).1 else none) := by show _ = _; unfold stackAt; rw [e0.out]; rfl
    rw [e1.out]
    clear e1 e0
    generalize (bodyOf m j).2 = R at *
    generalize (bodyOf m j).1 = L at *
    rw [ha] at kF kH hr ⊢
    clear h hH hf i0 i1 hj
    generalize (MemFunc.at1 m.fns j).sig = S at *
    generalize (MemFunc.at1 m.fns j).loc = X at *
    generalize (MemFunc.at1 m.fns j).ad = AD at *
    generalize (MemFunc.at1 m.fns j).body.length = NB at *
    generalize (MemFunc.at1 m.fns j).cp = CP at *
    generalize m.sigs.length = N0 at *
    generalize m.imps.length = N1 at *
    generalize m.fns.length = N2 at *
    generalize m.gls.length = N3 at *
    generalize m.exs.length = N4 at *
    generalize m.dat.length = N5 at *
    by_cases hR : R = -1
    · subst hR
      rw [if_pos rfl]
      go_enter Tryz.func15, Tryz.ntmps15
      go_wp2_with (go_at_call 38; refine (kF.out _ ((Below.refl _ _).alloc (Nat.le_refl _) _)).mono ?_; rintro e w1 ⟨rfl, q1⟩; have b1 : Hid (Below w.heap.size w w1) := belB q1; obtain ⟨_, _, _, _, _, _, _, _⟩ := r8 (row_later hr.out q1); obtain ⟨_, _, _⟩ := hcs.out _ b1.out)
      go_region_with (go_at_call 39; refine (kH.out _ b1.out.drew).mono ?_; rintro e w2 ⟨vl, rfl, o2, q2⟩; have o2' : Hid (OwnS w1.heap.size w2 vl L) := o2; clear o2)
      all_goals
        go_wp2_with fail
        go_ret2
        exact ⟨⟨_, rfl, ownLow o2'.out b1.out.size⟩, b1.out.drew.trans (q2.mono b1.out.size)⟩
    · rw [if_neg hR]
      have hR1 : (R == -1) = false := by simpa using hR
      have hR2 : (R != -1) = true := by simpa using hR
      clear hR
      go_enter Tryz.func15, Tryz.ntmps15
      go_wp2_with (go_at_call 38; refine (kF.out _ ((Below.refl _ _).alloc (Nat.le_refl _) _)).mono ?_; rintro e w1 ⟨rfl, q1⟩; have b1 : Hid (Below w.heap.size w w1) := belB q1; obtain ⟨_, _, _, _, _, _, _, _⟩ := r8 (row_later hr.out q1); obtain ⟨_, _, _⟩ := hcs.out _ b1.out)
      go_region_with (go_at_call 39; refine (kH.out _ b1.out.drew).mono ?_; rintro e w2 ⟨vl, rfl, o2, q2⟩; have o2' : Hid (OwnS w1.heap.size w2 vl L) := o2; clear o2)
      all_goals
        go_wp2_with fail
        go_ret2
        exact ⟨rfl, b1.out.drew.trans (q2.mono b1.out.size)⟩
end Go.Proofs.YtajlkdidjelpeaaGreatDoor.ValidFace
