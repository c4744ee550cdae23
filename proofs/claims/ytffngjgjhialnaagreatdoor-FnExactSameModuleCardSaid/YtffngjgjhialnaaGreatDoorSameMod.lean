/-
  SameModule of both sides, and its exact law. (Written by my samelaw.py.)
-/
import Derived.Test.YtffngjgjhialnaaGreatDoorFormLaw
import Derived.Test.YtffngjgjhialnaaGreatDoorOwnBytes
import Derived.Test.YtffngjgjhialnaaGreatDoorSpecModAll
import Derived.Test.YtffngjgjhialnaaGreatDoorWrModule
import Derived.Test.YtffngjgjhialnaaGreatDoorShelf
import Derived.Deep.RegionHeld
namespace Go.Proofs.YtffngjgjhialnaaGreatDoor.SameMod
open Go.RowKit NameCalls InsMem FormCalls ModMem FormImpl FormLaw PlainShape PlainOps PlainNum NumCalls ByteMem PutU PutULaw OwnBytes PlainBytes WrMod WrParts WrSec ModB

/-- Each Data's bytes have an address. -/
def Ad (m' : M) : Prop := ∀ k, k < m'.dat.length → ∃ g off, (MemData.at1 m'.dat k).ad = some ⟨g, off, none⟩
/-- Two with the same contents, the second with an address for each Data's bytes. -/
def SameA (m m' : M) : Prop := Same m m' ∧ Ad m'
theorem newM_ad (G D : Nat → Nat) (m : M) : SameA m (newM G D m) :=
  ⟨newM_same G D m, fun k hk => by
    have hk' : k < m.dat.length := by rw [← newD_len D m.dat]; exact hk
    exact ⟨D k, 0, by simp only [newM, newD_at D m.dat k hk']⟩⟩
theorem below_dn (w : World) (m : Nat) : Below w.heap.size w (w.drewN m) := ⟨rfl, rfl, rfl, Nat.le_refl _, fun _ _ => rfl⟩
theorem tx_inj {a b : List UInt8} (h : tx a = tx b) : a = b := by
  have := congrArg (fun s : ByteArray => s.data.toList) h
  simpa [tx] using this
theorem conv_ob {w : World} {a : Option Addr} {bs : List UInt8} (h : RdB w a bs) (c : Nat) : (convert 31 9 (.slice a bs.length c)).run Tryz.prog w = .ok (.string (tx bs)) w := by
  rcases h.2 with h0 | ⟨b, off, ha, hc⟩
  · have : bs = [] := List.length_eq_zero_iff.1 h0
    subst this
    exact run_convert_bytes_zero w 31 5 Tryz.underlying31 Tryz.underlying5 a c 9 Tryz.underlying9
  · subst ha
    exact run_convert_bytes_back (P := Tryz.prog) w 31 9 5 ⟨b, off, none⟩ c bs Tryz.underlying31 Tryz.underlying5 Tryz.underlying9 (fun j hj => by
      have e : (⟨b, off, none⟩ : Addr).add j = ⟨b, off + j, none⟩ := by cases j <;> simp [Addr.add]
      rw [e, hc j hj]
      simp [hj])
theorem ansB {f : FuncId} {args : Array Value} {w : World} {F : Bool} {bs : List UInt8}
    (h : Calls Tryz.prog f args w fun e w' => ∃ v, e = .returned (.tuple #[v, .bool F]) ∧ PutU.Own w.heap.size w' v bs ∧ Below w.heap.size w w') :
    Calls Tryz.prog f args w fun e w' => ∃ a c, e = .returned (.tuple #[.slice a bs.length c, .bool F]) ∧ OB w.heap.size w' a bs ∧ Below w.heap.size w w' :=
  h.mono fun e w' ⟨v, he, ho, hb⟩ => by
    obtain ⟨a, c, rfl, hk⟩ := own_ob ho
    exact ⟨a, c, he, hk, hb⟩
theorem modB_same {m m' : M} (s : Same m m') : modB m' = modB m := by
  have e0 : FS m' = FS m := by funext k; unfold FS; rw [s.s0]
  have e1 : FI m' = FI m := by funext k; unfold FI; rw [s.s1]
  have e2 : catP (FF m') m.fns.length = catP (FF m) m.fns.length := catP_congr _ fun k hk => by unfold FF; rw [(s.s2 k hk).1]
  have e3 : FM m' = FM m := by funext k; unfold FM; rw [s.sp, s.sm]
  have em : mc m' = mc m := by unfold mc; rw [s.sp]
  have e4 : FG m' = FG m := by funext k; unfold FG; rw [s.s3]
  have e5 : FE m' = FE m := by funext k; unfold FE; rw [s.s4]
  have e6 : catP (FB m') m.fns.length = catP (FB m) m.fns.length := catP_congr _ fun k hk => by unfold FB; rw [(s.s2 k hk).2.1, (s.s2 k hk).2.2]
  have e7 : catP (FD m') m.dat.length = catP (FD m) m.dat.length := catP_congr _ fun k hk => by unfold FD dB; rw [(s.s5 k hk).1, (s.s5 k hk).2.1, (s.s5 k hk).2.2]
  unfold modB
  rw [formOk_same s]
  unfold allB
  simp only [secs, e0, e1, e3, em, e4, e5, s.s0, s.s1, s.n2, s.s3, s.s4, s.n5, e2, e6, e7]
/-- A module is copied: the copy can be read, and what lay there lies there still. -/
theorem copyMA (w u : World) (p : P) (m : M) (V : Value) (hV : V = val p m) (h : Rd w p m) (hs : Small m) (hb : Below w.heap.size w u) :
    Calls Tryz.prog 7 #[V] u fun e w' => ∃ xa0 xn0 xc0 xa1 xn1 xc1 xa2 xn2 xc2 xi3 xi4 xa5 xn5 xc5 xa6 xn6 xc6 xa7 xn7 xc7 p' m', e = .returned (.agg #[.slice xa0 xn0 xc0, .slice xa1 xn1 xc1, .slice xa2 xn2 xc2, .int .i64 xi3, .int .i64 xi4, .slice xa5 xn5 xc5, .slice xa6 xn6 xc6, .slice xa7 xn7 xc7]) ∧ Value.agg #[.slice xa0 xn0 xc0, .slice xa1 xn1 xc1, .slice xa2 xn2 xc2, .int .i64 xi3, .int .i64 xi4, .slice xa5 xn5 xc5, .slice xa6 xn6 xc6, .slice xa7 xn7 xc7] = val p' m' ∧ Rd w' p' m' ∧ SameA m m' ∧ Below u.heap.size u w' ∧ Below w.heap.size w w' := by
  subst hV
  exact (toM u p m (h.later hb) hs).mono fun _ _ ⟨_, _, _, _, _, _, G, D, he, hm, hb'⟩ => ⟨_, _, _, _, _, _, _, _, _, _, _, _, _, _, _, _, _, _, _, _, _, _, he, rfl, hm.rd, newM_ad G D m, hb', hb.trans (hb'.mono hb.size)⟩
set_option maxRecDepth 20000 in
set_option maxHeartbeats 4000000 in
theorem spec_sameModule (w : World) (p p' : P) (m m' : M) (h : Rd w p m) (hs : Small m) (hd : Ad m) (h' : Rd w p' m') (hs' : Small m') (hd' : Ad m') :
    Calls Tryz.prog 14 #[val p m, val p' m'] w fun e w' => e = .returned (.bool (formOk m && formOk m' && decide (modB m = modB m'))) ∧ Below w.heap.size w w' := by
  have k1 : Hid (∀ u, Below w.heap.size w u → Calls Tryz.prog 6 #[val p m] u fun e w' => ∃ a c, e = .returned (.tuple #[.slice a (modB m).length c, .bool (formOk m)]) ∧ OB u.heap.size w' a (modB m) ∧ Below u.heap.size u w') := fun u hu => ansB (SpecModB.spec_moduleBytes u p m (h.later hu) hs hd)
  have k2 : Hid (∀ u, Below w.heap.size w u → Calls Tryz.prog 6 #[val p' m'] u fun e w' => ∃ a c, e = .returned (.tuple #[.slice a (modB m').length c, .bool (formOk m')]) ∧ OB u.heap.size w' a (modB m') ∧ Below u.heap.size u w') := fun u hu => ansB (SpecModB.spec_moduleBytes u p' m' (h'.later hu) hs' hd')
  clear h hs hd h' hs' hd'
  obtain ⟨R, hR⟩ : ∃ R : Bool, (formOk m && formOk m' && decide (modB m = modB m')) = R := ⟨_, rfl⟩
  have hR' : Hid ((formOk m && formOk m' && decide (modB m = modB m')) = R) := hR
  rw [hR]
  clear hR
  generalize formOk m = F1 at *
  generalize formOk m' = F2 at *
  generalize modB m = B1 at *
  generalize modB m' = B2 at *
  obtain ⟨y0a0, y0n0, y0c0, y0a1, y0n1, y0c1, y0a2, y0n2, y0c2, y0i3, y0i4, y0a5, y0n5, y0c5, y0a6, y0n6, y0c6, y0a7, y0n7, y0c7, hv⟩ := val_agg p m
  obtain ⟨z0a0, z0n0, z0c0, z0a1, z0n1, z0c1, z0a2, z0n2, z0c2, z0i3, z0i4, z0a5, z0n5, z0c5, z0a6, z0n6, z0c6, z0a7, z0n7, z0c7, hv'⟩ := val_agg p' m'
  rw [hv] at k1 ⊢
  rw [hv'] at k2 ⊢
  clear hv hv'
  have X0 : Hid (((w.alloc (.cells #[.slice y0a0 y0n0 y0c0, .slice y0a1 y0n1 y0c1, .slice y0a2 y0n2 y0c2, .int .i64 y0i3, .int .i64 y0i4, .slice y0a5 y0n5 y0c5, .slice y0a6 y0n6 y0c6, .slice y0a7 y0n7 y0c7] 41)).alloc (.cells #[.slice z0a0 z0n0 z0c0, .slice z0a1 z0n1 z0c1, .slice z0a2 z0n2 z0c2, .int .i64 z0i3, .int .i64 z0i4, .slice z0a5 z0n5 z0c5, .slice z0a6 z0n6 z0c6, .slice z0a7 z0n7 z0c7] 41)).rowIs (w.heap.size) 41 8 (R8 (.slice y0a0 y0n0 y0c0) (.slice y0a1 y0n1 y0c1) (.slice y0a2 y0n2 y0c2) (.int .i64 y0i3) (.int .i64 y0i4) (.slice y0a5 y0n5 y0c5) (.slice y0a6 y0n6 y0c6) (.slice y0a7 y0n7 y0c7)) ∧ ((w.alloc (.cells #[.slice y0a0 y0n0 y0c0, .slice y0a1 y0n1 y0c1, .slice y0a2 y0n2 y0c2, .int .i64 y0i3, .int .i64 y0i4, .slice y0a5 y0n5 y0c5, .slice y0a6 y0n6 y0c6, .slice y0a7 y0n7 y0c7] 41)).alloc (.cells #[.slice z0a0 z0n0 z0c0, .slice z0a1 z0n1 z0c1, .slice z0a2 z0n2 z0c2, .int .i64 z0i3, .int .i64 z0i4, .slice z0a5 z0n5 z0c5, .slice z0a6 z0n6 z0c6, .slice z0a7 z0n7 z0c7] 41)).rowIs (w.heap.size + 1) 41 8 (R8 (.slice z0a0 z0n0 z0c0) (.slice z0a1 z0n1 z0c1) (.slice z0a2 z0n2 z0c2) (.int .i64 z0i3) (.int .i64 z0i4) (.slice z0a5 z0n5 z0c5) (.slice z0a6 z0n6 z0c6) (.slice z0a7 z0n7 z0c7))) := by
    have e1 := (r8_made w (.slice y0a0 y0n0 y0c0) (.slice y0a1 y0n1 y0c1) (.slice y0a2 y0n2 y0c2) (.int .i64 y0i3) (.int .i64 y0i4) (.slice y0a5 y0n5 y0c5) (.slice y0a6 y0n6 y0c6) (.slice y0a7 y0n7 y0c7) 41).alloc (.cells #[.slice z0a0 z0n0 z0c0, .slice z0a1 z0n1 z0c1, .slice z0a2 z0n2 z0c2, .int .i64 z0i3, .int .i64 z0i4, .slice z0a5 z0n5 z0c5, .slice z0a6 z0n6 z0c6, .slice z0a7 z0n7 z0c7] 41)
    have e2 := r8_made (w.alloc (.cells #[.slice y0a0 y0n0 y0c0, .slice y0a1 y0n1 y0c1, .slice y0a2 y0n2 y0c2, .int .i64 y0i3, .int .i64 y0i4, .slice y0a5 y0n5 y0c5, .slice y0a6 y0n6 y0c6, .slice y0a7 y0n7 y0c7] 41)) (.slice z0a0 z0n0 z0c0) (.slice z0a1 z0n1 z0c1) (.slice z0a2 z0n2 z0c2) (.int .i64 z0i3) (.int .i64 z0i4) (.slice z0a5 z0n5 z0c5) (.slice z0a6 z0n6 z0c6) (.slice z0a7 z0n7 z0c7) 41
    rw [World.size_alloc] at e2
    exact ⟨e1, e2⟩
  have b0 : Hid (Below w.heap.size w ((w.alloc (.cells #[.slice y0a0 y0n0 y0c0, .slice y0a1 y0n1 y0c1, .slice y0a2 y0n2 y0c2, .int .i64 y0i3, .int .i64 y0i4, .slice y0a5 y0n5 y0c5, .slice y0a6 y0n6 y0c6, .slice y0a7 y0n7 y0c7] 41)).alloc (.cells #[.slice z0a0 z0n0 z0c0, .slice z0a1 z0n1 z0c1, .slice z0a2 z0n2 z0c2, .int .i64 z0i3, .int .i64 z0i4, .slice z0a5 z0n5 z0c5, .slice z0a6 z0n6 z0c6, .slice z0a7 z0n7 z0c7] 41))) := ((Below.refl _ _).alloc (Nat.le_refl _) _).alloc (by simp) _
  cases F1 with
  | false =>
    have e1 : Hid (R = false) := hR'.out.symm
    go_enter Tryz.func14, Tryz.ntmps14
    go_wp2_with (go_at_call 6; refine (k1.out _ b0.out).mono ?_; rintro e w1 ⟨a1, c1, rfl, o1, q1⟩; clear k1; have O1 : Hid (OB ((w.alloc (.cells #[.slice y0a0 y0n0 y0c0, .slice y0a1 y0n1 y0c1, .slice y0a2 y0n2 y0c2, .int .i64 y0i3, .int .i64 y0i4, .slice y0a5 y0n5 y0c5, .slice y0a6 y0n6 y0c6, .slice y0a7 y0n7 y0c7] 41)).alloc (.cells #[.slice z0a0 z0n0 z0c0, .slice z0a1 z0n1 z0c1, .slice z0a2 z0n2 z0c2, .int .i64 z0i3, .int .i64 z0i4, .slice z0a5 z0n5 z0c5, .slice z0a6 z0n6 z0c6, .slice z0a7 z0n7 z0c7] 41)).heap.size w1 a1 B1) := o1; have b1 : Hid (Below w.heap.size w w1) := b0.out.trans (q1.mono (by simp; omega)); have X1 : Hid (w1.rowIs (w.heap.size) 41 8 (R8 (.slice y0a0 y0n0 y0c0) (.slice y0a1 y0n1 y0c1) (.slice y0a2 y0n2 y0c2) (.int .i64 y0i3) (.int .i64 y0i4) (.slice y0a5 y0n5 y0c5) (.slice y0a6 y0n6 y0c6) (.slice y0a7 y0n7 y0c7)) ∧ w1.rowIs (w.heap.size + 1) 41 8 (R8 (.slice z0a0 z0n0 z0c0) (.slice z0a1 z0n1 z0c1) (.slice z0a2 z0n2 z0c2) (.int .i64 z0i3) (.int .i64 z0i4) (.slice z0a5 z0n5 z0c5) (.slice z0a6 z0n6 z0c6) (.slice z0a7 z0n7 z0c7))) := ⟨row_later X0.out.1 q1, row_later X0.out.2 q1⟩; clear o1 q1; obtain ⟨_, _, _, _, _, _, _, _⟩ := r8 X1.out.2)
    go_wp2_with (go_at_call 6; refine (k2.out _ b1.out).mono ?_; rintro e w2 ⟨a2, c2, rfl, o2, q2⟩; clear k2; have O2 : Hid (OB w1.heap.size w2 a2 B2) := o2; have b2 : Hid (Below w.heap.size w w2) := b1.out.trans (q2.mono b1.out.size); have O3 : Hid (OB ((w.alloc (.cells #[.slice y0a0 y0n0 y0c0, .slice y0a1 y0n1 y0c1, .slice y0a2 y0n2 y0c2, .int .i64 y0i3, .int .i64 y0i4, .slice y0a5 y0n5 y0c5, .slice y0a6 y0n6 y0c6, .slice y0a7 y0n7 y0c7] 41)).alloc (.cells #[.slice z0a0 z0n0 z0c0, .slice z0a1 z0n1 z0c1, .slice z0a2 z0n2 z0c2, .int .i64 z0i3, .int .i64 z0i4, .slice z0a5 z0n5 z0c5, .slice z0a6 z0n6 z0c6, .slice z0a7 z0n7 z0c7] 41)).heap.size w2 a1 B1) := O1.out.below q2; clear o2 q2; have v1' := conv_ob O3.out.rd c1; have v2' := conv_ob O2.out.rd c2; have v1 : Hid (_) := v1'; have v2 : Hid (_) := v2'; clear v1' v2')
    go_wp2_with fail
    go_ret
    exact ⟨by rw [e1.out]; rfl, b2.out⟩
  | true =>
    cases F2 with
    | false =>
      have e1 : Hid (R = false) := hR'.out.symm
      go_enter Tryz.func14, Tryz.ntmps14
      go_wp2_with (go_at_call 6; refine (k1.out _ b0.out).mono ?_; rintro e w1 ⟨a1, c1, rfl, o1, q1⟩; clear k1; have O1 : Hid (OB ((w.alloc (.cells #[.slice y0a0 y0n0 y0c0, .slice y0a1 y0n1 y0c1, .slice y0a2 y0n2 y0c2, .int .i64 y0i3, .int .i64 y0i4, .slice y0a5 y0n5 y0c5, .slice y0a6 y0n6 y0c6, .slice y0a7 y0n7 y0c7] 41)).alloc (.cells #[.slice z0a0 z0n0 z0c0, .slice z0a1 z0n1 z0c1, .slice z0a2 z0n2 z0c2, .int .i64 z0i3, .int .i64 z0i4, .slice z0a5 z0n5 z0c5, .slice z0a6 z0n6 z0c6, .slice z0a7 z0n7 z0c7] 41)).heap.size w1 a1 B1) := o1; have b1 : Hid (Below w.heap.size w w1) := b0.out.trans (q1.mono (by simp; omega)); have X1 : Hid (w1.rowIs (w.heap.size) 41 8 (R8 (.slice y0a0 y0n0 y0c0) (.slice y0a1 y0n1 y0c1) (.slice y0a2 y0n2 y0c2) (.int .i64 y0i3) (.int .i64 y0i4) (.slice y0a5 y0n5 y0c5) (.slice y0a6 y0n6 y0c6) (.slice y0a7 y0n7 y0c7)) ∧ w1.rowIs (w.heap.size + 1) 41 8 (R8 (.slice z0a0 z0n0 z0c0) (.slice z0a1 z0n1 z0c1) (.slice z0a2 z0n2 z0c2) (.int .i64 z0i3) (.int .i64 z0i4) (.slice z0a5 z0n5 z0c5) (.slice z0a6 z0n6 z0c6) (.slice z0a7 z0n7 z0c7))) := ⟨row_later X0.out.1 q1, row_later X0.out.2 q1⟩; clear o1 q1; obtain ⟨_, _, _, _, _, _, _, _⟩ := r8 X1.out.2)
      go_wp2_with (go_at_call 6; refine (k2.out _ b1.out).mono ?_; rintro e w2 ⟨a2, c2, rfl, o2, q2⟩; clear k2; have O2 : Hid (OB w1.heap.size w2 a2 B2) := o2; have b2 : Hid (Below w.heap.size w w2) := b1.out.trans (q2.mono b1.out.size); have O3 : Hid (OB ((w.alloc (.cells #[.slice y0a0 y0n0 y0c0, .slice y0a1 y0n1 y0c1, .slice y0a2 y0n2 y0c2, .int .i64 y0i3, .int .i64 y0i4, .slice y0a5 y0n5 y0c5, .slice y0a6 y0n6 y0c6, .slice y0a7 y0n7 y0c7] 41)).alloc (.cells #[.slice z0a0 z0n0 z0c0, .slice z0a1 z0n1 z0c1, .slice z0a2 z0n2 z0c2, .int .i64 z0i3, .int .i64 z0i4, .slice z0a5 z0n5 z0c5, .slice z0a6 z0n6 z0c6, .slice z0a7 z0n7 z0c7] 41)).heap.size w2 a1 B1) := O1.out.below q2; clear o2 q2; have v1' := conv_ob O3.out.rd c1; have v2' := conv_ob O2.out.rd c2; have v1 : Hid (_) := v1'; have v2 : Hid (_) := v2'; clear v1' v2')
      go_wp2_with fail
      go_ret
      exact ⟨by rw [e1.out]; rfl, b2.out⟩
    | true =>
      by_cases hB : B1 = B2
      · have e1 : Hid (R = true) := by show _ = _; rw [← hR'.out, decide_eq_true hB]; rfl
        have ht : Hid (tx B2 = tx B1) := by show _ = _; rw [hB]
        clear hB
        go_enter Tryz.func14, Tryz.ntmps14
        go_wp2_with (go_at_call 6; refine (k1.out _ b0.out).mono ?_; rintro e w1 ⟨a1, c1, rfl, o1, q1⟩; clear k1; have O1 : Hid (OB ((w.alloc (.cells #[.slice y0a0 y0n0 y0c0, .slice y0a1 y0n1 y0c1, .slice y0a2 y0n2 y0c2, .int .i64 y0i3, .int .i64 y0i4, .slice y0a5 y0n5 y0c5, .slice y0a6 y0n6 y0c6, .slice y0a7 y0n7 y0c7] 41)).alloc (.cells #[.slice z0a0 z0n0 z0c0, .slice z0a1 z0n1 z0c1, .slice z0a2 z0n2 z0c2, .int .i64 z0i3, .int .i64 z0i4, .slice z0a5 z0n5 z0c5, .slice z0a6 z0n6 z0c6, .slice z0a7 z0n7 z0c7] 41)).heap.size w1 a1 B1) := o1; have b1 : Hid (Below w.heap.size w w1) := b0.out.trans (q1.mono (by simp; omega)); have X1 : Hid (w1.rowIs (w.heap.size) 41 8 (R8 (.slice y0a0 y0n0 y0c0) (.slice y0a1 y0n1 y0c1) (.slice y0a2 y0n2 y0c2) (.int .i64 y0i3) (.int .i64 y0i4) (.slice y0a5 y0n5 y0c5) (.slice y0a6 y0n6 y0c6) (.slice y0a7 y0n7 y0c7)) ∧ w1.rowIs (w.heap.size + 1) 41 8 (R8 (.slice z0a0 z0n0 z0c0) (.slice z0a1 z0n1 z0c1) (.slice z0a2 z0n2 z0c2) (.int .i64 z0i3) (.int .i64 z0i4) (.slice z0a5 z0n5 z0c5) (.slice z0a6 z0n6 z0c6) (.slice z0a7 z0n7 z0c7))) := ⟨row_later X0.out.1 q1, row_later X0.out.2 q1⟩; clear o1 q1; obtain ⟨_, _, _, _, _, _, _, _⟩ := r8 X1.out.2)
        go_wp2_with (go_at_call 6; refine (k2.out _ b1.out).mono ?_; rintro e w2 ⟨a2, c2, rfl, o2, q2⟩; clear k2; have O2 : Hid (OB w1.heap.size w2 a2 B2) := o2; have b2 : Hid (Below w.heap.size w w2) := b1.out.trans (q2.mono b1.out.size); have O3 : Hid (OB ((w.alloc (.cells #[.slice y0a0 y0n0 y0c0, .slice y0a1 y0n1 y0c1, .slice y0a2 y0n2 y0c2, .int .i64 y0i3, .int .i64 y0i4, .slice y0a5 y0n5 y0c5, .slice y0a6 y0n6 y0c6, .slice y0a7 y0n7 y0c7] 41)).alloc (.cells #[.slice z0a0 z0n0 z0c0, .slice z0a1 z0n1 z0c1, .slice z0a2 z0n2 z0c2, .int .i64 z0i3, .int .i64 z0i4, .slice z0a5 z0n5 z0c5, .slice z0a6 z0n6 z0c6, .slice z0a7 z0n7 z0c7] 41)).heap.size w2 a1 B1) := O1.out.below q2; clear o2 q2; have v1' := conv_ob O3.out.rd c1; have v2' := conv_ob O2.out.rd c2; rw [ht.out] at v2')
        go_ret
        exact ⟨by rw [e1.out]; simp, b2.out⟩
      · have e1 : Hid (R = false) := by show _ = _; rw [← hR'.out, decide_eq_false hB]; rfl
        have n3 := str_ne (fun e : tx B1 = tx B2 => hB (tx_inj e))
        clear hB
        go_enter Tryz.func14, Tryz.ntmps14
        go_wp2_with (go_at_call 6; refine (k1.out _ b0.out).mono ?_; rintro e w1 ⟨a1, c1, rfl, o1, q1⟩; clear k1; have O1 : Hid (OB ((w.alloc (.cells #[.slice y0a0 y0n0 y0c0, .slice y0a1 y0n1 y0c1, .slice y0a2 y0n2 y0c2, .int .i64 y0i3, .int .i64 y0i4, .slice y0a5 y0n5 y0c5, .slice y0a6 y0n6 y0c6, .slice y0a7 y0n7 y0c7] 41)).alloc (.cells #[.slice z0a0 z0n0 z0c0, .slice z0a1 z0n1 z0c1, .slice z0a2 z0n2 z0c2, .int .i64 z0i3, .int .i64 z0i4, .slice z0a5 z0n5 z0c5, .slice z0a6 z0n6 z0c6, .slice z0a7 z0n7 z0c7] 41)).heap.size w1 a1 B1) := o1; have b1 : Hid (Below w.heap.size w w1) := b0.out.trans (q1.mono (by simp; omega)); have X1 : Hid (w1.rowIs (w.heap.size) 41 8 (R8 (.slice y0a0 y0n0 y0c0) (.slice y0a1 y0n1 y0c1) (.slice y0a2 y0n2 y0c2) (.int .i64 y0i3) (.int .i64 y0i4) (.slice y0a5 y0n5 y0c5) (.slice y0a6 y0n6 y0c6) (.slice y0a7 y0n7 y0c7)) ∧ w1.rowIs (w.heap.size + 1) 41 8 (R8 (.slice z0a0 z0n0 z0c0) (.slice z0a1 z0n1 z0c1) (.slice z0a2 z0n2 z0c2) (.int .i64 z0i3) (.int .i64 z0i4) (.slice z0a5 z0n5 z0c5) (.slice z0a6 z0n6 z0c6) (.slice z0a7 z0n7 z0c7))) := ⟨row_later X0.out.1 q1, row_later X0.out.2 q1⟩; clear o1 q1; obtain ⟨_, _, _, _, _, _, _, _⟩ := r8 X1.out.2)
        go_wp2_with (go_at_call 6; refine (k2.out _ b1.out).mono ?_; rintro e w2 ⟨a2, c2, rfl, o2, q2⟩; clear k2; have O2 : Hid (OB w1.heap.size w2 a2 B2) := o2; have b2 : Hid (Below w.heap.size w w2) := b1.out.trans (q2.mono b1.out.size); have O3 : Hid (OB ((w.alloc (.cells #[.slice y0a0 y0n0 y0c0, .slice y0a1 y0n1 y0c1, .slice y0a2 y0n2 y0c2, .int .i64 y0i3, .int .i64 y0i4, .slice y0a5 y0n5 y0c5, .slice y0a6 y0n6 y0c6, .slice y0a7 y0n7 y0c7] 41)).alloc (.cells #[.slice z0a0 z0n0 z0c0, .slice z0a1 z0n1 z0c1, .slice z0a2 z0n2 z0c2, .int .i64 z0i3, .int .i64 z0i4, .slice z0a5 z0n5 z0c5, .slice z0a6 z0n6 z0c6, .slice z0a7 z0n7 z0c7] 41)).heap.size w2 a1 B1) := O1.out.below q2; clear o2 q2; have v1' := conv_ob O3.out.rd c1; have v2' := conv_ob O2.out.rd c2)
        go_ret
        exact ⟨by rw [e1.out]; rfl, b2.out⟩
set_option maxRecDepth 20000 in
set_option maxHeartbeats 4000000 in
theorem impl_sameModule (w : World) (p p' : P) (m m' : M) (h : Rd w p m) (hs : Small m) (hd : Ad m) (h' : Rd w p' m') (hs' : Small m') (hd' : Ad m') (ht : Tab w) (hU : Utf w) :
    Calls Tryz.prog 15 #[val p m, val p' m'] w fun e w' => e = .returned (.bool (formOk m && formOk m' && decide (modB m = modB m'))) ∧ Below w.heap.size w w' := by
  have k1 : Hid (∀ u, Below w.heap.size w u → Calls Tryz.prog 8 #[val p m] u fun e w' => ∃ a c, e = .returned (.tuple #[.slice a (modB m).length c, .bool (formOk m)]) ∧ OB u.heap.size w' a (modB m) ∧ Below u.heap.size u w') := fun u hu => ansB (WrModule.impl_moduleBytes u p m (h.later hu) hs hd (ht.later hu) (UtfLaw.tabs_later hU hu))
  have k2 : Hid (∀ u, Below w.heap.size w u → Calls Tryz.prog 8 #[val p' m'] u fun e w' => ∃ a c, e = .returned (.tuple #[.slice a (modB m').length c, .bool (formOk m')]) ∧ OB u.heap.size w' a (modB m') ∧ Below u.heap.size u w') := fun u hu => ansB (WrModule.impl_moduleBytes u p' m' (h'.later hu) hs' hd' (ht.later hu) (UtfLaw.tabs_later hU hu))
  clear h hs hd h' hs' hd' ht hU
  obtain ⟨R, hR⟩ : ∃ R : Bool, (formOk m && formOk m' && decide (modB m = modB m')) = R := ⟨_, rfl⟩
  have hR' : Hid ((formOk m && formOk m' && decide (modB m = modB m')) = R) := hR
  rw [hR]
  clear hR
  generalize formOk m = F1 at *
  generalize formOk m' = F2 at *
  generalize modB m = B1 at *
  generalize modB m' = B2 at *
  obtain ⟨y0a0, y0n0, y0c0, y0a1, y0n1, y0c1, y0a2, y0n2, y0c2, y0i3, y0i4, y0a5, y0n5, y0c5, y0a6, y0n6, y0c6, y0a7, y0n7, y0c7, hv⟩ := val_agg p m
  obtain ⟨z0a0, z0n0, z0c0, z0a1, z0n1, z0c1, z0a2, z0n2, z0c2, z0i3, z0i4, z0a5, z0n5, z0c5, z0a6, z0n6, z0c6, z0a7, z0n7, z0c7, hv'⟩ := val_agg p' m'
  rw [hv] at k1 ⊢
  rw [hv'] at k2 ⊢
  clear hv hv'
  have X0 : Hid (((w.alloc (.cells #[.slice y0a0 y0n0 y0c0, .slice y0a1 y0n1 y0c1, .slice y0a2 y0n2 y0c2, .int .i64 y0i3, .int .i64 y0i4, .slice y0a5 y0n5 y0c5, .slice y0a6 y0n6 y0c6, .slice y0a7 y0n7 y0c7] 41)).alloc (.cells #[.slice z0a0 z0n0 z0c0, .slice z0a1 z0n1 z0c1, .slice z0a2 z0n2 z0c2, .int .i64 z0i3, .int .i64 z0i4, .slice z0a5 z0n5 z0c5, .slice z0a6 z0n6 z0c6, .slice z0a7 z0n7 z0c7] 41)).rowIs (w.heap.size) 41 8 (R8 (.slice y0a0 y0n0 y0c0) (.slice y0a1 y0n1 y0c1) (.slice y0a2 y0n2 y0c2) (.int .i64 y0i3) (.int .i64 y0i4) (.slice y0a5 y0n5 y0c5) (.slice y0a6 y0n6 y0c6) (.slice y0a7 y0n7 y0c7)) ∧ ((w.alloc (.cells #[.slice y0a0 y0n0 y0c0, .slice y0a1 y0n1 y0c1, .slice y0a2 y0n2 y0c2, .int .i64 y0i3, .int .i64 y0i4, .slice y0a5 y0n5 y0c5, .slice y0a6 y0n6 y0c6, .slice y0a7 y0n7 y0c7] 41)).alloc (.cells #[.slice z0a0 z0n0 z0c0, .slice z0a1 z0n1 z0c1, .slice z0a2 z0n2 z0c2, .int .i64 z0i3, .int .i64 z0i4, .slice z0a5 z0n5 z0c5, .slice z0a6 z0n6 z0c6, .slice z0a7 z0n7 z0c7] 41)).rowIs (w.heap.size + 1) 41 8 (R8 (.slice z0a0 z0n0 z0c0) (.slice z0a1 z0n1 z0c1) (.slice z0a2 z0n2 z0c2) (.int .i64 z0i3) (.int .i64 z0i4) (.slice z0a5 z0n5 z0c5) (.slice z0a6 z0n6 z0c6) (.slice z0a7 z0n7 z0c7))) := by
    have e1 := (r8_made w (.slice y0a0 y0n0 y0c0) (.slice y0a1 y0n1 y0c1) (.slice y0a2 y0n2 y0c2) (.int .i64 y0i3) (.int .i64 y0i4) (.slice y0a5 y0n5 y0c5) (.slice y0a6 y0n6 y0c6) (.slice y0a7 y0n7 y0c7) 41).alloc (.cells #[.slice z0a0 z0n0 z0c0, .slice z0a1 z0n1 z0c1, .slice z0a2 z0n2 z0c2, .int .i64 z0i3, .int .i64 z0i4, .slice z0a5 z0n5 z0c5, .slice z0a6 z0n6 z0c6, .slice z0a7 z0n7 z0c7] 41)
    have e2 := r8_made (w.alloc (.cells #[.slice y0a0 y0n0 y0c0, .slice y0a1 y0n1 y0c1, .slice y0a2 y0n2 y0c2, .int .i64 y0i3, .int .i64 y0i4, .slice y0a5 y0n5 y0c5, .slice y0a6 y0n6 y0c6, .slice y0a7 y0n7 y0c7] 41)) (.slice z0a0 z0n0 z0c0) (.slice z0a1 z0n1 z0c1) (.slice z0a2 z0n2 z0c2) (.int .i64 z0i3) (.int .i64 z0i4) (.slice z0a5 z0n5 z0c5) (.slice z0a6 z0n6 z0c6) (.slice z0a7 z0n7 z0c7) 41
    rw [World.size_alloc] at e2
    exact ⟨e1, e2⟩
  have b0 : Hid (Below w.heap.size w ((w.alloc (.cells #[.slice y0a0 y0n0 y0c0, .slice y0a1 y0n1 y0c1, .slice y0a2 y0n2 y0c2, .int .i64 y0i3, .int .i64 y0i4, .slice y0a5 y0n5 y0c5, .slice y0a6 y0n6 y0c6, .slice y0a7 y0n7 y0c7] 41)).alloc (.cells #[.slice z0a0 z0n0 z0c0, .slice z0a1 z0n1 z0c1, .slice z0a2 z0n2 z0c2, .int .i64 z0i3, .int .i64 z0i4, .slice z0a5 z0n5 z0c5, .slice z0a6 z0n6 z0c6, .slice z0a7 z0n7 z0c7] 41))) := ((Below.refl _ _).alloc (Nat.le_refl _) _).alloc (by simp) _
  cases F1 with
  | false =>
    have e1 : Hid (R = false) := hR'.out.symm
    go_enter Tryz.func15, Tryz.ntmps15
    go_wp2_with (go_at_call 8; refine (k1.out _ b0.out).mono ?_; rintro e w1 ⟨a1, c1, rfl, o1, q1⟩; clear k1; have O1 : Hid (OB ((w.alloc (.cells #[.slice y0a0 y0n0 y0c0, .slice y0a1 y0n1 y0c1, .slice y0a2 y0n2 y0c2, .int .i64 y0i3, .int .i64 y0i4, .slice y0a5 y0n5 y0c5, .slice y0a6 y0n6 y0c6, .slice y0a7 y0n7 y0c7] 41)).alloc (.cells #[.slice z0a0 z0n0 z0c0, .slice z0a1 z0n1 z0c1, .slice z0a2 z0n2 z0c2, .int .i64 z0i3, .int .i64 z0i4, .slice z0a5 z0n5 z0c5, .slice z0a6 z0n6 z0c6, .slice z0a7 z0n7 z0c7] 41)).heap.size w1 a1 B1) := o1; have b1 : Hid (Below w.heap.size w w1) := b0.out.trans (q1.mono (by simp; omega)); have X1 : Hid (w1.rowIs (w.heap.size) 41 8 (R8 (.slice y0a0 y0n0 y0c0) (.slice y0a1 y0n1 y0c1) (.slice y0a2 y0n2 y0c2) (.int .i64 y0i3) (.int .i64 y0i4) (.slice y0a5 y0n5 y0c5) (.slice y0a6 y0n6 y0c6) (.slice y0a7 y0n7 y0c7)) ∧ w1.rowIs (w.heap.size + 1) 41 8 (R8 (.slice z0a0 z0n0 z0c0) (.slice z0a1 z0n1 z0c1) (.slice z0a2 z0n2 z0c2) (.int .i64 z0i3) (.int .i64 z0i4) (.slice z0a5 z0n5 z0c5) (.slice z0a6 z0n6 z0c6) (.slice z0a7 z0n7 z0c7))) := ⟨row_later X0.out.1 q1, row_later X0.out.2 q1⟩; clear o1 q1; obtain ⟨_, _, _, _, _, _, _, _⟩ := r8 X1.out.2)
    go_wp2_with (go_at_call 8; refine (k2.out _ b1.out).mono ?_; rintro e w2 ⟨a2, c2, rfl, o2, q2⟩; clear k2; have O2 : Hid (OB w1.heap.size w2 a2 B2) := o2; have b2 : Hid (Below w.heap.size w w2) := b1.out.trans (q2.mono b1.out.size); have O3 : Hid (OB ((w.alloc (.cells #[.slice y0a0 y0n0 y0c0, .slice y0a1 y0n1 y0c1, .slice y0a2 y0n2 y0c2, .int .i64 y0i3, .int .i64 y0i4, .slice y0a5 y0n5 y0c5, .slice y0a6 y0n6 y0c6, .slice y0a7 y0n7 y0c7] 41)).alloc (.cells #[.slice z0a0 z0n0 z0c0, .slice z0a1 z0n1 z0c1, .slice z0a2 z0n2 z0c2, .int .i64 z0i3, .int .i64 z0i4, .slice z0a5 z0n5 z0c5, .slice z0a6 z0n6 z0c6, .slice z0a7 z0n7 z0c7] 41)).heap.size w2 a1 B1) := O1.out.below q2; clear o2 q2; have v1' := conv_ob O3.out.rd c1; have v2' := conv_ob O2.out.rd c2; have v1 : Hid (_) := v1'; have v2 : Hid (_) := v2'; clear v1' v2')
    go_wp2_with fail
    go_ret
    exact ⟨by rw [e1.out]; rfl, b2.out⟩
  | true =>
    cases F2 with
    | false =>
      have e1 : Hid (R = false) := hR'.out.symm
      go_enter Tryz.func15, Tryz.ntmps15
      go_wp2_with (go_at_call 8; refine (k1.out _ b0.out).mono ?_; rintro e w1 ⟨a1, c1, rfl, o1, q1⟩; clear k1; have O1 : Hid (OB ((w.alloc (.cells #[.slice y0a0 y0n0 y0c0, .slice y0a1 y0n1 y0c1, .slice y0a2 y0n2 y0c2, .int .i64 y0i3, .int .i64 y0i4, .slice y0a5 y0n5 y0c5, .slice y0a6 y0n6 y0c6, .slice y0a7 y0n7 y0c7] 41)).alloc (.cells #[.slice z0a0 z0n0 z0c0, .slice z0a1 z0n1 z0c1, .slice z0a2 z0n2 z0c2, .int .i64 z0i3, .int .i64 z0i4, .slice z0a5 z0n5 z0c5, .slice z0a6 z0n6 z0c6, .slice z0a7 z0n7 z0c7] 41)).heap.size w1 a1 B1) := o1; have b1 : Hid (Below w.heap.size w w1) := b0.out.trans (q1.mono (by simp; omega)); have X1 : Hid (w1.rowIs (w.heap.size) 41 8 (R8 (.slice y0a0 y0n0 y0c0) (.slice y0a1 y0n1 y0c1) (.slice y0a2 y0n2 y0c2) (.int .i64 y0i3) (.int .i64 y0i4) (.slice y0a5 y0n5 y0c5) (.slice y0a6 y0n6 y0c6) (.slice y0a7 y0n7 y0c7)) ∧ w1.rowIs (w.heap.size + 1) 41 8 (R8 (.slice z0a0 z0n0 z0c0) (.slice z0a1 z0n1 z0c1) (.slice z0a2 z0n2 z0c2) (.int .i64 z0i3) (.int .i64 z0i4) (.slice z0a5 z0n5 z0c5) (.slice z0a6 z0n6 z0c6) (.slice z0a7 z0n7 z0c7))) := ⟨row_later X0.out.1 q1, row_later X0.out.2 q1⟩; clear o1 q1; obtain ⟨_, _, _, _, _, _, _, _⟩ := r8 X1.out.2)
      go_wp2_with (go_at_call 8; refine (k2.out _ b1.out).mono ?_; rintro e w2 ⟨a2, c2, rfl, o2, q2⟩; clear k2; have O2 : Hid (OB w1.heap.size w2 a2 B2) := o2; have b2 : Hid (Below w.heap.size w w2) := b1.out.trans (q2.mono b1.out.size); have O3 : Hid (OB ((w.alloc (.cells #[.slice y0a0 y0n0 y0c0, .slice y0a1 y0n1 y0c1, .slice y0a2 y0n2 y0c2, .int .i64 y0i3, .int .i64 y0i4, .slice y0a5 y0n5 y0c5, .slice y0a6 y0n6 y0c6, .slice y0a7 y0n7 y0c7] 41)).alloc (.cells #[.slice z0a0 z0n0 z0c0, .slice z0a1 z0n1 z0c1, .slice z0a2 z0n2 z0c2, .int .i64 z0i3, .int .i64 z0i4, .slice z0a5 z0n5 z0c5, .slice z0a6 z0n6 z0c6, .slice z0a7 z0n7 z0c7] 41)).heap.size w2 a1 B1) := O1.out.below q2; clear o2 q2; have v1' := conv_ob O3.out.rd c1; have v2' := conv_ob O2.out.rd c2; have v1 : Hid (_) := v1'; have v2 : Hid (_) := v2'; clear v1' v2')
      go_wp2_with fail
      go_ret
      exact ⟨by rw [e1.out]; rfl, b2.out⟩
    | true =>
      by_cases hB : B1 = B2
      · have e1 : Hid (R = true) := by show _ = _; rw [← hR'.out, decide_eq_true hB]; rfl
        have ht : Hid (tx B2 = tx B1) := by show _ = _; rw [hB]
        clear hB
        go_enter Tryz.func15, Tryz.ntmps15
        go_wp2_with (go_at_call 8; refine (k1.out _ b0.out).mono ?_; rintro e w1 ⟨a1, c1, rfl, o1, q1⟩; clear k1; have O1 : Hid (OB ((w.alloc (.cells #[.slice y0a0 y0n0 y0c0, .slice y0a1 y0n1 y0c1, .slice y0a2 y0n2 y0c2, .int .i64 y0i3, .int .i64 y0i4, .slice y0a5 y0n5 y0c5, .slice y0a6 y0n6 y0c6, .slice y0a7 y0n7 y0c7] 41)).alloc (.cells #[.slice z0a0 z0n0 z0c0, .slice z0a1 z0n1 z0c1, .slice z0a2 z0n2 z0c2, .int .i64 z0i3, .int .i64 z0i4, .slice z0a5 z0n5 z0c5, .slice z0a6 z0n6 z0c6, .slice z0a7 z0n7 z0c7] 41)).heap.size w1 a1 B1) := o1; have b1 : Hid (Below w.heap.size w w1) := b0.out.trans (q1.mono (by simp; omega)); have X1 : Hid (w1.rowIs (w.heap.size) 41 8 (R8 (.slice y0a0 y0n0 y0c0) (.slice y0a1 y0n1 y0c1) (.slice y0a2 y0n2 y0c2) (.int .i64 y0i3) (.int .i64 y0i4) (.slice y0a5 y0n5 y0c5) (.slice y0a6 y0n6 y0c6) (.slice y0a7 y0n7 y0c7)) ∧ w1.rowIs (w.heap.size + 1) 41 8 (R8 (.slice z0a0 z0n0 z0c0) (.slice z0a1 z0n1 z0c1) (.slice z0a2 z0n2 z0c2) (.int .i64 z0i3) (.int .i64 z0i4) (.slice z0a5 z0n5 z0c5) (.slice z0a6 z0n6 z0c6) (.slice z0a7 z0n7 z0c7))) := ⟨row_later X0.out.1 q1, row_later X0.out.2 q1⟩; clear o1 q1; obtain ⟨_, _, _, _, _, _, _, _⟩ := r8 X1.out.2)
        go_wp2_with (go_at_call 8; refine (k2.out _ b1.out).mono ?_; rintro e w2 ⟨a2, c2, rfl, o2, q2⟩; clear k2; have O2 : Hid (OB w1.heap.size w2 a2 B2) := o2; have b2 : Hid (Below w.heap.size w w2) := b1.out.trans (q2.mono b1.out.size); have O3 : Hid (OB ((w.alloc (.cells #[.slice y0a0 y0n0 y0c0, .slice y0a1 y0n1 y0c1, .slice y0a2 y0n2 y0c2, .int .i64 y0i3, .int .i64 y0i4, .slice y0a5 y0n5 y0c5, .slice y0a6 y0n6 y0c6, .slice y0a7 y0n7 y0c7] 41)).alloc (.cells #[.slice z0a0 z0n0 z0c0, .slice z0a1 z0n1 z0c1, .slice z0a2 z0n2 z0c2, .int .i64 z0i3, .int .i64 z0i4, .slice z0a5 z0n5 z0c5, .slice z0a6 z0n6 z0c6, .slice z0a7 z0n7 z0c7] 41)).heap.size w2 a1 B1) := O1.out.below q2; clear o2 q2; have v1' := conv_ob O3.out.rd c1; have v2' := conv_ob O2.out.rd c2; have v1 : Hid (_) := v1'; rw [ht.out] at v2'; have v2 : Hid (_) := v2'; clear v1' v2')
        have kE : Hid (Calls Tryz.prog 68 #[.slice a1 B1.length c1, .slice a2 B2.length c2] w2 fun e w' => e = .returned (.bool true) ∧ w2 = w') := (Tryz.bytes_Equal_strs _ _ _ _ w2 v1.out v2.out).mono fun e w' ⟨he, hw⟩ => ⟨by rw [he]; simp, hw.symm⟩
        clear v1 v2
        generalize tx B1 = S at *
        go_wp2_with (go_at_call 68; refine kE.out.mono ?_; rintro e u0 ⟨rfl, rfl⟩)
        go_ret
        exact ⟨by rw [e1.out]; simp, b2.out⟩
      · have e1 : Hid (R = false) := by show _ = _; rw [← hR'.out, decide_eq_false hB]; rfl
        have n3 := str_ne (fun e : tx B1 = tx B2 => hB (tx_inj e))
        clear hB
        go_enter Tryz.func15, Tryz.ntmps15
        go_wp2_with (go_at_call 8; refine (k1.out _ b0.out).mono ?_; rintro e w1 ⟨a1, c1, rfl, o1, q1⟩; clear k1; have O1 : Hid (OB ((w.alloc (.cells #[.slice y0a0 y0n0 y0c0, .slice y0a1 y0n1 y0c1, .slice y0a2 y0n2 y0c2, .int .i64 y0i3, .int .i64 y0i4, .slice y0a5 y0n5 y0c5, .slice y0a6 y0n6 y0c6, .slice y0a7 y0n7 y0c7] 41)).alloc (.cells #[.slice z0a0 z0n0 z0c0, .slice z0a1 z0n1 z0c1, .slice z0a2 z0n2 z0c2, .int .i64 z0i3, .int .i64 z0i4, .slice z0a5 z0n5 z0c5, .slice z0a6 z0n6 z0c6, .slice z0a7 z0n7 z0c7] 41)).heap.size w1 a1 B1) := o1; have b1 : Hid (Below w.heap.size w w1) := b0.out.trans (q1.mono (by simp; omega)); have X1 : Hid (w1.rowIs (w.heap.size) 41 8 (R8 (.slice y0a0 y0n0 y0c0) (.slice y0a1 y0n1 y0c1) (.slice y0a2 y0n2 y0c2) (.int .i64 y0i3) (.int .i64 y0i4) (.slice y0a5 y0n5 y0c5) (.slice y0a6 y0n6 y0c6) (.slice y0a7 y0n7 y0c7)) ∧ w1.rowIs (w.heap.size + 1) 41 8 (R8 (.slice z0a0 z0n0 z0c0) (.slice z0a1 z0n1 z0c1) (.slice z0a2 z0n2 z0c2) (.int .i64 z0i3) (.int .i64 z0i4) (.slice z0a5 z0n5 z0c5) (.slice z0a6 z0n6 z0c6) (.slice z0a7 z0n7 z0c7))) := ⟨row_later X0.out.1 q1, row_later X0.out.2 q1⟩; clear o1 q1; obtain ⟨_, _, _, _, _, _, _, _⟩ := r8 X1.out.2)
        go_wp2_with (go_at_call 8; refine (k2.out _ b1.out).mono ?_; rintro e w2 ⟨a2, c2, rfl, o2, q2⟩; clear k2; have O2 : Hid (OB w1.heap.size w2 a2 B2) := o2; have b2 : Hid (Below w.heap.size w w2) := b1.out.trans (q2.mono b1.out.size); have O3 : Hid (OB ((w.alloc (.cells #[.slice y0a0 y0n0 y0c0, .slice y0a1 y0n1 y0c1, .slice y0a2 y0n2 y0c2, .int .i64 y0i3, .int .i64 y0i4, .slice y0a5 y0n5 y0c5, .slice y0a6 y0n6 y0c6, .slice y0a7 y0n7 y0c7] 41)).alloc (.cells #[.slice z0a0 z0n0 z0c0, .slice z0a1 z0n1 z0c1, .slice z0a2 z0n2 z0c2, .int .i64 z0i3, .int .i64 z0i4, .slice z0a5 z0n5 z0c5, .slice z0a6 z0n6 z0c6, .slice z0a7 z0n7 z0c7] 41)).heap.size w2 a1 B1) := O1.out.below q2; clear o2 q2; have v1' := conv_ob O3.out.rd c1; have v2' := conv_ob O2.out.rd c2; have v1 : Hid (_) := v1'; have v2 : Hid (_) := v2'; clear v1' v2')
        have kE : Hid (Calls Tryz.prog 68 #[.slice a1 B1.length c1, .slice a2 B2.length c2] w2 fun e w' => e = .returned (.bool false) ∧ w2 = w') := (Tryz.bytes_Equal_strs _ _ _ _ w2 v1.out v2.out).mono fun e w' ⟨he, hw⟩ => ⟨by rw [he, n3], hw.symm⟩
        clear v1 v2
        generalize tx B1 = S at *
        generalize tx B2 = S2 at *
        go_wp2_with (go_at_call 68; refine kE.out.mono ?_; rintro e u0 ⟨rfl, rfl⟩)
        go_ret
        exact ⟨by rw [e1.out]; rfl, b2.out⟩
end Go.Proofs.YtffngjgjhialnaaGreatDoor.SameMod
