/-
  The exact law of ModuleBytes. (Written by my modblaw.py.)
-/
import Derived.Test.YtffngjgjhialnaaGreatDoorMarks
import Derived.Test.YtffngjgjhialnaaGreatDoorOwnBytes
import Derived.Test.YtffngjgjhialnaaGreatDoorSpecModAll
import Derived.Test.YtffngjgjhialnaaGreatDoorWrModule
namespace Go.Proofs.YtffngjgjhialnaaGreatDoor.ModBLaw
open Go.RowKit NameCalls InsMem FormCalls ModMem FormImpl FormLaw NumMem2 MarkMod MarkAll PlainShape CopyMark PlainNum NumCalls ByteMem PutU PutULaw OwnBytes PlainBytes WrMod WrParts WrSec ModB

/-- Two with the same contents, the second with an address for each Data's bytes. -/
def SameA (m m' : M) : Prop := Same m m' ∧ ∀ k, k < m'.dat.length → ∃ g off, (MemData.at1 m'.dat k).ad = some ⟨g, off, none⟩
theorem newM_ad (G D : Nat → Nat) (m : M) : SameA m (newM G D m) :=
  ⟨newM_same G D m, fun k hk => by
    have hk' : k < m.dat.length := by rw [← newD_len D m.dat]; exact hk
    exact ⟨D k, 0, by simp only [newM, newD_at D m.dat k hk']⟩⟩
theorem OB.mkR {B : Nat} {S : Nat → Prop} {W W' : World} {a : Option Addr} {bs : List UInt8} (h : OB B W a bs) (hm : MkR S W W') (hn : ∀ g, a = some ⟨g, 0, none⟩ → ¬ S g) : OB B W' a bs := by
  rcases h with h0 | ⟨g, ha, hg, hk⟩
  · exact .inl h0
  · exact .inr ⟨g, ha, hg, hk.of (hm.1.2.2.2.2 g hk.lt (hn g ha))⟩
theorem ansB {f : FuncId} {args : Array Value} {w : World} {F : Bool} {bs : List UInt8}
    (h : Calls Tryz.prog f args w fun e w' => ∃ v, e = .returned (.tuple #[v, .bool F]) ∧ PutU.Own w.heap.size w' v bs ∧ Below w.heap.size w w') :
    Calls Tryz.prog f args w fun e w' => ∃ a c, e = .returned (.tuple #[.slice a bs.length c, .bool F]) ∧ OB w.heap.size w' a bs ∧ Below w.heap.size w w' :=
  h.mono fun e w' ⟨v, he, ho, hb⟩ => by
    obtain ⟨a, c, rfl, hk⟩ := own_ob ho
    exact ⟨a, c, he, hk, hb⟩
theorem secB_le {id : UInt8} {n k : Nat} {b : List UInt8} (h : b.length ≤ k) : (secB id n b).length ≤ 21 + k := Nat.le_trans (secB_len id n b) (by omega)
theorem modB_len (m : M) : (modB m).length ≤ 2097152 := by
  unfold modB
  split
  · rename_i hf
    have g := good_of hf
    have h0 := secB_le (id := 1) (n := m.sigs.length) (FS_len g)
    have h1 := secB_le (id := 2) (n := m.imps.length) (FI_len g)
    have h2 := secB_le (id := 3) (n := m.fns.length) (FF_len g)
    have h3 := secB_le (id := 5) (n := mc m) (FM_len m)
    have h4 := secB_le (id := 6) (n := m.gls.length) (FG_len g)
    have h5 := secB_le (id := 7) (n := m.exs.length) (FE_len g)
    have h6 := secB_le (id := 10) (n := m.fns.length) (FB_len g)
    have h7 := secB_le (id := 11) (n := m.dat.length) (FD_len g)
    have hh : headB.length = 8 := rfl
    unfold allB
    simp only [List.length_append, secs, hh]
    omega
  · simp
theorem modB_same {m m' : M} (s : Same m m') : modB m' = modB m := by
  have e0 : FS m' = FS m := by funext k; unfold FS; rw [s.s0]
  have e1 : FI m' = FI m := by funext k; unfold FI; rw [s.s1]
  have e2 : catP (FF m') m.fns.length = catP (FF m) m.fns.length := catP_congr _ fun k hk => by unfold FF; rw [(s.s2 k hk).1]
  have e3 : FM m' = FM m := by funext k; unfold FM; rw [s.sp, s.sm]
  have em : mc m' = mc m := by unfold mc; rw [s.sp]
  have e4 : FG m' = FG m := by funext k; unfold FG; rw [s.s3]
  have e5 : FE m' = FE m := by funext k; unfold FE; rw [s.s4]
  have e6 : catP (FB m') m.fns.length = catP (FB m) m.fns.length := catP_congr _ fun k hk => by unfold FB; rw [(s.s2 k hk).2.1, (s.s2 k hk).2.2]
  have e7 : catP (FD m') m.dat.length = catP (FD m) m.dat.length := catP_congr _ fun k hk => by unfold FD dB; rw [(s.s5 k hk).1, (s.s5 k hk).2.1, (s.s5 k hk).2.2]
  unfold modB
  rw [formOk_same s]
  unfold allB
  simp only [secs, e0, e1, e3, em, e4, e5, s.s0, s.s1, s.n2, s.s3, s.s4, s.n5, e2, e6, e7]
/-- A module is copied: the copy can be read, and what lay there lies there still. -/
theorem copyMA (w u : World) (p : P) (m : M) (V : Value) (hV : V = val p m) (h : Rd w p m) (hs : Small m) (hb : Below w.heap.size w u) :
    Calls Tryz.prog 7 #[V] u fun e w' => ∃ xa0 xn0 xc0 xa1 xn1 xc1 xa2 xn2 xc2 xi3 xi4 xa5 xn5 xc5 xa6 xn6 xc6 xa7 xn7 xc7 p' m', e = .returned (.agg #[.slice xa0 xn0 xc0, .slice xa1 xn1 xc1, .slice xa2 xn2 xc2, .int .i64 xi3, .int .i64 xi4, .slice xa5 xn5 xc5, .slice xa6 xn6 xc6, .slice xa7 xn7 xc7]) ∧ Value.agg #[.slice xa0 xn0 xc0, .slice xa1 xn1 xc1, .slice xa2 xn2 xc2, .int .i64 xi3, .int .i64 xi4, .slice xa5 xn5 xc5, .slice xa6 xn6 xc6, .slice xa7 xn7 xc7] = val p' m' ∧ Rd w' p' m' ∧ SameA m m' ∧ Below u.heap.size u w' ∧ Below w.heap.size w w' := by
  subst hV
  exact (toM u p m (h.later hb) hs).mono fun _ _ ⟨_, _, _, _, _, _, G, D, he, hm, hb'⟩ => ⟨_, _, _, _, _, _, _, _, _, _, _, _, _, _, _, _, _, _, _, _, _, _, he, rfl, hm.rd, newM_ad G D m, hb', hb.trans (hb'.mono hb.size)⟩
/-- A module is copied, and the copy's parts can be marked. -/
theorem copyXA (w u : World) (p : P) (m : M) (V : Value) (hV : V = val p m) (h : Rd w p m) (hs : Small m) (hb : Below w.heap.size w u) :
    Calls Tryz.prog 7 #[V] u fun e w' => ∃ (g0 g1 g2 g3 g4 g5 n0 n1 n2 n3 n4 n5 : Nat) (pg mo : Int) (GG LL KK DD EE HH : Nat → Nat) (p' : P) (m' : M), e = .returned (.agg #[.slice (some ⟨g0, 0, none⟩) n0 n0, .slice (some ⟨g1, 0, none⟩) n1 n1, .slice (some ⟨g2, 0, none⟩) n2 n2, .int .i64 pg, .int .i64 mo, .slice (some ⟨g3, 0, none⟩) n3 n3, .slice (some ⟨g4, 0, none⟩) n4 n4, .slice (some ⟨g5, 0, none⟩) n5 n5]) ∧ Value.agg #[.slice (some ⟨g0, 0, none⟩) n0 n0, .slice (some ⟨g1, 0, none⟩) n1 n1, .slice (some ⟨g2, 0, none⟩) n2 n2, .int .i64 pg, .int .i64 mo, .slice (some ⟨g3, 0, none⟩) n3 n3, .slice (some ⟨g4, 0, none⟩) n4 n4, .slice (some ⟨g5, 0, none⟩) n5 n5] = val p' m' ∧ Rd w' p' m' ∧ SameA m m' ∧ (n0 ≤ 1048576 ∧ n1 ≤ 1048576 ∧ n2 ≤ 1048576 ∧ n3 ≤ 1048576 ∧ n4 ≤ 1048576 ∧ n5 ≤ 1048576) ∧ Parts u.heap.size w'.heap.size w' g0 g1 g2 g3 g4 g5 n0 n1 n2 n3 n4 n5 GG LL KK DD EE HH ∧ Below u.heap.size u w' := by
  subst hV
  refine (toM u p m (h.later hb) hs).mono fun e w' ⟨g0, g1, g2, g3, g4, g5, G, D, he, hm, hb'⟩ => ?_
  have hv : Value.agg #[.slice (some ⟨g0, 0, none⟩) m.sigs.length m.sigs.length, .slice (some ⟨g1, 0, none⟩) m.imps.length m.imps.length, .slice (some ⟨g2, 0, none⟩) m.fns.length m.fns.length, .int .i64 m.pages, .int .i64 m.most, .slice (some ⟨g3, 0, none⟩) m.gls.length m.gls.length, .slice (some ⟨g4, 0, none⟩) m.exs.length m.exs.length, .slice (some ⟨g5, 0, none⟩) m.dat.length m.dat.length] = val (newP m g0 g1 g2 g3 g4 g5) (newM G D m) := by
    simp [val, newP, newM, newF_len, newD_len]
  exact ⟨g0, g1, g2, g3, g4, g5, _, _, _, _, _, _, _, _, G, _, _, D, _, _, _, _, he.trans (by rw [hv]), hv, hm.rd, newM_ad G D m, ⟨hs.n0, hs.n1, hs.n2, hs.n3, hs.n4, hs.n5⟩, parts_of hm hs, hb'⟩
set_option maxRecDepth 20000 in
set_option maxHeartbeats 8000000 in
theorem fnExactModuleBytes (p : P) (m : M) (w : World) (h : Rd w p m) (hw : Wide m) (ht : Tab w) (hU : Utf w) :
    Calls Tryz.prog 3 #[val p m] w fun e w' => e = .returned (.bool true) ∧ Below w.heap.size w w' := by
  have hlen : (modB m).length ≤ 2097152 := modB_len m
  have ks : Hid (∀ u, Below w.heap.size w u → Calls Tryz.prog 5 #[val p m, .int .i64 1048576] u fun e w' => ∃ r : Int, e = .returned (.int .i64 r) ∧ r ≤ 1048576 ∧ -1 ≤ r ∧ (0 ≤ r → Small m) ∧ Below u.heap.size u w') := fun u hu => szM u p m 1048576 (h.later hu) hw (by omega) (by omega)
  have kc : Hid (∀ u, Small m → Below w.heap.size w u → Calls Tryz.prog 7 #[val p m] u fun e w' => ∃ xa0 xn0 xc0 xa1 xn1 xc1 xa2 xn2 xc2 xi3 xi4 xa5 xn5 xc5 xa6 xn6 xc6 xa7 xn7 xc7 p' m', e = .returned (.agg #[.slice xa0 xn0 xc0, .slice xa1 xn1 xc1, .slice xa2 xn2 xc2, .int .i64 xi3, .int .i64 xi4, .slice xa5 xn5 xc5, .slice xa6 xn6 xc6, .slice xa7 xn7 xc7]) ∧ Value.agg #[.slice xa0 xn0 xc0, .slice xa1 xn1 xc1, .slice xa2 xn2 xc2, .int .i64 xi3, .int .i64 xi4, .slice xa5 xn5 xc5, .slice xa6 xn6 xc6, .slice xa7 xn7 xc7] = val p' m' ∧ Rd w' p' m' ∧ SameA m m' ∧ Below u.heap.size u w' ∧ Below w.heap.size w w') := fun u hs hb => copyMA w u p m _ rfl h hs hb
  have kx : Hid (∀ u, Small m → Below w.heap.size w u → Calls Tryz.prog 7 #[val p m] u fun e w' => ∃ (g0 g1 g2 g3 g4 g5 n0 n1 n2 n3 n4 n5 : Nat) (pg mo : Int) (GG LL KK DD EE HH : Nat → Nat) (p' : P) (m' : M), e = .returned (.agg #[.slice (some ⟨g0, 0, none⟩) n0 n0, .slice (some ⟨g1, 0, none⟩) n1 n1, .slice (some ⟨g2, 0, none⟩) n2 n2, .int .i64 pg, .int .i64 mo, .slice (some ⟨g3, 0, none⟩) n3 n3, .slice (some ⟨g4, 0, none⟩) n4 n4, .slice (some ⟨g5, 0, none⟩) n5 n5]) ∧ Value.agg #[.slice (some ⟨g0, 0, none⟩) n0 n0, .slice (some ⟨g1, 0, none⟩) n1 n1, .slice (some ⟨g2, 0, none⟩) n2 n2, .int .i64 pg, .int .i64 mo, .slice (some ⟨g3, 0, none⟩) n3 n3, .slice (some ⟨g4, 0, none⟩) n4 n4, .slice (some ⟨g5, 0, none⟩) n5 n5] = val p' m' ∧ Rd w' p' m' ∧ SameA m m' ∧ (n0 ≤ 1048576 ∧ n1 ≤ 1048576 ∧ n2 ≤ 1048576 ∧ n3 ≤ 1048576 ∧ n4 ≤ 1048576 ∧ n5 ≤ 1048576) ∧ Parts u.heap.size w'.heap.size w' g0 g1 g2 g3 g4 g5 n0 n1 n2 n3 n4 n5 GG LL KK DD EE HH ∧ Below u.heap.size u w') := fun u hs hb => copyXA w u p m _ rfl h hs hb
  have kS : Hid (∀ u V p' m', V = val p' m' → Small m → SameA m m' → Rd u p' m' → Calls Tryz.prog 6 #[V] u fun e w' => ∃ a c, e = .returned (.tuple #[.slice a (modB m).length c, .bool (formOk m)]) ∧ OB u.heap.size w' a (modB m) ∧ Below u.heap.size u w') := fun u V p' m' hv hs s hr => by
    rw [← modB_same s.1, ← formOk_same s.1, hv]
    exact ansB (SpecModB.spec_moduleBytes u p' m' hr (hs.same s.1) s.2)
  have kI : Hid (∀ u V p' m', V = val p' m' → Small m → SameA m m' → Rd u p' m' → Below w.heap.size w u → Calls Tryz.prog 8 #[V] u fun e w' => ∃ a c, e = .returned (.tuple #[.slice a (modB m).length c, .bool (formOk m)]) ∧ OB u.heap.size w' a (modB m) ∧ Below u.heap.size u w') := fun u V p' m' hv hs s hr hb => by
    rw [← modB_same s.1, ← formOk_same s.1, hv]
    exact ansB (WrModule.impl_moduleBytes u p' m' hr (hs.same s.1) s.2 (ht.later hb) (UtfLaw.tabs_later hU hb))
  have kE : Hid (∀ u V V' p p' m m', V = val p m → V' = val p' m' → Rd u p m → Rd u p' m' → Same m m' → Small m → Calls Tryz.prog 10 #[V, V'] u fun e w' => e = .returned (.bool true) ∧ Below u.heap.size u w') := fun u V V' p p' m m' hv hv' h h' s hs => by
    rw [hv, hv']
    exact eqM u p p' m m' h h' s hs
  clear h hw ht hU
  generalize modB m = R at *
  generalize formOk m = F at *
  have eI : Hid (∀ u a a' c c', PutU.RdB u a R → PutU.RdB u a' R → Calls Tryz.prog 9 #[.slice a R.length c, .slice a' R.length c'] u fun e w' => e = .returned (.bool true) ∧ Below u.heap.size u w') := fun u a a' c c' r r' => (eqByteS u a a' R.length c c' _ _ r r' (by omega) fun _ _ => rfl).mono fun e w' ⟨he, k, hk⟩ => ⟨he, by rw [hk]; exact below_dn u k⟩
  have kM : Hid (∀ u a c, ByteMem.Wt u a R.length → Calls Tryz.prog 12 #[.slice a R.length c, .int .i64 1] u fun e w' => e = .returned (.int .i64 (1 + R.length)) ∧ ByteMem.Rd w' a R.length (fun j => (1 + (j : Int)) % 256) ∧ ByteMem.Only u w' a) := fun u a c hwt => markByteS u a R.length c 1 hwt (by omega) (by omega) (by omega)
  have kH : Hid (∀ u a c, ByteMem.Rd u a R.length (fun j => (1 + (j : Int)) % 256) → Calls Tryz.prog 13 #[.slice a R.length c, .int .i64 1] u fun e w' => e = .returned (.int .i64 (1 + R.length)) ∧ u = w') := fun u a c hr => heldByteS u a R.length c 1 hr (by omega) (by omega) (by omega)
  obtain ⟨y0a0, y0n0, y0c0, y0a1, y0n1, y0c1, y0a2, y0n2, y0c2, y0i3, y0i4, y0a5, y0n5, y0c5, y0a6, y0n6, y0c6, y0a7, y0n7, y0c7, hv⟩ := val_agg p m
  rw [hv] at ks kc kx ⊢
  clear hv
  have T0 : Hid (TS w (w.alloc (.cells #[.slice y0a0 y0n0 y0c0, .slice y0a1 y0n1 y0c1, .slice y0a2 y0n2 y0c2, .int .i64 y0i3, .int .i64 y0i4, .slice y0a5 y0n5 y0c5, .slice y0a6 y0n6 y0c6, .slice y0a7 y0n7 y0c7] 29)) (.slice y0a0 y0n0 y0c0) (.slice y0a1 y0n1 y0c1) (.slice y0a2 y0n2 y0c2) (.int .i64 y0i3) (.int .i64 y0i4) (.slice y0a5 y0n5 y0c5) (.slice y0a6 y0n6 y0c6) (.slice y0a7 y0n7 y0c7)) := ⟨r8_made w _ _ _ _ _ _ _ _ _, (Below.refl _ _).alloc (Nat.le_refl _) _⟩
  go_enter Tryz.func3, Tryz.ntmps3
  go_wp2_with (go_at_call 5; refine (ks.out _ T0.out.bl).mono ?_; rintro e w1 ⟨r, rfl, r1, r2, r3, q1⟩; have r3' : Hid (0 ≤ r → Small m) := r3; clear r3; have T1 : Hid (TS w w1 (.slice y0a0 y0n0 y0c0) (.slice y0a1 y0n1 y0c1) (.slice y0a2 y0n2 y0c2) (.int .i64 y0i3) (.int .i64 y0i4) (.slice y0a5 y0n5 y0c5) (.slice y0a6 y0n6 y0c6) (.slice y0a7 y0n7 y0c7)) := T0.out.call q1; obtain ⟨_, _, _, _, _, _, _, _⟩ := r8 T1.out.ra)
  · go_ret
    exact ⟨rfl, T1.out.bl⟩
  · have hs : Hid (Small m) := r3'.out (by omega)
    clear r3'
    go_wp2_with (go_at_call 7; refine (kc.out _ hs.out T1.out.bl).mono ?_; rintro e w2 ⟨y2a0, y2n0, y2c0, y2a1, y2n1, y2c1, y2a2, y2n2, y2c2, y2i3, y2i4, y2a5, y2n5, y2c5, y2a6, y2n6, y2c6, y2a7, y2n7, y2c7, p2, m2, rfl, v2', h2', s2', q2, _⟩; have v2 : Hid (Value.agg #[.slice y2a0 y2n0 y2c0, .slice y2a1 y2n1 y2c1, .slice y2a2 y2n2 y2c2, .int .i64 y2i3, .int .i64 y2i4, .slice y2a5 y2n5 y2c5, .slice y2a6 y2n6 y2c6, .slice y2a7 y2n7 y2c7] = val p2 m2) := v2'; have h2 : Hid (Rd w2 p2 m2) := h2'; have s2 : Hid (SameA m m2) := s2'; clear v2' h2' s2'; have T2 : Hid (TS w w2 (.slice y0a0 y0n0 y0c0) (.slice y0a1 y0n1 y0c1) (.slice y0a2 y0n2 y0c2) (.int .i64 y0i3) (.int .i64 y0i4) (.slice y0a5 y0n5 y0c5) (.slice y0a6 y0n6 y0c6) (.slice y0a7 y0n7 y0c7)) := T1.out.call q2)
    go_wp2_with (go_at_call 6; refine (kS.out _ _ p2 m2 v2.out hs.out s2.out h2.out).mono ?_; rintro e w3 ⟨a0, cp0, rfl, o3, q3⟩; have O3 : Hid (OB w2.heap.size w3 a0 R) := o3; clear o3; have T3 : Hid (TS w w3 (.slice y0a0 y0n0 y0c0) (.slice y0a1 y0n1 y0c1) (.slice y0a2 y0n2 y0c2) (.int .i64 y0i3) (.int .i64 y0i4) (.slice y0a5 y0n5 y0c5) (.slice y0a6 y0n6 y0c6) (.slice y0a7 y0n7 y0c7)) := T2.out.call q3; obtain ⟨_, _, _, _, _, _, _, _⟩ := r8 T3.out.ra)
    go_wp2_with (go_at_call 7; refine (kx.out _ hs.out T3.out.bl).mono ?_; rintro e w4 ⟨g0, g1, g2, g3, g4, g5, n0, n1, n2, n3, n4, n5, pg, mo, GG, LL, KK, DD, EE, HH, p4, m4, rfl, v4', h4', s4', z4, P4', q4⟩; have v4 : Hid (Value.agg #[.slice (some ⟨g0, 0, none⟩) n0 n0, .slice (some ⟨g1, 0, none⟩) n1 n1, .slice (some ⟨g2, 0, none⟩) n2 n2, .int .i64 pg, .int .i64 mo, .slice (some ⟨g3, 0, none⟩) n3 n3, .slice (some ⟨g4, 0, none⟩) n4 n4, .slice (some ⟨g5, 0, none⟩) n5 n5] = val p4 m4) := v4'; have h4 : Hid (Rd w4 p4 m4) := h4'; have s4 : Hid (SameA m m4) := s4'; have Z4 : Hid (n0 ≤ 1048576 ∧ n1 ≤ 1048576 ∧ n2 ≤ 1048576 ∧ n3 ≤ 1048576 ∧ n4 ≤ 1048576 ∧ n5 ≤ 1048576) := z4; have P4 : Hid (Parts w3.heap.size w4.heap.size w4 g0 g1 g2 g3 g4 g5 n0 n1 n2 n3 n4 n5 GG LL KK DD EE HH) := P4'; clear v4' h4' s4' z4 P4'; have T4 : Hid (TS w w4 (.slice y0a0 y0n0 y0c0) (.slice y0a1 y0n1 y0c1) (.slice y0a2 y0n2 y0c2) (.int .i64 y0i3) (.int .i64 y0i4) (.slice y0a5 y0n5 y0c5) (.slice y0a6 y0n6 y0c6) (.slice y0a7 y0n7 y0c7)) := T3.out.call q4; have A4 : Hid (Below w4.heap.size w4 (w4.alloc (.cells #[.slice (some ⟨g0, 0, none⟩) n0 n0, .slice (some ⟨g1, 0, none⟩) n1 n1, .slice (some ⟨g2, 0, none⟩) n2 n2, .int .i64 pg, .int .i64 mo, .slice (some ⟨g3, 0, none⟩) n3 n3, .slice (some ⟨g4, 0, none⟩) n4 n4, .slice (some ⟨g5, 0, none⟩) n5 n5] 41))) := (Below.refl _ _).alloc (Nat.le_refl _) _; have X4 : Hid ((w4.alloc (.cells #[.slice (some ⟨g0, 0, none⟩) n0 n0, .slice (some ⟨g1, 0, none⟩) n1 n1, .slice (some ⟨g2, 0, none⟩) n2 n2, .int .i64 pg, .int .i64 mo, .slice (some ⟨g3, 0, none⟩) n3 n3, .slice (some ⟨g4, 0, none⟩) n4 n4, .slice (some ⟨g5, 0, none⟩) n5 n5] 41)).rowIs w4.heap.size 41 8 (R8 (.slice (some ⟨g0, 0, none⟩) n0 n0) (.slice (some ⟨g1, 0, none⟩) n1 n1) (.slice (some ⟨g2, 0, none⟩) n2 n2) (.int .i64 pg) (.int .i64 mo) (.slice (some ⟨g3, 0, none⟩) n3 n3) (.slice (some ⟨g4, 0, none⟩) n4 n4) (.slice (some ⟨g5, 0, none⟩) n5 n5))) := r8_made w4 _ _ _ _ _ _ _ _ _; have O4 : Hid (OB w2.heap.size w4 a0 R) := O3.out.below q4)
    go_wp2_with (go_at_call 8; refine (kI.out _ _ p4 m4 v4.out hs.out s4.out (h4.out.later A4.out) (T4.out.call A4.out).bl).mono ?_; rintro e w5 ⟨a5, cp5, rfl, o5, q5⟩; have O5 : Hid (OB (w4.alloc (.cells #[.slice (some ⟨g0, 0, none⟩) n0 n0, .slice (some ⟨g1, 0, none⟩) n1 n1, .slice (some ⟨g2, 0, none⟩) n2 n2, .int .i64 pg, .int .i64 mo, .slice (some ⟨g3, 0, none⟩) n3 n3, .slice (some ⟨g4, 0, none⟩) n4 n4, .slice (some ⟨g5, 0, none⟩) n5 n5] 41)).heap.size w5 a5 R) := o5; clear o5; have T5 : Hid (TS w w5 (.slice y0a0 y0n0 y0c0) (.slice y0a1 y0n1 y0c1) (.slice y0a2 y0n2 y0c2) (.int .i64 y0i3) (.int .i64 y0i4) (.slice y0a5 y0n5 y0c5) (.slice y0a6 y0n6 y0c6) (.slice y0a7 y0n7 y0c7)) := (T4.out.call A4.out).call q5; have X5 : Hid (w5.rowIs w4.heap.size 41 8 (R8 (.slice (some ⟨g0, 0, none⟩) n0 n0) (.slice (some ⟨g1, 0, none⟩) n1 n1) (.slice (some ⟨g2, 0, none⟩) n2 n2) (.int .i64 pg) (.int .i64 mo) (.slice (some ⟨g3, 0, none⟩) n3 n3) (.slice (some ⟨g4, 0, none⟩) n4 n4) (.slice (some ⟨g5, 0, none⟩) n5 n5))) := row_later X4.out q5; have h5 : Hid (Rd w5 p4 m4) := (h4.out.later A4.out).later q5; have P5 : Hid (Parts w3.heap.size w4.heap.size w5 g0 g1 g2 g3 g4 g5 n0 n1 n2 n3 n4 n5 GG LL KK DD EE HH) := (P4.out.later A4.out).later q5; have N5 : Hid (OB w2.heap.size w5 a0 R) := (O4.out.below A4.out).below q5; obtain ⟨_, _, _, _, _, _, _, _⟩ := r8 T5.out.ra; obtain ⟨_, _, _, _, _, _, _, _⟩ := r8 X5.out)
    go_wp2_with (go_at_call 9; refine (eI.out _ _ _ _ _ O5.out.rd N5.out.rd).mono ?_; rintro e w6 ⟨rfl, q6⟩; have T6 : Hid (TS w w6 (.slice y0a0 y0n0 y0c0) (.slice y0a1 y0n1 y0c1) (.slice y0a2 y0n2 y0c2) (.int .i64 y0i3) (.int .i64 y0i4) (.slice y0a5 y0n5 y0c5) (.slice y0a6 y0n6 y0c6) (.slice y0a7 y0n7 y0c7)) := T5.out.call q6; have X6 : Hid (w6.rowIs w4.heap.size 41 8 (R8 (.slice (some ⟨g0, 0, none⟩) n0 n0) (.slice (some ⟨g1, 0, none⟩) n1 n1) (.slice (some ⟨g2, 0, none⟩) n2 n2) (.int .i64 pg) (.int .i64 mo) (.slice (some ⟨g3, 0, none⟩) n3 n3) (.slice (some ⟨g4, 0, none⟩) n4 n4) (.slice (some ⟨g5, 0, none⟩) n5 n5))) := row_later X5.out q6; obtain ⟨_, _, _, _, _, _, _, _⟩ := r8 T6.out.ra; obtain ⟨_, _, _, _, _, _, _, _⟩ := r8 X6.out)
    have D6 : Hid (Below w6.heap.size w6 w6.drew) := (Below.refl _ _).drew
    have T6d : Hid (TS w w6.drew (.slice y0a0 y0n0 y0c0) (.slice y0a1 y0n1 y0c1) (.slice y0a2 y0n2 y0c2) (.int .i64 y0i3) (.int .i64 y0i4) (.slice y0a5 y0n5 y0c5) (.slice y0a6 y0n6 y0c6) (.slice y0a7 y0n7 y0c7)) := T6.out.call D6.out
    have X6d : Hid (w6.drew.rowIs w4.heap.size 41 8 (R8 (.slice (some ⟨g0, 0, none⟩) n0 n0) (.slice (some ⟨g1, 0, none⟩) n1 n1) (.slice (some ⟨g2, 0, none⟩) n2 n2) (.int .i64 pg) (.int .i64 mo) (.slice (some ⟨g3, 0, none⟩) n3 n3) (.slice (some ⟨g4, 0, none⟩) n4 n4) (.slice (some ⟨g5, 0, none⟩) n5 n5))) := row_later X6.out D6.out
    go_region_held (fun w' => w'.cell? ⟨w.heap.size, 0, none⟩ = some (.slice y0a0 y0n0 y0c0) ∧ w'.cell? ⟨w.heap.size, 1, none⟩ = some (.slice y0a1 y0n1 y0c1) ∧ w'.cell? ⟨w.heap.size, 2, none⟩ = some (.slice y0a2 y0n2 y0c2) ∧ w'.cell? ⟨w.heap.size, 3, none⟩ = some (.int .i64 y0i3) ∧ w'.cell? ⟨w.heap.size, 4, none⟩ = some (.int .i64 y0i4) ∧ w'.cell? ⟨w.heap.size, 5, none⟩ = some (.slice y0a5 y0n5 y0c5) ∧ w'.cell? ⟨w.heap.size, 6, none⟩ = some (.slice y0a6 y0n6 y0c6) ∧ w'.cell? ⟨w.heap.size, 7, none⟩ = some (.slice y0a7 y0n7 y0c7) ∧ w'.cell? ⟨w4.heap.size, 0, none⟩ = some (.slice (some ⟨g0, 0, none⟩) n0 n0) ∧ w'.cell? ⟨w4.heap.size, 1, none⟩ = some (.slice (some ⟨g1, 0, none⟩) n1 n1) ∧ w'.cell? ⟨w4.heap.size, 2, none⟩ = some (.slice (some ⟨g2, 0, none⟩) n2 n2) ∧ w'.cell? ⟨w4.heap.size, 3, none⟩ = some (.int .i64 pg) ∧ w'.cell? ⟨w4.heap.size, 4, none⟩ = some (.int .i64 mo) ∧ w'.cell? ⟨w4.heap.size, 5, none⟩ = some (.slice (some ⟨g3, 0, none⟩) n3 n3) ∧ w'.cell? ⟨w4.heap.size, 6, none⟩ = some (.slice (some ⟨g4, 0, none⟩) n4 n4) ∧ w'.cell? ⟨w4.heap.size, 7, none⟩ = some (.slice (some ⟨g5, 0, none⟩) n5 n5)) (go_keep)
      (first | (go_at_call 7; refine (kc.out _ hs.out T6d.out.bl).mono ?_; rintro e w7 ⟨y7a0, y7n0, y7c0, y7a1, y7n1, y7c1, y7a2, y7n2, y7c2, y7i3, y7i4, y7a5, y7n5, y7c5, y7a6, y7n6, y7c6, y7a7, y7n7, y7c7, p7, m7, rfl, v7', h7', s7', q7, _⟩; have v7 : Hid (Value.agg #[.slice y7a0 y7n0 y7c0, .slice y7a1 y7n1 y7c1, .slice y7a2 y7n2 y7c2, .int .i64 y7i3, .int .i64 y7i4, .slice y7a5 y7n5 y7c5, .slice y7a6 y7n6 y7c6, .slice y7a7 y7n7 y7c7] = val p7 m7) := v7'; have h7 : Hid (Rd w7 p7 m7) := h7'; have s7 : Hid (SameA m m7) := s7'; clear v7' h7' s7'; have T7 : Hid (TS w w7 (.slice y0a0 y0n0 y0c0) (.slice y0a1 y0n1 y0c1) (.slice y0a2 y0n2 y0c2) (.int .i64 y0i3) (.int .i64 y0i4) (.slice y0a5 y0n5 y0c5) (.slice y0a6 y0n6 y0c6) (.slice y0a7 y0n7 y0c7)) := T6d.out.call q7; have X7 : Hid (w7.rowIs w4.heap.size 41 8 (R8 (.slice (some ⟨g0, 0, none⟩) n0 n0) (.slice (some ⟨g1, 0, none⟩) n1 n1) (.slice (some ⟨g2, 0, none⟩) n2 n2) (.int .i64 pg) (.int .i64 mo) (.slice (some ⟨g3, 0, none⟩) n3 n3) (.slice (some ⟨g4, 0, none⟩) n4 n4) (.slice (some ⟨g5, 0, none⟩) n5 n5))) := row_later X6d.out q7; obtain ⟨_, _, _, _, _, _, _, _⟩ := r8 X7.out; obtain ⟨_, _, _, _, _, _, _, _⟩ := r8 T7.out.ra) | (go_at_call 10; refine (kE.out _ _ _ p4 p7 m4 m7 v4.out v7.out (((h5.out.later q6).later D6.out).later q7) h7.out (s4.out.1.symm.trans s7.out.1) (hs.out.same s4.out.1)).mono ?_; rintro e w8 ⟨rfl, q8⟩; have X8 : Hid (w8.rowIs w4.heap.size 41 8 (R8 (.slice (some ⟨g0, 0, none⟩) n0 n0) (.slice (some ⟨g1, 0, none⟩) n1 n1) (.slice (some ⟨g2, 0, none⟩) n2 n2) (.int .i64 pg) (.int .i64 mo) (.slice (some ⟨g3, 0, none⟩) n3 n3) (.slice (some ⟨g4, 0, none⟩) n4 n4) (.slice (some ⟨g5, 0, none⟩) n5 n5))) := row_later X7.out q8; obtain ⟨_, _, _, _, _, _, _, _⟩ := r8 X8.out; have T8 : Hid (TS w w8 (.slice y0a0 y0n0 y0c0) (.slice y0a1 y0n1 y0c1) (.slice y0a2 y0n2 y0c2) (.int .i64 y0i3) (.int .i64 y0i4) (.slice y0a5 y0n5 y0c5) (.slice y0a6 y0n6 y0c6) (.slice y0a7 y0n7 y0c7)) := T7.out.call q8; obtain ⟨_, _, _, _, _, _, _, _⟩ := r8 T8.out.ra))
    have P8 : Hid (Parts w3.heap.size w4.heap.size w8 g0 g1 g2 g3 g4 g5 n0 n1 n2 n3 n4 n5 GG LL KK DD EE HH) := (((P5.out.later q6).later D6.out).later q7).later q8
    have O8 : Hid (OB (w4.alloc (.cells #[.slice (some ⟨g0, 0, none⟩) n0 n0, .slice (some ⟨g1, 0, none⟩) n1 n1, .slice (some ⟨g2, 0, none⟩) n2 n2, .int .i64 pg, .int .i64 mo, .slice (some ⟨g3, 0, none⟩) n3 n3, .slice (some ⟨g4, 0, none⟩) n4 n4, .slice (some ⟨g5, 0, none⟩) n5 n5] 41)).heap.size w8 a5 R) := (((O5.out.below q6).below D6.out).below q7).below q8
    have N8 : Hid (OB w2.heap.size w8 a0 R) := (((N5.out.below q6).below D6.out).below q7).below q8
    have C8 : Hid (w4.heap.size ≤ w8.heap.size) := by
      have a4 := A4.out.size
      have a6 := q6.size
      have a5 := q5.size
      have a7 := q7.size
      have a8 := q8.size
      have ad := D6.out.size
      show _ ≤ _
      omega
    have L3 : Hid (w.heap.size < w3.heap.size) := T3.out.ra.lt
    have A0 : Hid (∀ g, a0 = some ⟨g, 0, none⟩ → g < w3.heap.size) := fun g hg => (O3.out.lt _ hg).2
    have A5 : Hid (∀ q, a5 = some q → w4.heap.size < q.block) := fun q hq => by
      have := (O5.out.lt q hq).1
      rw [World.size_alloc] at this
      show _ < _
      omega
    have L4 : Hid (w3.heap.size ≤ w4.heap.size) := q4.size
    have kMM : Hid (Calls Tryz.prog 11 #[.agg #[.slice (some ⟨g0, 0, none⟩) n0 n0, .slice (some ⟨g1, 0, none⟩) n1 n1, .slice (some ⟨g2, 0, none⟩) n2 n2, .int .i64 pg, .int .i64 mo, .slice (some ⟨g3, 0, none⟩) n3 n3, .slice (some ⟨g4, 0, none⟩) n4 n4, .slice (some ⟨g5, 0, none⟩) n5 n5], .int .i64 1] w8 fun e w' => ∃ r : Int, e = .returned (.int .i64 r) ∧ 1 ≤ r ∧ MkR (fun k => w3.heap.size ≤ k ∧ k < w4.heap.size) w8 w') := markM w3.heap.size w4.heap.size w8 g0 g1 g2 g3 g4 g5 n0 n1 n2 n3 n4 n5 n0 n1 n2 n3 n4 n5 pg mo GG LL KK DD EE HH P8.out C8.out Z4.out.1 Z4.out.2.1 Z4.out.2.2.1 Z4.out.2.2.2.1 Z4.out.2.2.2.2.1 Z4.out.2.2.2.2.2
    go_wp2_with (go_at_call 11; refine kMM.out.mono ?_; rintro e w9 ⟨r9, rfl, hr9, m9⟩; clear kMM; have M9 : Hid (MkR (fun k => w3.heap.size ≤ k ∧ k < w4.heap.size) w8 w9) := m9; clear m9; have T9 : Hid (TS w w9 (.slice y0a0 y0n0 y0c0) (.slice y0a1 y0n1 y0c1) (.slice y0a2 y0n2 y0c2) (.int .i64 y0i3) (.int .i64 y0i4) (.slice y0a5 y0n5 y0c5) (.slice y0a6 y0n6 y0c6) (.slice y0a7 y0n7 y0c7)) := TS.mkR T8.out M9.out (fun k hk x => by have := L3.out; omega); have O9 : Hid (OB (w4.alloc (.cells #[.slice (some ⟨g0, 0, none⟩) n0 n0, .slice (some ⟨g1, 0, none⟩) n1 n1, .slice (some ⟨g2, 0, none⟩) n2 n2, .int .i64 pg, .int .i64 mo, .slice (some ⟨g3, 0, none⟩) n3 n3, .slice (some ⟨g4, 0, none⟩) n4 n4, .slice (some ⟨g5, 0, none⟩) n5 n5] 41)).heap.size w9 a5 R) := OB.mkR O8.out M9.out (fun g hg x => by have := A5.out _ hg; simp at this; omega); have N9 : Hid (OB w2.heap.size w9 a0 R) := OB.mkR N8.out M9.out (fun g hg x => by have := A0.out g hg; omega))
    go_wp2_with (go_at_call 9; refine (eI.out _ _ _ _ _ O9.out.rd N9.out.rd).mono ?_; rintro e w10 ⟨rfl, q10⟩; have T10 : Hid (TS w w10 (.slice y0a0 y0n0 y0c0) (.slice y0a1 y0n1 y0c1) (.slice y0a2 y0n2 y0c2) (.int .i64 y0i3) (.int .i64 y0i4) (.slice y0a5 y0n5 y0c5) (.slice y0a6 y0n6 y0c6) (.slice y0a7 y0n7 y0c7)) := T9.out.call q10; have O10 : Hid (OB (w4.alloc (.cells #[.slice (some ⟨g0, 0, none⟩) n0 n0, .slice (some ⟨g1, 0, none⟩) n1 n1, .slice (some ⟨g2, 0, none⟩) n2 n2, .int .i64 pg, .int .i64 mo, .slice (some ⟨g3, 0, none⟩) n3 n3, .slice (some ⟨g4, 0, none⟩) n4 n4, .slice (some ⟨g5, 0, none⟩) n5 n5] 41)).heap.size w10 a5 R) := O9.out.below q10; have N10 : Hid (OB w2.heap.size w10 a0 R) := N9.out.below q10)
    go_wp2_with (go_at_call 12; refine (kM.out _ _ _ O10.out.wt).mono ?_; rintro e w11 ⟨rfl, r11, o11⟩; have R11 : Hid (ByteMem.Rd w11 a5 R.length (fun j => (1 + (j : Int)) % 256)) := r11; have U11 : Hid (ByteMem.Only w10 w11 a5) := o11; clear r11 o11; have T11 : Hid (TS w w11 (.slice y0a0 y0n0 y0c0) (.slice y0a1 y0n1 y0c1) (.slice y0a2 y0n2 y0c2) (.int .i64 y0i3) (.int .i64 y0i4) (.slice y0a5 y0n5 y0c5) (.slice y0a6 y0n6 y0c6) (.slice y0a7 y0n7 y0c7)) := TS.only T10.out U11.out (fun q hq => by have := A5.out q hq; have := L3.out; have := L4.out; omega); have N11 : Hid (OB w2.heap.size w11 a0 R) := N10.out.only U11.out (fun q q' hq hq' => by have := (O3.out.lt q hq).2; have := A5.out q' hq'; have := L4.out; omega))
    go_wp2_with (go_at_call 13; refine (kH.out _ _ _ R11.out).mono ?_; rintro e w' ⟨rfl, rfl⟩; obtain ⟨_, _, _, _, _, _, _, _⟩ := r8 T11.out.ra)
    go_wp2_with (go_at_call 7; refine (kc.out _ hs.out T11.out.bl).mono ?_; rintro e w12 ⟨y12a0, y12n0, y12c0, y12a1, y12n1, y12c1, y12a2, y12n2, y12c2, y12i3, y12i4, y12a5, y12n5, y12c5, y12a6, y12n6, y12c6, y12a7, y12n7, y12c7, p12, m12, rfl, v12', h12', s12', q12, _⟩; have v12 : Hid (Value.agg #[.slice y12a0 y12n0 y12c0, .slice y12a1 y12n1 y12c1, .slice y12a2 y12n2 y12c2, .int .i64 y12i3, .int .i64 y12i4, .slice y12a5 y12n5 y12c5, .slice y12a6 y12n6 y12c6, .slice y12a7 y12n7 y12c7] = val p12 m12) := v12'; have h12 : Hid (Rd w12 p12 m12) := h12'; have s12 : Hid (SameA m m12) := s12'; clear v12' h12' s12'; have T12 : Hid (TS w w12 (.slice y0a0 y0n0 y0c0) (.slice y0a1 y0n1 y0c1) (.slice y0a2 y0n2 y0c2) (.int .i64 y0i3) (.int .i64 y0i4) (.slice y0a5 y0n5 y0c5) (.slice y0a6 y0n6 y0c6) (.slice y0a7 y0n7 y0c7)) := T11.out.call q12)
    go_wp2_with (go_at_call 8; refine (kI.out _ _ p12 m12 v12.out hs.out s12.out h12.out T12.out.bl).mono ?_; rintro e w13 ⟨a13, cp13, rfl, o13, q13⟩; have O13 : Hid (OB w12.heap.size w13 a13 R) := o13; clear o13; have T13 : Hid (TS w w13 (.slice y0a0 y0n0 y0c0) (.slice y0a1 y0n1 y0c1) (.slice y0a2 y0n2 y0c2) (.int .i64 y0i3) (.int .i64 y0i4) (.slice y0a5 y0n5 y0c5) (.slice y0a6 y0n6 y0c6) (.slice y0a7 y0n7 y0c7)) := T12.out.call q13; have N13 : Hid (OB w2.heap.size w13 a0 R) := (N11.out.below q12).below q13)
    go_wp2_with (go_at_call 9; refine (eI.out _ _ _ _ _ O13.out.rd N13.out.rd).mono ?_; rintro e w14 ⟨rfl, q14⟩; have T14 : Hid (TS w w14 (.slice y0a0 y0n0 y0c0) (.slice y0a1 y0n1 y0c1) (.slice y0a2 y0n2 y0c2) (.int .i64 y0i3) (.int .i64 y0i4) (.slice y0a5 y0n5 y0c5) (.slice y0a6 y0n6 y0c6) (.slice y0a7 y0n7 y0c7)) := T13.out.call q14; have R14 : Hid (ByteMem.Rd w14 a5 R.length (fun j => (1 + (j : Int)) % 256)) := ((R11.out.later q12).later q13).later q14)
    go_wp2_with (go_at_call 13; refine (kH.out _ _ _ R14.out).mono ?_; rintro e w' ⟨rfl, rfl⟩)
    go_ret
    exact ⟨rfl, T14.out.bl⟩
end Go.Proofs.YtffngjgjhialnaaGreatDoor.ModBLaw
