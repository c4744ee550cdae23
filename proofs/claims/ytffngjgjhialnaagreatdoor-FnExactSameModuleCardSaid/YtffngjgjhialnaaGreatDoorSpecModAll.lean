/-
  What the specification's writer of functions answers when it is called. (Written by my specfuncs.py.)
  What the specification's ModuleBytes answers when it is called. (Written by my specmodule.py.)
  The specification's ModuleBytes answers the bytes of a module.
-/
import Derived.Test.YtffngjgjhialnaaGreatDoorSpecSides
import Derived.Test.YtffngjgjhialnaaGreatDoorSpecBody
import Derived.Test.YtffngjgjhialnaaGreatDoorFormSpec
namespace Go.Proofs.YtffngjgjhialnaaGreatDoor.SpecFuncs
open Go.RowKit PlainNum PlainLeb NumCalls ByteMem PutU PutULaw PlainBytes PlainShape PlainAll InsMem SpecIns SpecBody WrMod WrParts WrSec SpecSec SpecParts SpecGlobs

theorem uv0 : uv 0 = [0] := by unfold uv; rw [show ((0 : Int) % 4294967296).toNat = 0 from rfl, Lib.uvarint_small (by decide)]; rfl
theorem uv1 : uv 1 = [1] := by unfold uv; rw [show ((1 : Int) % 4294967296).toNat = 1 from rfl, Lib.uvarint_small (by decide)]; rfl
theorem bodyB_ne (l : List I3) (k : Nat) : bodyB l (k + 1) ≠ [] := fun e => by
  have := (List.append_eq_nil_iff.1 e).2
  unfold insBAt insB at this
  cases this
theorem spec_body (w : World) (a : Option Addr) (cap : Nat) (l : List I3) (h : RdI w a l) (hn : l.length ≤ 1048576) (hall : allF l l.length 0 = true) :
    Calls Tryz.prog 77 #[.slice a l.length cap] w fun e w' => ∃ g N cp, e = .returned (.slice (some ⟨g, 0, none⟩) N cp) ∧ N = (bodyB l l.length).length ∧ PutU.Own w.heap.size w' (.slice (some ⟨g, 0, none⟩) N cp) (bodyB l l.length) ∧ Below w.heap.size w w' := by
  by_cases h0 : l.length = 0
  · rw [h0]
    have O : Hid (PutU.Own w.heap.size (w.alloc (.cells #[] 5)) (.slice (some ⟨w.heap.size, 0, none⟩) 0 0) (bodyB l 0)) := World.ownsRow_made w #[] 0 (Nat.le_refl _) (by decide) rfl
    clear h hall
    go_enter Tryz.func77, Tryz.ntmps77
    go_wp2_with fail
    refine wp_loop_rounds 1 ?_
    rw [rounds_succ]
    go_wp2_with fail
    go_ret
    exact ⟨_, _, _, rfl, rfl, O.out, al w _⟩
  · refine (spec_bodyBytes w a cap l h hn).mono fun e w' ⟨v, he, ho, hb⟩ => ?_
    have e1 : bodyBytes l = bodyB l l.length := if_pos hall
    rw [e1] at ho
    obtain ⟨k, hk⟩ : ∃ k, l.length = k + 1 := ⟨l.length - 1, by omega⟩
    obtain ⟨g, cp, hv, _, _⟩ := own_blk ho (by rw [hk]; exact bodyB_ne l k)
    subst hv
    exact ⟨g, _, cp, he, rfl, ho, hb⟩
/-- What is kept while one function's bytes are written. -/
structure Keep (B M : Nat) (w u : World) (gC NC cC gS NS cS bx : Nat) (cb sb : List UInt8) (x y z : Value) : Prop where
  code : PutU.Own B u (.slice (some ⟨gC, 0, none⟩) NC cC) cb
  sigs : PutU.Own B u (.slice (some ⟨gS, 0, none⟩) NS cS) sb
  box : Box3 u bx x y z
  bel : Below B w u
  m1 : gC < M
  m2 : gS < M
  m3 : bx < M
  m4 : M ≤ u.heap.size
  m5 : B ≤ M
theorem Keep.later {B M : Nat} {w u u' : World} {gC NC cC gS NS cS bx : Nat} {cb sb : List UInt8} {x y z : Value} (h : Keep B M w u gC NC cC gS NS cS bx cb sb x y z) (hb : Below u.heap.size u u') : Keep B M w u' gC NC cC gS NS cS bx cb sb x y z :=
  ⟨own_below h.code hb, own_below h.sigs hb, h.box.later hb, h.bel.trans (hb.mono (Nat.le_trans h.m5 h.m4)), h.m1, h.m2, h.m3, Nat.le_trans h.m4 hb.size, h.m5⟩
theorem Keep.grown {B M : Nat} {w u u' : World} {gC NC cC gS NS cS bx : Nat} {cb sb : List UInt8} {x y z : Value} {row : Option Nat} (h : Keep B M w u gC NC cC gS NS cS bx cb sb x y z) (q : u.grownBy u' row) (hr : ∀ k, row = some k → M ≤ k) : Keep B M w u' gC NC cC gS NS cS bx cb sb x y z := by
  have ne : ∀ k, k < M → some k ≠ row := fun k hk e => by
    have := hr k e.symm
    omega
  exact ⟨own_other h.code q (.inl (ne gC h.m1)), own_other h.sigs q (.inl (ne gS h.m2)), h.box.grown q (ne bx h.m3), h.bel.trans ((Below.refl B u).grown q (Nat.le_trans h.m5 h.m4) (fun k hk => Nat.le_trans h.m5 (hr k hk))), h.m1, h.m2, h.m3, Nat.le_trans h.m4 q.size, h.m5⟩
theorem Keep.al {B M : Nat} {w u : World} {gC NC cC gS NS cS bx : Nat} {cb sb : List UInt8} {x y z : Value} (h : Keep B M w u gC NC cC gS NS cS bx cb sb x y z) (o : Obj) : Keep B M w (u.alloc o) gC NC cC gS NS cS bx cb sb x y z := h.later (SpecParts.al u o)
theorem own_at (w : World) (b : Nat) (bs : List UInt8) (cs : Array Value) (hb : b = w.heap.size) (h : cs.toList = Lib.byteCells bs) (hl : bs.length ≤ 134217728) (N : Nat) (hN : N = bs.length) : PutU.Own w.heap.size (w.alloc (.cells cs 5)) (.slice (some ⟨b, 0, none⟩) N N) bs := by
  subst hb hN
  exact own_new w bs cs h hl
set_option maxRecDepth 20000 in
set_option maxHeartbeats 8000000 in
theorem spec_funcs (w : World) (a : Option Addr) (cap : Nat) (l : List MemFunc.E) (h : MemFunc.Rd w a l) (hn : l.length ≤ 1000) (hz : ∀ k, k < l.length → (MemFunc.at1 l k).body.length ≤ 2000 ∧ allF (MemFunc.at1 l k).body (MemFunc.at1 l k).body.length 0 = true ∧ 0 ≤ (MemFunc.at1 l k).loc ∧ (MemFunc.at1 l k).loc ≤ 1000) :
    Calls Tryz.prog 23 #[.slice a l.length cap] w fun e w' => ∃ g N cp g' N' cp', e = .returned (.tuple #[.slice (some ⟨g, 0, none⟩) N cp, .slice (some ⟨g', 0, none⟩) N' cp']) ∧ N = (catP (fun k => uv (MemFunc.at1 l k).sig) l.length).length ∧ N' = (catP (fun k => fbB (MemFunc.at1 l k).loc (MemFunc.at1 l k).body) l.length).length ∧ PutU.Own w.heap.size w' (.slice (some ⟨g, 0, none⟩) N cp) (catP (fun k => uv (MemFunc.at1 l k).sig) l.length) ∧ PutU.Own w.heap.size w' (.slice (some ⟨g', 0, none⟩) N' cp') (catP (fun k => fbB (MemFunc.at1 l k).loc (MemFunc.at1 l k).body) l.length) ∧ Below w.heap.size w w' := by
  have h' : Hid (MemFunc.Rd w a l) := h
  have hz' : Hid (∀ k, k < l.length → (MemFunc.at1 l k).body.length ≤ 2000 ∧ allF (MemFunc.at1 l k).body (MemFunc.at1 l k).body.length 0 = true ∧ 0 ≤ (MemFunc.at1 l k).loc ∧ (MemFunc.at1 l k).loc ≤ 1000) := hz
  have hLs : Hid (∀ k, k ≤ l.length → (catP (fun k => uv (MemFunc.at1 l k).sig) k).length ≤ k * 10) := fun k hk => ModB.catP_len k (fun j hj => uv_len _)
  have hLb : Hid (∀ k, k ≤ l.length → (catP (fun k => fbB (MemFunc.at1 l k).loc (MemFunc.at1 l k).body) k).length ≤ k * 50000) := fun k hk => ModB.catP_len k (fun j hj => by
    obtain ⟨x0, _, _, _⟩ := hz j (by omega)
    have e1 := locB_len (MemFunc.at1 l j).loc
    have e2 := bodyB_len (MemFunc.at1 l j).body (MemFunc.at1 l j).body.length
    have e3 := uv_len ((inB (MemFunc.at1 l j).loc (MemFunc.at1 l j).body).length : Int)
    unfold fbB
    rw [List.length_append]
    have e4 : (inB (MemFunc.at1 l j).loc (MemFunc.at1 l j).body).length = (locB (MemFunc.at1 l j).loc).length + (bodyB (MemFunc.at1 l j).body (MemFunc.at1 l j).body.length).length + 1 := by unfold inB; simp; omega
    omega)
  generalize hF : (fun k => uv (MemFunc.at1 l k).sig) = F at *
  generalize hH : (fun k => fbB (MemFunc.at1 l k).loc (MemFunc.at1 l k).body) = H at *
  have hF' : Hid (∀ k, F k = uv (MemFunc.at1 l k).sig) := fun k => by rw [← hF]
  have hH' : Hid (∀ k, H k = fbB (MemFunc.at1 l k).loc (MemFunc.at1 l k).body) := fun k => by rw [← hH]
  clear h hF hH hz
  go_enter Tryz.func23, Tryz.ntmps23
  go_wp2_with fail
  go_loopw [4, 5, 13] (fun vs vc vk wr => ∃ (k gS NS cS gC NC cC : Nat), k ≤ l.length ∧ vk = .int .i64 k ∧ vs = .slice (some ⟨gS, 0, none⟩) NS cS ∧ vc = .slice (some ⟨gC, 0, none⟩) NC cC ∧ NS = (catP F k).length ∧ NC = (catP H k).length ∧ PutU.Own w.heap.size wr (.slice (some ⟨gS, 0, none⟩) NS cS) (catP F k) ∧ PutU.Own w.heap.size wr (.slice (some ⟨gC, 0, none⟩) NC cC) (catP H k) ∧ Below w.heap.size w wr) (fun _ _ vk _ => l.length - (intOf vk).toNat)
  case atStart => exact ⟨0, w.heap.size, 0, 0, w.heap.size + 1, 0, 0, Nat.zero_le _, rfl, rfl, rfl, rfl, rfl, World.ownsRow.alloc (World.ownsRow_made w #[] 0 (Nat.le_refl _) (by decide) rfl) _, own_mono (own_at (w.alloc (.cells #[] 5)) _ [] #[] (by simp) rfl (by decide) 0 rfl) (al w _).size, (al w _).trans ((al _ _).mono (al w _).size)⟩
  case round =>
    obtain ⟨k, gS, NS, cS, gC, NC, cC, hk, rfl, rfl, rfl, hNS, hNC, hOS, hOC, hbel⟩ := hrel
    have OS : Hid (PutU.Own w.heap.size wr (.slice (some ⟨gS, 0, none⟩) NS cS) (catP F k)) := hOS
    have OC : Hid (PutU.Own w.heap.size wr (.slice (some ⟨gC, 0, none⟩) NC cC) (catP H k)) := hOC
    have HS : Hid (NS = (catP F k).length) := hNS
    have HC : Hid (NC = (catP H k).length) := hNC
    have hbel' : Hid (Below w.heap.size w wr) := hbel
    clear hNS hNC hOS hOC
    by_cases hlt : k < l.length
    · have hlt' : (k : Int) < (l.length : Int) := by omega
      rcases h'.out.later hbel with h0 | ⟨b, off, ha, hc⟩
      · omega
      · obtain ⟨c0, c1, c2, hRI⟩ := hc k hlt
        subst ha
        obtain ⟨x0, x1, x2, x3⟩ := hz'.out k hlt
        have hRw : Hid (∀ u, Below wr.heap.size wr u → RdI u (MemFunc.at1 l k).ad (MemFunc.at1 l k).body) := fun u hu => hRI.later hu
        have eS : Hid (catP F (k + 1) = catP F k ++ uv (MemFunc.at1 l k).sig) := by show _ = _; rw [catP, hF'.out]
        have eC : Hid (catP H (k + 1) = catP H k ++ uv ((inB (MemFunc.at1 l k).loc (MemFunc.at1 l k).body).length : Int) ++ inB (MemFunc.at1 l k).loc (MemFunc.at1 l k).body) := by
          show _ = _
          rw [catP, hH'.out]
          unfold fbB
          simp [List.append_assoc]
        have hls := hLs.out k hk
        have hlb := hLb.out k hk
        have hbl := bodyB_len (MemFunc.at1 l k).body (MemFunc.at1 l k).body.length
        have hll := locB_len (MemFunc.at1 l k).loc
        have kB : Hid (∀ u, Below wr.heap.size wr u → Calls Tryz.prog 77 #[.slice (MemFunc.at1 l k).ad (MemFunc.at1 l k).body.length (MemFunc.at1 l k).cp] u fun e w' => ∃ g N cp, e = .returned (.slice (some ⟨g, 0, none⟩) N cp) ∧ N = (bodyB (MemFunc.at1 l k).body (MemFunc.at1 l k).body.length).length ∧ PutU.Own u.heap.size w' (.slice (some ⟨g, 0, none⟩) N cp) (bodyB (MemFunc.at1 l k).body (MemFunc.at1 l k).body.length) ∧ Below u.heap.size u w') := fun u hu => spec_body u _ _ _ (hRw.out u hu) (by omega) x1
        have hin : Hid (inB (MemFunc.at1 l k).loc (MemFunc.at1 l k).body = locB (MemFunc.at1 l k).loc ++ bodyB (MemFunc.at1 l k).body (MemFunc.at1 l k).body.length ++ [11]) := rfl
        clear hRw hRI x1 hc hbel
        generalize inB (MemFunc.at1 l k).loc (MemFunc.at1 l k).body = ib at *
        generalize bodyB (MemFunc.at1 l k).body (MemFunc.at1 l k).body.length = bb at *
        generalize (MemFunc.at1 l k).body.length = bn at *
        generalize (MemFunc.at1 l k).ad = ad at *
        generalize (MemFunc.at1 l k).cp = cpb at *
        generalize (MemFunc.at1 l k).sig = sg at *
        generalize (MemFunc.at1 l k).loc = lc at *
        generalize catP F k = sb at *
        generalize catP H k = cb at *
        have gCl : Hid (gC < wr.heap.size) := (World.ownsRow.lt OC.out gC rfl).2
        have kA : Hid (∀ u, RdB u (some ⟨gS, 0, none⟩) sb → Calls Tryz.prog 76 #[.slice (some ⟨gS, 0, none⟩) NS cS, .int .i64 sg] u fun e w' => ∃ v, e = .returned v ∧ PutU.Own u.heap.size w' v (sb ++ uv sg) ∧ Below u.heap.size u w') := fun u hr => putU_n u _ NS cS sb sg HS.out hr (by omega)
        have kC : Hid (∀ (u : World) (x : Int), RdB u (some ⟨gC, 0, none⟩) cb → Calls Tryz.prog 76 #[.slice (some ⟨gC, 0, none⟩) NC cC, .int .i64 x] u fun e w' => ∃ v, e = .returned v ∧ PutU.Own u.heap.size w' v (cb ++ uv x) ∧ Below u.heap.size u w') := fun u x hr => putU_n u _ NC cC cb x HC.out hr (by omega)
        have hB0 : Hid (w.heap.size ≤ wr.heap.size) := hbel'.out.size
        have R0 : Hid (RdB (wr.alloc (.cells #[.int .i64 sg, .int .i64 lc, .slice ad bn cpb] 87)) (some ⟨gS, 0, none⟩) sb) := (own_rd' HS.out OS.out).later (al wr _)
        have B0 : Hid (Below wr.heap.size wr (wr.alloc (.cells #[.int .i64 sg, .int .i64 lc, .slice ad bn cpb] 87))) := al wr _
        have X0 : Hid (Box3 (wr.alloc (.cells #[.int .i64 sg, .int .i64 lc, .slice ad bn cpb] 87)) wr.heap.size (.int .i64 sg) (.int .i64 lc) (.slice ad bn cpb)) := ⟨by simp, by simp, by simp⟩
        have hinl : Hid (ib.length = (locB lc).length + bb.length + 1) := by show _ = _; rw [hin.out]; simp; omega
        by_cases hl0 : lc = 0
        · have eL : Hid (locB lc = [0]) := by show _ = _; unfold locB; rw [if_pos hl0, uv0]
          have hl0' : ¬ (0 : Int) < lc := by omega
          clear hl0 x2 x3
          rw [eL.out] at hin hinl hll
          go_wp2_with (first
            | (go_at_call 76; refine (kA.out _ R0.out).mono ?_; rintro e w1 ⟨v1, rfl, o1, q1⟩; clear kA; obtain ⟨g1, cp1, N1, rfl, hN1, _⟩ := blk_n o1 (by simp [List.length_pos_iff.1 (uv_pos sg)]); have BW : Hid (Below wr.heap.size wr w1) := B0.out.trans (q1.mono B0.out.size); have K1 : Hid (Keep w.heap.size w1.heap.size w w1 gC NC cC g1 N1 cp1 wr.heap.size cb (sb ++ uv sg) (.int .i64 sg) (.int .i64 lc) (.slice ad bn cpb)) := ⟨own_below OC.out BW.out, own_mono o1 (Nat.le_trans hB0.out B0.out.size), X0.out.later q1, hbel'.out.trans (BW.out.mono hB0.out), Nat.lt_of_lt_of_le gCl.out BW.out.size, (World.ownsRow.lt o1 g1 rfl).2, World.block_lt_of_cell? w1 _ (X0.out.later q1).1, Nat.le_refl _, Nat.le_trans hB0.out BW.out.size⟩; have I1 : Hid (PutU.Own w1.heap.size (w1.alloc (.cells #[.int .u8 0] 5)) (.slice (some ⟨w1.heap.size, 0, none⟩) 1 1) [0]) := own_at w1 _ [0] #[.int .u8 0] rfl rfl (by decide) 1 rfl; have Ka : Hid (Keep w.heap.size w1.heap.size w (w1.alloc (.cells #[.int .u8 0] 5)) gC NC cC g1 N1 cp1 wr.heap.size cb (sb ++ uv sg) (.int .i64 sg) (.int .i64 lc) (.slice ad bn cpb)) := K1.out.al _; clear o1; obtain ⟨_, _, _⟩ := K1.out.box; obtain ⟨_, _, _⟩ := Ka.out.box)
            | (go_at_call 77; refine (kB.out _ (BW.out.trans ((al w1 _).mono BW.out.size))).mono ?_; rintro e w3 ⟨g3, N3, cp3, rfl, hN3, o3, q3⟩; clear kB; have O3 : Hid (RdB w3 (some ⟨g3, 0, none⟩) bb) := own_rd' hN3 o3; have H3 : Hid (N3 = bb.length) := hN3; have I3 : Hid (PutU.Own w1.heap.size w3 (.slice (some ⟨w1.heap.size, 0, none⟩) 1 1) [0]) := own_below I1.out q3; have K3 : Hid (Keep w.heap.size w1.heap.size w w3 gC NC cC g1 N1 cp1 wr.heap.size cb (sb ++ uv sg) (.int .i64 sg) (.int .i64 lc) (.slice ad bn cpb)) := Ka.out.later q3; have S3 : Hid (w1.heap.size ≤ w3.heap.size) := Nat.le_trans (al w1 _).size q3.size; clear o3 hN3)
            | (at_builtin; refine wp_appB rfl _ _ rfl I3.out S3.out ⟨g3, 0, none⟩ bb _ N3 H3.out O3.out (by simp) (by simp; omega) rfl rfl ?_; intro g4 cp4 N4 w4 hN4 o4 q4; have I4 : Hid (PutU.Own w1.heap.size w4 (.slice (some ⟨g4, 0, none⟩) N4 cp4) ([0] ++ bb)) := o4; have K4 : Hid (Keep w.heap.size w1.heap.size w w4 gC NC cC g1 N1 cp1 wr.heap.size cb (sb ++ uv sg) (.int .i64 sg) (.int .i64 lc) (.slice ad bn cpb)) := K3.out.grown q4 (fun k hk => (World.ownsRow.lt I3.out k hk).1); have S4 : Hid (w1.heap.size ≤ w4.heap.size) := Nat.le_trans S3.out q4.size; clear I3 o4 hN4)
            | (at_builtin; refine wp_app1 rfl _ _ rfl I4.out S4.out 11 (by simp; omega) rfl _ _ (by simp) rfl ?_; intro g5 cp5 N5 w5 hN5 o5 q5; have I5 : Hid (PutU.Own w1.heap.size w5 (.slice (some ⟨g5, 0, none⟩) N5 cp5) ([0] ++ bb ++ [11])) := o5; have H5 : Hid (N5 = ([0] ++ bb ++ [11]).length) := hN5; have K5 : Hid (Keep w.heap.size w1.heap.size w w5 gC NC cC g1 N1 cp1 wr.heap.size cb (sb ++ uv sg) (.int .i64 sg) (.int .i64 lc) (.slice ad bn cpb)) := (K4.out.al _).grown q5 (fun k hk => (World.ownsRow.lt I4.out k hk).1); clear I4 o5 hN5)
            | (go_at_call 76; refine (kC.out _ _ (own_rd' HC.out K5.out.code)).mono ?_; rintro e w6 ⟨v6, rfl, o6, q6⟩; clear kC; obtain ⟨g6, cp6, N6, rfl, hN6, _⟩ := blk_n o6 (by simp [List.length_pos_iff.1 (uv_pos (N5 : Int))]); have O6 : Hid (PutU.Own w5.heap.size w6 (.slice (some ⟨g6, 0, none⟩) N6 cp6) (cb ++ uv (N5 : Int))) := o6; have R6 : Hid (RdB w6 (some ⟨g5, 0, none⟩) ([0] ++ bb ++ [11])) := (own_rd' H5.out I5.out).later q6; have K6 : Hid (Keep w.heap.size w1.heap.size w w6 gC NC cC g1 N1 cp1 wr.heap.size cb (sb ++ uv sg) (.int .i64 sg) (.int .i64 lc) (.slice ad bn cpb)) := K5.out.later q6; have Q6 : Hid (w5.heap.size ≤ w6.heap.size) := q6.size; have M5 : Hid (w1.heap.size ≤ w5.heap.size) := K5.out.m4; clear o6)
            | (at_builtin; refine wp_appB rfl _ _ rfl O6.out Q6.out ⟨g5, 0, none⟩ ([0] ++ bb ++ [11]) _ N5 H5.out R6.out (by simp) (by have := uv_len (N5 : Int); simp; omega) rfl rfl ?_; intro g7 cp7 N7 w7 hN7 o7 q7; have O7 : Hid (PutU.Own w5.heap.size w7 (.slice (some ⟨g7, 0, none⟩) N7 cp7) (cb ++ uv (N5 : Int) ++ ([0] ++ bb ++ [11]))) := o7; have H7 : Hid (N7 = (cb ++ uv (N5 : Int) ++ ([0] ++ bb ++ [11])).length) := hN7; have K7 : Hid (Keep w.heap.size w1.heap.size w w7 gC NC cC g1 N1 cp1 wr.heap.size cb (sb ++ uv sg) (.int .i64 sg) (.int .i64 lc) (.slice ad bn cpb)) := K6.out.grown q7 (fun k hk => Nat.le_trans M5.out (World.ownsRow.lt O6.out k hk).1); clear O6 o7 hN7))
          go_roundw
          case rel =>
            have e7 : catP H (k + 1) = cb ++ uv (N5 : Int) ++ ([0] ++ bb ++ [11]) := by rw [eC.out, hin.out, H5.out]
            exact ⟨k + 1, g1, N1, cp1, g7, N7, cp7, by omega, by go_num, rfl, rfl, by rw [eS.out]; exact hN1.out, by rw [e7]; exact H7.out, by rw [eS.out]; exact K7.out.sigs, by rw [e7]; exact own_mono O7.out (Nat.le_trans K5.out.m5 K5.out.m4), K7.out.bel⟩
          case measure => simp [intOf]; omega
        · have eL : Hid (locB lc = [1] ++ uv lc ++ [127]) := by show _ = _; unfold locB; rw [if_neg hl0, uv1]
          have hl0' : (0 : Int) < lc := by omega
          have zl := uv_len lc
          have kL : Hid (∀ (u : World) (ad : Addr), RdB u (some ad) [1] → Calls Tryz.prog 76 #[.slice (some ad) 1 1, .int .i64 lc] u fun e w' => ∃ v, e = .returned v ∧ PutU.Own u.heap.size w' v ([1] ++ uv lc) ∧ Below u.heap.size u w') := fun u ad hr => putU_n u ad 1 1 [1] lc rfl hr (by decide)
          clear hl0 x2 x3
          rw [eL.out] at hin hinl hll
          go_wp2_with (first
            | (go_at_call 76; refine (kA.out _ R0.out).mono ?_; rintro e w1 ⟨v1, rfl, o1, q1⟩; clear kA; obtain ⟨g1, cp1, N1, rfl, hN1, _⟩ := blk_n o1 (by simp [List.length_pos_iff.1 (uv_pos sg)]); have BW : Hid (Below wr.heap.size wr w1) := B0.out.trans (q1.mono B0.out.size); have K1 : Hid (Keep w.heap.size w1.heap.size w w1 gC NC cC g1 N1 cp1 wr.heap.size cb (sb ++ uv sg) (.int .i64 sg) (.int .i64 lc) (.slice ad bn cpb)) := ⟨own_below OC.out BW.out, own_mono o1 (Nat.le_trans hB0.out B0.out.size), X0.out.later q1, hbel'.out.trans (BW.out.mono hB0.out), Nat.lt_of_lt_of_le gCl.out BW.out.size, (World.ownsRow.lt o1 g1 rfl).2, World.block_lt_of_cell? w1 _ (X0.out.later q1).1, Nat.le_refl _, Nat.le_trans hB0.out BW.out.size⟩; have Ka : Hid (Keep w.heap.size w1.heap.size w (w1.alloc (.cells #[.int .u8 0] 5)) gC NC cC g1 N1 cp1 wr.heap.size cb (sb ++ uv sg) (.int .i64 sg) (.int .i64 lc) (.slice ad bn cpb)) := K1.out.al _; have Kb : Hid (Keep w.heap.size w1.heap.size w ((w1.alloc (.cells #[.int .u8 0] 5)).alloc (.cells #[.int .u8 1] 5)) gC NC cC g1 N1 cp1 wr.heap.size cb (sb ++ uv sg) (.int .i64 sg) (.int .i64 lc) (.slice ad bn cpb)) := Ka.out.al _; have Rb : Hid (RdB ((w1.alloc (.cells #[.int .u8 0] 5)).alloc (.cells #[.int .u8 1] 5)) (some ⟨w1.heap.size + 1, 0, none⟩) [1]) := rd_at (w1.alloc (.cells #[.int .u8 0] 5)) _ [1] #[.int .u8 1] (by simp) rfl (by decide); have BWb : Hid (Below wr.heap.size wr ((w1.alloc (.cells #[.int .u8 0] 5)).alloc (.cells #[.int .u8 1] 5))) := b_al (b_al BW.out (Nat.le_refl _) _) (Nat.le_refl _) _; clear o1; obtain ⟨_, _, _⟩ := K1.out.box; obtain ⟨_, _, _⟩ := Ka.out.box; obtain ⟨_, _, _⟩ := Kb.out.box)
            | (go_at_call 76; refine (kL.out _ _ Rb.out).mono ?_; rintro e w2 ⟨v2, rfl, o2, q2⟩; clear kL; obtain ⟨g2, cp2, N2, rfl, hN2, _⟩ := blk_n o2 (by simp); have S2' : Hid (w1.heap.size ≤ ((w1.alloc (.cells #[.int .u8 0] 5)).alloc (.cells #[.int .u8 1] 5)).heap.size) := Nat.le_trans (al w1 _).size (al _ _).size; have O2 : Hid (PutU.Own w1.heap.size w2 (.slice (some ⟨g2, 0, none⟩) N2 cp2) ([1] ++ uv lc)) := own_mono o2 S2'.out; have K2 : Hid (Keep w.heap.size w1.heap.size w w2 gC NC cC g1 N1 cp1 wr.heap.size cb (sb ++ uv sg) (.int .i64 sg) (.int .i64 lc) (.slice ad bn cpb)) := Kb.out.later q2; have S2 : Hid (w1.heap.size ≤ w2.heap.size) := Nat.le_trans S2'.out q2.size; have BW2 : Hid (Below wr.heap.size wr w2) := BWb.out.trans (q2.mono BWb.out.size); clear o2)
            | (at_builtin; refine wp_appc127 rfl _ _ rfl O2.out S2.out (by simp; omega) rfl _ _ (by simp) rfl ?_; intro gM cpM NM wM hNM oM qM; have IM : Hid (PutU.Own w1.heap.size wM (.slice (some ⟨gM, 0, none⟩) NM cpM) ([1] ++ uv lc ++ [127])) := oM; have KM : Hid (Keep w.heap.size w1.heap.size w wM gC NC cC g1 N1 cp1 wr.heap.size cb (sb ++ uv sg) (.int .i64 sg) (.int .i64 lc) (.slice ad bn cpb)) := (K2.out.al _).grown qM (fun k hk => (World.ownsRow.lt O2.out k hk).1); have BWM : Hid (Below wr.heap.size wr wM) := (b_al BW2.out (Nat.le_refl _) _).trans ((Below.refl wr.heap.size _).grown qM (b_al BW2.out (Nat.le_refl _) _).size (fun k hk => Nat.le_trans BW.out.size (World.ownsRow.lt O2.out k hk).1)); have SM : Hid (w1.heap.size ≤ wM.heap.size) := KM.out.m4; clear O2 oM hNM; obtain ⟨_, _, _⟩ := KM.out.box)
            | (go_at_call 77; refine (kB.out _ BWM.out).mono ?_; rintro e w3 ⟨g3, N3, cp3, rfl, hN3, o3, q3⟩; clear kB; have O3 : Hid (RdB w3 (some ⟨g3, 0, none⟩) bb) := own_rd' hN3 o3; have H3 : Hid (N3 = bb.length) := hN3; have I3 : Hid (PutU.Own w1.heap.size w3 (.slice (some ⟨gM, 0, none⟩) NM cpM) ([1] ++ uv lc ++ [127])) := own_below IM.out q3; have K3 : Hid (Keep w.heap.size w1.heap.size w w3 gC NC cC g1 N1 cp1 wr.heap.size cb (sb ++ uv sg) (.int .i64 sg) (.int .i64 lc) (.slice ad bn cpb)) := KM.out.later q3; have S3 : Hid (w1.heap.size ≤ w3.heap.size) := Nat.le_trans SM.out q3.size; clear o3 hN3)
            | (at_builtin; refine wp_appB rfl _ _ rfl I3.out S3.out ⟨g3, 0, none⟩ bb _ N3 H3.out O3.out (by simp) (by simp; omega) rfl rfl ?_; intro g4 cp4 N4 w4 hN4 o4 q4; have I4 : Hid (PutU.Own w1.heap.size w4 (.slice (some ⟨g4, 0, none⟩) N4 cp4) ([1] ++ uv lc ++ [127] ++ bb)) := o4; have K4 : Hid (Keep w.heap.size w1.heap.size w w4 gC NC cC g1 N1 cp1 wr.heap.size cb (sb ++ uv sg) (.int .i64 sg) (.int .i64 lc) (.slice ad bn cpb)) := K3.out.grown q4 (fun k hk => (World.ownsRow.lt I3.out k hk).1); have S4 : Hid (w1.heap.size ≤ w4.heap.size) := Nat.le_trans S3.out q4.size; clear I3 o4 hN4)
            | (at_builtin; refine wp_app1 rfl _ _ rfl I4.out S4.out 11 (by simp; omega) rfl _ _ (by simp) rfl ?_; intro g5 cp5 N5 w5 hN5 o5 q5; have I5 : Hid (PutU.Own w1.heap.size w5 (.slice (some ⟨g5, 0, none⟩) N5 cp5) ([1] ++ uv lc ++ [127] ++ bb ++ [11])) := o5; have H5 : Hid (N5 = ([1] ++ uv lc ++ [127] ++ bb ++ [11]).length) := hN5; have K5 : Hid (Keep w.heap.size w1.heap.size w w5 gC NC cC g1 N1 cp1 wr.heap.size cb (sb ++ uv sg) (.int .i64 sg) (.int .i64 lc) (.slice ad bn cpb)) := (K4.out.al _).grown q5 (fun k hk => (World.ownsRow.lt I4.out k hk).1); clear I4 o5 hN5)
            | (go_at_call 76; refine (kC.out _ _ (own_rd' HC.out K5.out.code)).mono ?_; rintro e w6 ⟨v6, rfl, o6, q6⟩; clear kC; obtain ⟨g6, cp6, N6, rfl, hN6, _⟩ := blk_n o6 (by simp [List.length_pos_iff.1 (uv_pos (N5 : Int))]); have O6 : Hid (PutU.Own w5.heap.size w6 (.slice (some ⟨g6, 0, none⟩) N6 cp6) (cb ++ uv (N5 : Int))) := o6; have R6 : Hid (RdB w6 (some ⟨g5, 0, none⟩) ([1] ++ uv lc ++ [127] ++ bb ++ [11])) := (own_rd' H5.out I5.out).later q6; have K6 : Hid (Keep w.heap.size w1.heap.size w w6 gC NC cC g1 N1 cp1 wr.heap.size cb (sb ++ uv sg) (.int .i64 sg) (.int .i64 lc) (.slice ad bn cpb)) := K5.out.later q6; have Q6 : Hid (w5.heap.size ≤ w6.heap.size) := q6.size; have M5 : Hid (w1.heap.size ≤ w5.heap.size) := K5.out.m4; clear o6)
            | (at_builtin; refine wp_appB rfl _ _ rfl O6.out Q6.out ⟨g5, 0, none⟩ ([1] ++ uv lc ++ [127] ++ bb ++ [11]) _ N5 H5.out R6.out (by simp) (by have := uv_len (N5 : Int); simp; omega) rfl rfl ?_; intro g7 cp7 N7 w7 hN7 o7 q7; have O7 : Hid (PutU.Own w5.heap.size w7 (.slice (some ⟨g7, 0, none⟩) N7 cp7) (cb ++ uv (N5 : Int) ++ ([1] ++ uv lc ++ [127] ++ bb ++ [11]))) := o7; have H7 : Hid (N7 = (cb ++ uv (N5 : Int) ++ ([1] ++ uv lc ++ [127] ++ bb ++ [11])).length) := hN7; have K7 : Hid (Keep w.heap.size w1.heap.size w w7 gC NC cC g1 N1 cp1 wr.heap.size cb (sb ++ uv sg) (.int .i64 sg) (.int .i64 lc) (.slice ad bn cpb)) := K6.out.grown q7 (fun k hk => Nat.le_trans M5.out (World.ownsRow.lt O6.out k hk).1); clear O6 o7 hN7))
          go_roundw
          case rel =>
            have e7 : catP H (k + 1) = cb ++ uv (N5 : Int) ++ ([1] ++ uv lc ++ [127] ++ bb ++ [11]) := by rw [eC.out, hin.out, H5.out]
            exact ⟨k + 1, g1, N1, cp1, g7, N7, cp7, by omega, by go_num, rfl, rfl, by rw [eS.out]; exact hN1.out, by rw [e7]; exact H7.out, by rw [eS.out]; exact K7.out.sigs, by rw [e7]; exact own_mono O7.out (Nat.le_trans K5.out.m5 K5.out.m4), K7.out.bel⟩
          case measure => simp [intOf]; omega
    · obtain rfl : k = l.length := by omega
      clear hbel
      go_wp2_with fail
      go_ret2
      exact ⟨gS, NS, cS, gC, NC, cC, rfl, HS.out, HC.out, OS.out, OC.out, hbel'.out⟩
end Go.Proofs.YtffngjgjhialnaaGreatDoor.SpecFuncs
namespace Go.Proofs.YtffngjgjhialnaaGreatDoor.SpecModule
open Go.RowKit PlainNum PlainLeb NumCalls ByteMem PutU PutULaw PlainBytes PlainShape PlainAll InsMem SpecIns SpecBody WrMod WrParts WrSec SpecSec SpecParts SpecGlobs ModMem ModB FormImpl

theorem rd_lt {B b off : Nat} {w w' : World} {bs : List UInt8} (h : RdB w (some ⟨b, off, none⟩) bs) (hb : Below B w w') (hlt : b < B) : RdB w' (some ⟨b, off, none⟩) bs := by
  refine ⟨h.1, ?_⟩
  rcases h.2 with h0 | ⟨b', off', ha, hc⟩
  · exact .inl h0
  · simp only [Option.some.injEq, Addr.mk.injEq, and_true] at ha
    obtain ⟨rfl, rfl⟩ := ha
    exact .inr ⟨b, off, rfl, fun j hj => (World.cell?_of_block (a := ⟨b, off + j, none⟩) (hb.block b hlt)).trans (hc j hj)⟩
/-- What is kept while a module's sections are written. -/
structure Kp8 (M : Nat) (w u : World) (gS gC : Nat) (sb cb : List UInt8) (x0 x1 x2 x3 x4 x5 x6 x7 : Value) : Prop where
  row : u.rowIs w.heap.size 41 8 (R8 x0 x1 x2 x3 x4 x5 x6 x7)
  rs : RdB u (some ⟨gS, 0, none⟩) sb
  rc : RdB u (some ⟨gC, 0, none⟩) cb
  bel : Below w.heap.size w u
  m0 : w.heap.size < M
  m1 : gS < M
  m2 : gC < M
  m3 : M ≤ u.heap.size
theorem Kp8.to {M : Nat} {w u u' : World} {gS gC : Nat} {sb cb : List UInt8} {x0 x1 x2 x3 x4 x5 x6 x7 : Value} (h : Kp8 M w u gS gC sb cb x0 x1 x2 x3 x4 x5 x6 x7) (hb : Below M u u') : Kp8 M w u' gS gC sb cb x0 x1 x2 x3 x4 x5 x6 x7 :=
  ⟨h.row.of_block (hb.block _ h.m0), rd_lt h.rs hb h.m1, rd_lt h.rc hb h.m2, h.bel.trans (hb.mono (Nat.le_of_lt h.m0)), h.m0, h.m1, h.m2, Nat.le_trans h.m3 hb.size⟩
theorem Kp8.later {M : Nat} {w u u' : World} {gS gC : Nat} {sb cb : List UInt8} {x0 x1 x2 x3 x4 x5 x6 x7 : Value} (h : Kp8 M w u gS gC sb cb x0 x1 x2 x3 x4 x5 x6 x7) (hb : Below u.heap.size u u') : Kp8 M w u' gS gC sb cb x0 x1 x2 x3 x4 x5 x6 x7 := h.to (hb.mono h.m3)
theorem acc_len (a : List UInt8) (c : UInt8) (n : Nat) (b : List UInt8) : (a ++ secB c n b).length ≤ a.length + 21 + b.length := by
  have := secB_len c n b
  rw [List.length_append]
  omega
theorem acc_ne {a : List UInt8} (h : a ≠ []) (b : List UInt8) : a ++ b ≠ [] := fun e => h (List.append_eq_nil_iff.1 e).1
theorem head_ne (bs : List UInt8) : headB ++ bs ≠ [] := by simp [headB]
set_option maxRecDepth 20000 in
set_option maxHeartbeats 8000000 in
theorem spec_all (w : World) (a0 a1 a2 a3 a4 a5 : Option Addr) (n0 c0 n1 c1 n2 c2 n3 c3 n4 c4 n5 c5 : Nat) (pg mo : Int) (sB iB fsB mB gB eB fbB' dB' : List UInt8)
    (kF : Hid (∀ u, Below w.heap.size w u → Calls Tryz.prog 22 #[.agg #[.slice a0 n0 c0, .slice a1 n1 c1, .slice a2 n2 c2, .int .i64 pg, .int .i64 mo, .slice a3 n3 c3, .slice a4 n4 c4, .slice a5 n5 c5]] u fun e w' => e = .returned (.bool true) ∧ Below u.heap.size u w'))
    (kf : Hid (∀ u, Below w.heap.size w u → Calls Tryz.prog 23 #[.slice a2 n2 c2] u fun e w' => ∃ g N cp g' N' cp', e = .returned (.tuple #[.slice (some ⟨g, 0, none⟩) N cp, .slice (some ⟨g', 0, none⟩) N' cp']) ∧ N = fsB.length ∧ N' = fbB'.length ∧ PutU.Own u.heap.size w' (.slice (some ⟨g, 0, none⟩) N cp) fsB ∧ PutU.Own u.heap.size w' (.slice (some ⟨g', 0, none⟩) N' cp') fbB' ∧ Below u.heap.size u w'))
    (ks : Hid (∀ u, Below w.heap.size w u → Calls Tryz.prog 26 #[.slice a0 n0 c0] u fun e w' => ∃ g N cp, e = .returned (.slice (some ⟨g, 0, none⟩) N cp) ∧ N = (sB).length ∧ PutU.Own u.heap.size w' (.slice (some ⟨g, 0, none⟩) N cp) (sB) ∧ Below u.heap.size u w'))
    (ki : Hid (∀ u, Below w.heap.size w u → Calls Tryz.prog 27 #[.slice a1 n1 c1] u fun e w' => ∃ g N cp, e = .returned (.slice (some ⟨g, 0, none⟩) N cp) ∧ N = (iB).length ∧ PutU.Own u.heap.size w' (.slice (some ⟨g, 0, none⟩) N cp) (iB) ∧ Below u.heap.size u w'))
    (kg : Hid (∀ u, Below w.heap.size w u → Calls Tryz.prog 29 #[.slice a3 n3 c3] u fun e w' => ∃ g N cp, e = .returned (.slice (some ⟨g, 0, none⟩) N cp) ∧ N = (gB).length ∧ PutU.Own u.heap.size w' (.slice (some ⟨g, 0, none⟩) N cp) (gB) ∧ Below u.heap.size u w'))
    (ke : Hid (∀ u, Below w.heap.size w u → Calls Tryz.prog 30 #[.slice a4 n4 c4] u fun e w' => ∃ g N cp, e = .returned (.slice (some ⟨g, 0, none⟩) N cp) ∧ N = (eB).length ∧ PutU.Own u.heap.size w' (.slice (some ⟨g, 0, none⟩) N cp) (eB) ∧ Below u.heap.size u w'))
    (kd : Hid (∀ u, Below w.heap.size w u → Calls Tryz.prog 31 #[.slice a5 n5 c5] u fun e w' => ∃ g N cp, e = .returned (.slice (some ⟨g, 0, none⟩) N cp) ∧ N = (dB').length ∧ PutU.Own u.heap.size w' (.slice (some ⟨g, 0, none⟩) N cp) (dB') ∧ Below u.heap.size u w'))
    (km : Hid (∀ u, Calls Tryz.prog 28 #[.agg #[.slice a0 n0 c0, .slice a1 n1 c1, .slice a2 n2 c2, .int .i64 pg, .int .i64 mo, .slice a3 n3 c3, .slice a4 n4 c4, .slice a5 n5 c5]] u fun e w' => ∃ v, e = .returned v ∧ PutU.Own u.heap.size w' v mB ∧ Below u.heap.size u w'))
    (hm : mB ≠ []) (AA : List UInt8) (hA : Hid (AA = headB ++ secB 1 n0 sB ++ secB 2 n1 iB ++ secB 3 n2 fsB ++ (if 0 ≤ pg then secB 5 1 mB else []) ++ secB 6 n3 gB ++ secB 7 n4 eB ++ secB 10 n2 fbB' ++ secB 11 n5 dB'))
    (z : sB.length ≤ 3000000 ∧ iB.length ≤ 3000000 ∧ fsB.length ≤ 3000000 ∧ mB.length ≤ 3000000 ∧ gB.length ≤ 3000000 ∧ eB.length ≤ 3000000 ∧ fbB'.length ≤ 3000000 ∧ dB'.length ≤ 3000000) (hn : n0 ≤ 1000 ∧ n1 ≤ 1000 ∧ n2 ≤ 1000 ∧ n3 ≤ 1000 ∧ n4 ≤ 1000 ∧ n5 ≤ 1000) :
    Calls Tryz.prog 6 #[.agg #[.slice a0 n0 c0, .slice a1 n1 c1, .slice a2 n2 c2, .int .i64 pg, .int .i64 mo, .slice a3 n3 c3, .slice a4 n4 c4, .slice a5 n5 c5]] w fun e w' => ∃ v, e = .returned (.tuple #[v, .bool true]) ∧ PutU.Own w.heap.size w' v AA ∧ Below w.heap.size w w' := by
  have ba : Hid (Below w.heap.size w (w.alloc (.cells #[.slice a0 n0 c0, .slice a1 n1 c1, .slice a2 n2 c2, .int .i64 pg, .int .i64 mo, .slice a3 n3 c3, .slice a4 n4 c4, .slice a5 n5 c5] 41))) := al w _
  have X0 : Hid ((w.alloc (.cells #[.slice a0 n0 c0, .slice a1 n1 c1, .slice a2 n2 c2, .int .i64 pg, .int .i64 mo, .slice a3 n3 c3, .slice a4 n4 c4, .slice a5 n5 c5] 41)).rowIs w.heap.size 41 8 (R8 (.slice a0 n0 c0) (.slice a1 n1 c1) (.slice a2 n2 c2) (.int .i64 pg) (.int .i64 mo) (.slice a3 n3 c3) (.slice a4 n4 c4) (.slice a5 n5 c5))) := r8_made w _ _ _ _ _ _ _ _ _
  have kH : Hid (∀ u, Calls Tryz.prog 25 #[] u fun e w' => ∃ g, e = .returned (.slice (some ⟨g, 0, none⟩) 8 8) ∧ PutU.Own u.heap.size w' (.slice (some ⟨g, 0, none⟩) 8 8) headB ∧ Below u.heap.size u w') := spec_head
  go_enter Tryz.func6, Tryz.ntmps6
  go_wp2_with (first | (go_at_call 22; refine (kF.out _ ba.out).mono ?_; rintro e w1 ⟨rfl, q1⟩; clear kF; have X1 : Hid (w1.rowIs w.heap.size 41 8 (R8 (.slice a0 n0 c0) (.slice a1 n1 c1) (.slice a2 n2 c2) (.int .i64 pg) (.int .i64 mo) (.slice a3 n3 c3) (.slice a4 n4 c4) (.slice a5 n5 c5))) := row_later X0.out q1; have B1 : Hid (Below w.heap.size w w1) := ba.out.trans (q1.mono ba.out.size); obtain ⟨_, _, _, _, _, _, _, _⟩ := r8 X1.out) | (go_at_call 23; refine (kf.out _ B1.out).mono ?_; rintro e w2 ⟨gS, NS, cS, gC, NC, cC, rfl, hNS, hNC, oS, oC, q2⟩; clear kf; have HS : Hid (NS = fsB.length) := hNS; have HC : Hid (NC = fbB'.length) := hNC; have K2 : Hid (Kp8 w2.heap.size w w2 gS gC fsB fbB' (.slice a0 n0 c0) (.slice a1 n1 c1) (.slice a2 n2 c2) (.int .i64 pg) (.int .i64 mo) (.slice a3 n3 c3) (.slice a4 n4 c4) (.slice a5 n5 c5)) := ⟨row_later X1.out q2, own_rd' hNS oS, own_rd' hNC oC, B1.out.trans (q2.mono B1.out.size), (row_later X1.out q2).lt, (World.ownsRow.lt oS gS rfl).2, (World.ownsRow.lt oC gC rfl).2, Nat.le_refl _⟩; clear hNS hNC oS oC; obtain ⟨_, _, _, _, _, _, _, _⟩ := r8 K2.out.row))
  have kE : Hid (∀ (u : World) (g cap N : Nat) (bs : List UInt8) (c : UInt8) (id : Int) (n : Nat) (ad : Addr) (M cp : Nat) (cs : List UInt8), id = (c.toNat : Int) → N = bs.length → PutU.Own w2.heap.size u (.slice (some ⟨g, 0, none⟩) N cap) bs → w2.heap.size ≤ u.heap.size → M = cs.length → RdB u (some ad) cs → bs.length ≤ 30000000 → cs.length ≤ 30000000 → n ≤ 1048576 → Calls Tryz.prog 24 #[.slice (some ⟨g, 0, none⟩) N cap, .int .i64 id, .int .i64 n, .slice (some ad) M cp] u fun e w' => ∃ v, e = .returned v ∧ PutU.Own w2.heap.size w' v (bs ++ secB c n cs) ∧ Below w2.heap.size u w') := fun u g cap N bs c id n ad M cp cs h1 h2 h3 h4 h5 h6 h7 h8 h9 => spec_section w2.heap.size g cap N bs c id h1 n ad M cp cs u h2 h3 h4 h5 h6 h7 h8 h9
  have D2 : Hid (Below w2.heap.size w2 w2.drew) := (Below.refl _ _).drew
  have K2d : Hid (Kp8 w2.heap.size w w2.drew gS gC fsB fbB' (.slice a0 n0 c0) (.slice a1 n1 c1) (.slice a2 n2 c2) (.int .i64 pg) (.int .i64 mo) (.slice a3 n3 c3) (.slice a4 n4 c4) (.slice a5 n5 c5)) := K2.out.later D2.out
  go_region_held3 (fun w' => w'.cell? ⟨w.heap.size, 0, none⟩ = some (.slice a0 n0 c0)) (go_keep)
    ((first
      | (go_at_call 25; refine (kH.out _).mono ?_; rintro e w3 ⟨g3, rfl, o3, q3⟩; clear kH; (first | (have K3 : Hid (Kp8 w2.heap.size w w3 gS gC fsB fbB' (.slice a0 n0 c0) (.slice a1 n1 c1) (.slice a2 n2 c2) (.int .i64 pg) (.int .i64 mo) (.slice a3 n3 c3) (.slice a4 n4 c4) (.slice a5 n5 c5)) := K4.out.later q3; have O3 : Hid (PutU.Own w2.heap.size w3 (.slice (some ⟨g3, 0, none⟩) 8 8) headB) := own_mono o3 K4.out.m3; have R4 : Hid (RdB w3 (some ⟨g4, 0, none⟩) sB) := R4'.out.later q3; have KA : Hid (Kp8 w2.heap.size w w3 gS gC fsB fbB' (.slice a0 n0 c0) (.slice a1 n1 c1) (.slice a2 n2 c2) (.int .i64 pg) (.int .i64 mo) (.slice a3 n3 c3) (.slice a4 n4 c4) (.slice a5 n5 c5)) := K3.out) | (have K3 : Hid (Kp8 w2.heap.size w w3 gS gC fsB fbB' (.slice a0 n0 c0) (.slice a1 n1 c1) (.slice a2 n2 c2) (.int .i64 pg) (.int .i64 mo) (.slice a3 n3 c3) (.slice a4 n4 c4) (.slice a5 n5 c5)) := K2d.out.later q3; have O3' : Hid (PutU.Own w2.heap.size w3 (.slice (some ⟨g3, 0, none⟩) 8 8) headB) := own_mono o3 K2d.out.m3)); clear o3; obtain ⟨_, _, _, _, _, _, _, _⟩ := r8 K3.out.row)
      | (go_at_call 26; first | (refine (ks.out _ K3.out.bel).mono ?_; rintro e w4 ⟨g4, N4, cp4, rfl, hN4, o4, q4⟩; clear ks; have K4 : Hid (Kp8 w2.heap.size w w4 gS gC fsB fbB' (.slice a0 n0 c0) (.slice a1 n1 c1) (.slice a2 n2 c2) (.int .i64 pg) (.int .i64 mo) (.slice a3 n3 c3) (.slice a4 n4 c4) (.slice a5 n5 c5)) := K3.out.later q4; have R4 : Hid (RdB w4 (some ⟨g4, 0, none⟩) sB) := own_rd' hN4 o4; have H4 : Hid (N4 = sB.length) := hN4; have O3 : Hid (PutU.Own w2.heap.size w4 (.slice (some ⟨g3, 0, none⟩) 8 8) headB) := own_below O3'.out q4; have KA : Hid (Kp8 w2.heap.size w w4 gS gC fsB fbB' (.slice a0 n0 c0) (.slice a1 n1 c1) (.slice a2 n2 c2) (.int .i64 pg) (.int .i64 mo) (.slice a3 n3 c3) (.slice a4 n4 c4) (.slice a5 n5 c5)) := K4.out; clear hN4 o4; obtain ⟨_, _, _, _, _, _, _, _⟩ := r8 K4.out.row) | (refine (ks.out _ K2d.out.bel).mono ?_; rintro e w4 ⟨g4, N4, cp4, rfl, hN4, o4, q4⟩; clear ks; have K4 : Hid (Kp8 w2.heap.size w w4 gS gC fsB fbB' (.slice a0 n0 c0) (.slice a1 n1 c1) (.slice a2 n2 c2) (.int .i64 pg) (.int .i64 mo) (.slice a3 n3 c3) (.slice a4 n4 c4) (.slice a5 n5 c5)) := K2d.out.later q4; have R4' : Hid (RdB w4 (some ⟨g4, 0, none⟩) sB) := own_rd' hN4 o4; have H4 : Hid (N4 = sB.length) := hN4; clear hN4 o4; obtain ⟨_, _, _, _, _, _, _, _⟩ := r8 K4.out.row))
      | (go_at_call 24; refine (kE.out _ g3 8 8 headB 1 1 n0 ⟨g4, 0, none⟩ N4 cp4 sB rfl rfl O3.out KA.out.m3 H4.out R4.out (by decide) (by omega) (by omega)).mono ?_; rintro e w5 ⟨v5, rfl, o5, q5⟩; obtain ⟨g5, cp5, N5, rfl, hN5, _⟩ := blk_n o5 (head_ne _); have K5 : Hid (Kp8 w2.heap.size w w5 gS gC fsB fbB' (.slice a0 n0 c0) (.slice a1 n1 c1) (.slice a2 n2 c2) (.int .i64 pg) (.int .i64 mo) (.slice a3 n3 c3) (.slice a4 n4 c4) (.slice a5 n5 c5)) := KA.out.to q5; have O5 : Hid (PutU.Own w2.heap.size w5 (.slice (some ⟨g5, 0, none⟩) N5 cp5) (headB ++ secB 1 n0 sB)) := o5; clear o5; obtain ⟨_, _, _, _, _, _, _, _⟩ := r8 K5.out.row)))
  all_goals
    have NEb : ∀ l : List UInt8, l.head? = some 0 → l ≠ [] := fun l h e => by rw [e] at h; cases h
    have U0 : headB.length = 8 := rfl
    have U1 := acc_len headB 1 n0 sB
    have D5 : Hid (Below w5.heap.size w5 w5.drew) := (Below.refl _ _).drew
    have K5d : Hid (Kp8 w2.heap.size w w5.drew gS gC fsB fbB' (.slice a0 n0 c0) (.slice a1 n1 c1) (.slice a2 n2 c2) (.int .i64 pg) (.int .i64 mo) (.slice a3 n3 c3) (.slice a4 n4 c4) (.slice a5 n5 c5)) := K5.out.later D5.out
    have O5d : Hid (PutU.Own w2.heap.size w5.drew (.slice (some ⟨g5, 0, none⟩) N5 cp5) (headB ++ secB 1 n0 sB)) := own_below O5.out D5.out
    have U7 := acc_len (headB ++ secB 1 n0 sB) 2 n1 iB
    go_wp2_with fail
    go_region_held3 (fun w' => w'.cell? ⟨w.heap.size, 1, none⟩ = some (.slice a1 n1 c1)) (go_keep)
      ((first | (go_at_call 27; refine (ki.out _ K5d.out.bel).mono ?_; rintro e w6 ⟨g6, N6, cp6, rfl, hN6, o6, q6⟩; clear ki; have K6 : Hid (Kp8 w2.heap.size w w6 gS gC fsB fbB' (.slice a0 n0 c0) (.slice a1 n1 c1) (.slice a2 n2 c2) (.int .i64 pg) (.int .i64 mo) (.slice a3 n3 c3) (.slice a4 n4 c4) (.slice a5 n5 c5)) := K5d.out.later q6; have R6 : Hid (RdB w6 (some ⟨g6, 0, none⟩) iB) := own_rd' hN6 o6; have H6 : Hid (N6 = (iB).length) := hN6; have P6 : Hid (PutU.Own w2.heap.size w6 (.slice (some ⟨g5, 0, none⟩) N5 cp5) (headB ++ secB 1 n0 sB)) := own_below O5d.out q6; clear hN6 o6; obtain ⟨_, _, _, _, _, _, _, _⟩ := r8 K6.out.row) | (go_at_call 24; refine (kE.out _ g5 cp5 N5 (headB ++ secB 1 n0 sB) 2 2 n1 ⟨g6, 0, none⟩ N6 cp6 iB rfl hN5.out P6.out K6.out.m3 H6.out R6.out (by omega) (by omega) (by omega)).mono ?_; rintro e w7 ⟨v7, rfl, o7, q7⟩; obtain ⟨g7, cp7, N7, rfl, hN7, _⟩ := blk_n o7 (NEb (headB ++ secB 1 n0 sB ++ secB 2 n1 iB) rfl); have K7 : Hid (Kp8 w2.heap.size w w7 gS gC fsB fbB' (.slice a0 n0 c0) (.slice a1 n1 c1) (.slice a2 n2 c2) (.int .i64 pg) (.int .i64 mo) (.slice a3 n3 c3) (.slice a4 n4 c4) (.slice a5 n5 c5)) := K6.out.to q7; have O7 : Hid (PutU.Own w2.heap.size w7 (.slice (some ⟨g7, 0, none⟩) N7 cp7) (headB ++ secB 1 n0 sB ++ secB 2 n1 iB)) := o7; clear o7; obtain ⟨_, _, _, _, _, _, _, _⟩ := r8 K7.out.row)))
    by_cases hp : 0 ≤ pg
    · have U8 := acc_len (headB ++ secB 1 n0 sB ++ secB 2 n1 iB) 3 n2 fsB
      go_wp2_with (go_at_call 24; refine (kE.out _ g7 cp7 N7 (headB ++ secB 1 n0 sB ++ secB 2 n1 iB) 3 3 n2 ⟨gS, 0, none⟩ NS cS fsB rfl hN7.out O7.out K7.out.m3 HS.out K7.out.rs (by omega) (by omega) (by omega)).mono ?_; rintro e w8 ⟨v8, rfl, o8, q8⟩; obtain ⟨g8, cp8, N8, rfl, hN8, _⟩ := blk_n o8 (NEb (headB ++ secB 1 n0 sB ++ secB 2 n1 iB ++ secB 3 n2 fsB) rfl); have K8 : Hid (Kp8 w2.heap.size w w8 gS gC fsB fbB' (.slice a0 n0 c0) (.slice a1 n1 c1) (.slice a2 n2 c2) (.int .i64 pg) (.int .i64 mo) (.slice a3 n3 c3) (.slice a4 n4 c4) (.slice a5 n5 c5)) := K7.out.to q8; have O8 : Hid (PutU.Own w2.heap.size w8 (.slice (some ⟨g8, 0, none⟩) N8 cp8) (headB ++ secB 1 n0 sB ++ secB 2 n1 iB ++ secB 3 n2 fsB)) := o8; clear o8; obtain ⟨_, _, _, _, _, _, _, _⟩ := r8 K8.out.row)
      have U10 := acc_len (headB ++ secB 1 n0 sB ++ secB 2 n1 iB ++ secB 3 n2 fsB) 5 1 mB
      go_wp2_with (first | (go_at_call 28; refine (km.out _).mono ?_; rintro e w9 ⟨v9, rfl, o9, q9⟩; clear km; obtain ⟨g9, cp9, N9, rfl, hN9, _⟩ := blk_n o9 hm; have K9 : Hid (Kp8 w2.heap.size w w9 gS gC fsB fbB' (.slice a0 n0 c0) (.slice a1 n1 c1) (.slice a2 n2 c2) (.int .i64 pg) (.int .i64 mo) (.slice a3 n3 c3) (.slice a4 n4 c4) (.slice a5 n5 c5)) := K8.out.later q9; have R9 : Hid (RdB w9 (some ⟨g9, 0, none⟩) mB) := own_rd' hN9.out o9; have P9 : Hid (PutU.Own w2.heap.size w9 (.slice (some ⟨g8, 0, none⟩) N8 cp8) (headB ++ secB 1 n0 sB ++ secB 2 n1 iB ++ secB 3 n2 fsB)) := own_below O8.out q9; clear o9; obtain ⟨_, _, _, _, _, _, _, _⟩ := r8 K9.out.row) | (go_at_call 24; refine (kE.out _ g8 cp8 N8 (headB ++ secB 1 n0 sB ++ secB 2 n1 iB ++ secB 3 n2 fsB) 5 5 1 ⟨g9, 0, none⟩ N9 cp9 mB rfl hN8.out P9.out K9.out.m3 hN9.out R9.out (by omega) (by omega) (by omega)).mono ?_; rintro e w10 ⟨v10, rfl, o10, q10⟩; obtain ⟨g10, cp10, N10, rfl, hN10, _⟩ := blk_n o10 (NEb (headB ++ secB 1 n0 sB ++ secB 2 n1 iB ++ secB 3 n2 fsB ++ secB 5 1 mB) rfl); have K10 : Hid (Kp8 w2.heap.size w w10 gS gC fsB fbB' (.slice a0 n0 c0) (.slice a1 n1 c1) (.slice a2 n2 c2) (.int .i64 pg) (.int .i64 mo) (.slice a3 n3 c3) (.slice a4 n4 c4) (.slice a5 n5 c5)) := K9.out.to q10; have O10 : Hid (PutU.Own w2.heap.size w10 (.slice (some ⟨g10, 0, none⟩) N10 cp10) (headB ++ secB 1 n0 sB ++ secB 2 n1 iB ++ secB 3 n2 fsB ++ secB 5 1 mB)) := o10; clear o10; obtain ⟨_, _, _, _, _, _, _, _⟩ := r8 K10.out.row))
      have D10 : Hid (Below w10.heap.size w10 w10.drew) := (Below.refl _ _).drew
      have K10d : Hid (Kp8 w2.heap.size w w10.drew gS gC fsB fbB' (.slice a0 n0 c0) (.slice a1 n1 c1) (.slice a2 n2 c2) (.int .i64 pg) (.int .i64 mo) (.slice a3 n3 c3) (.slice a4 n4 c4) (.slice a5 n5 c5)) := K10.out.later D10.out
      have O10d : Hid (PutU.Own w2.heap.size w10.drew (.slice (some ⟨g10, 0, none⟩) N10 cp10) (headB ++ secB 1 n0 sB ++ secB 2 n1 iB ++ secB 3 n2 fsB ++ secB 5 1 mB)) := own_below O10.out D10.out
      have U12 := acc_len (headB ++ secB 1 n0 sB ++ secB 2 n1 iB ++ secB 3 n2 fsB ++ secB 5 1 mB) 6 n3 gB
      go_wp2_with fail
      go_region_held3 (fun w' => w'.cell? ⟨w.heap.size, 5, none⟩ = some (.slice a3 n3 c3)) (go_keep)
        ((first | (go_at_call 29; refine (kg.out _ K10d.out.bel).mono ?_; rintro e w11 ⟨g11, N11, cp11, rfl, hN11, o11, q11⟩; clear kg; have K11 : Hid (Kp8 w2.heap.size w w11 gS gC fsB fbB' (.slice a0 n0 c0) (.slice a1 n1 c1) (.slice a2 n2 c2) (.int .i64 pg) (.int .i64 mo) (.slice a3 n3 c3) (.slice a4 n4 c4) (.slice a5 n5 c5)) := K10d.out.later q11; have R11 : Hid (RdB w11 (some ⟨g11, 0, none⟩) gB) := own_rd' hN11 o11; have H11 : Hid (N11 = (gB).length) := hN11; have P11 : Hid (PutU.Own w2.heap.size w11 (.slice (some ⟨g10, 0, none⟩) N10 cp10) (headB ++ secB 1 n0 sB ++ secB 2 n1 iB ++ secB 3 n2 fsB ++ secB 5 1 mB)) := own_below O10d.out q11; clear hN11 o11; obtain ⟨_, _, _, _, _, _, _, _⟩ := r8 K11.out.row) | (go_at_call 24; refine (kE.out _ g10 cp10 N10 (headB ++ secB 1 n0 sB ++ secB 2 n1 iB ++ secB 3 n2 fsB ++ secB 5 1 mB) 6 6 n3 ⟨g11, 0, none⟩ N11 cp11 gB rfl hN10.out P11.out K11.out.m3 H11.out R11.out (by omega) (by omega) (by omega)).mono ?_; rintro e w12 ⟨v12, rfl, o12, q12⟩; obtain ⟨g12, cp12, N12, rfl, hN12, _⟩ := blk_n o12 (NEb (headB ++ secB 1 n0 sB ++ secB 2 n1 iB ++ secB 3 n2 fsB ++ secB 5 1 mB ++ secB 6 n3 gB) rfl); have K12 : Hid (Kp8 w2.heap.size w w12 gS gC fsB fbB' (.slice a0 n0 c0) (.slice a1 n1 c1) (.slice a2 n2 c2) (.int .i64 pg) (.int .i64 mo) (.slice a3 n3 c3) (.slice a4 n4 c4) (.slice a5 n5 c5)) := K11.out.to q12; have O12 : Hid (PutU.Own w2.heap.size w12 (.slice (some ⟨g12, 0, none⟩) N12 cp12) (headB ++ secB 1 n0 sB ++ secB 2 n1 iB ++ secB 3 n2 fsB ++ secB 5 1 mB ++ secB 6 n3 gB)) := o12; clear o12; obtain ⟨_, _, _, _, _, _, _, _⟩ := r8 K12.out.row)))
      have D12 : Hid (Below w12.heap.size w12 w12.drew) := (Below.refl _ _).drew
      have K12d : Hid (Kp8 w2.heap.size w w12.drew gS gC fsB fbB' (.slice a0 n0 c0) (.slice a1 n1 c1) (.slice a2 n2 c2) (.int .i64 pg) (.int .i64 mo) (.slice a3 n3 c3) (.slice a4 n4 c4) (.slice a5 n5 c5)) := K12.out.later D12.out
      have O12d : Hid (PutU.Own w2.heap.size w12.drew (.slice (some ⟨g12, 0, none⟩) N12 cp12) (headB ++ secB 1 n0 sB ++ secB 2 n1 iB ++ secB 3 n2 fsB ++ secB 5 1 mB ++ secB 6 n3 gB)) := own_below O12.out D12.out
      have U14 := acc_len (headB ++ secB 1 n0 sB ++ secB 2 n1 iB ++ secB 3 n2 fsB ++ secB 5 1 mB ++ secB 6 n3 gB) 7 n4 eB
      go_wp2_with fail
      go_region_held3 (fun w' => w'.cell? ⟨w.heap.size, 6, none⟩ = some (.slice a4 n4 c4)) (go_keep)
        ((first | (go_at_call 30; refine (ke.out _ K12d.out.bel).mono ?_; rintro e w13 ⟨g13, N13, cp13, rfl, hN13, o13, q13⟩; clear ke; have K13 : Hid (Kp8 w2.heap.size w w13 gS gC fsB fbB' (.slice a0 n0 c0) (.slice a1 n1 c1) (.slice a2 n2 c2) (.int .i64 pg) (.int .i64 mo) (.slice a3 n3 c3) (.slice a4 n4 c4) (.slice a5 n5 c5)) := K12d.out.later q13; have R13 : Hid (RdB w13 (some ⟨g13, 0, none⟩) eB) := own_rd' hN13 o13; have H13 : Hid (N13 = (eB).length) := hN13; have P13 : Hid (PutU.Own w2.heap.size w13 (.slice (some ⟨g12, 0, none⟩) N12 cp12) (headB ++ secB 1 n0 sB ++ secB 2 n1 iB ++ secB 3 n2 fsB ++ secB 5 1 mB ++ secB 6 n3 gB)) := own_below O12d.out q13; clear hN13 o13; obtain ⟨_, _, _, _, _, _, _, _⟩ := r8 K13.out.row) | (go_at_call 24; refine (kE.out _ g12 cp12 N12 (headB ++ secB 1 n0 sB ++ secB 2 n1 iB ++ secB 3 n2 fsB ++ secB 5 1 mB ++ secB 6 n3 gB) 7 7 n4 ⟨g13, 0, none⟩ N13 cp13 eB rfl hN12.out P13.out K13.out.m3 H13.out R13.out (by omega) (by omega) (by omega)).mono ?_; rintro e w14 ⟨v14, rfl, o14, q14⟩; obtain ⟨g14, cp14, N14, rfl, hN14, _⟩ := blk_n o14 (NEb (headB ++ secB 1 n0 sB ++ secB 2 n1 iB ++ secB 3 n2 fsB ++ secB 5 1 mB ++ secB 6 n3 gB ++ secB 7 n4 eB) rfl); have K14 : Hid (Kp8 w2.heap.size w w14 gS gC fsB fbB' (.slice a0 n0 c0) (.slice a1 n1 c1) (.slice a2 n2 c2) (.int .i64 pg) (.int .i64 mo) (.slice a3 n3 c3) (.slice a4 n4 c4) (.slice a5 n5 c5)) := K13.out.to q14; have O14 : Hid (PutU.Own w2.heap.size w14 (.slice (some ⟨g14, 0, none⟩) N14 cp14) (headB ++ secB 1 n0 sB ++ secB 2 n1 iB ++ secB 3 n2 fsB ++ secB 5 1 mB ++ secB 6 n3 gB ++ secB 7 n4 eB)) := o14; clear o14; obtain ⟨_, _, _, _, _, _, _, _⟩ := r8 K14.out.row)))
      have U15 := acc_len (headB ++ secB 1 n0 sB ++ secB 2 n1 iB ++ secB 3 n2 fsB ++ secB 5 1 mB ++ secB 6 n3 gB ++ secB 7 n4 eB) 10 n2 fbB'
      go_wp2_with (go_at_call 24; refine (kE.out _ g14 cp14 N14 (headB ++ secB 1 n0 sB ++ secB 2 n1 iB ++ secB 3 n2 fsB ++ secB 5 1 mB ++ secB 6 n3 gB ++ secB 7 n4 eB) 10 10 n2 ⟨gC, 0, none⟩ NC cC fbB' rfl hN14.out O14.out K14.out.m3 HC.out K14.out.rc (by omega) (by omega) (by omega)).mono ?_; rintro e w15 ⟨v15, rfl, o15, q15⟩; obtain ⟨g15, cp15, N15, rfl, hN15, _⟩ := blk_n o15 (NEb (headB ++ secB 1 n0 sB ++ secB 2 n1 iB ++ secB 3 n2 fsB ++ secB 5 1 mB ++ secB 6 n3 gB ++ secB 7 n4 eB ++ secB 10 n2 fbB') rfl); have K15 : Hid (Kp8 w2.heap.size w w15 gS gC fsB fbB' (.slice a0 n0 c0) (.slice a1 n1 c1) (.slice a2 n2 c2) (.int .i64 pg) (.int .i64 mo) (.slice a3 n3 c3) (.slice a4 n4 c4) (.slice a5 n5 c5)) := K14.out.to q15; have O15 : Hid (PutU.Own w2.heap.size w15 (.slice (some ⟨g15, 0, none⟩) N15 cp15) (headB ++ secB 1 n0 sB ++ secB 2 n1 iB ++ secB 3 n2 fsB ++ secB 5 1 mB ++ secB 6 n3 gB ++ secB 7 n4 eB ++ secB 10 n2 fbB')) := o15; clear o15; obtain ⟨_, _, _, _, _, _, _, _⟩ := r8 K15.out.row)
      have D15 : Hid (Below w15.heap.size w15 w15.drew) := (Below.refl _ _).drew
      have K15d : Hid (Kp8 w2.heap.size w w15.drew gS gC fsB fbB' (.slice a0 n0 c0) (.slice a1 n1 c1) (.slice a2 n2 c2) (.int .i64 pg) (.int .i64 mo) (.slice a3 n3 c3) (.slice a4 n4 c4) (.slice a5 n5 c5)) := K15.out.later D15.out
      have O15d : Hid (PutU.Own w2.heap.size w15.drew (.slice (some ⟨g15, 0, none⟩) N15 cp15) (headB ++ secB 1 n0 sB ++ secB 2 n1 iB ++ secB 3 n2 fsB ++ secB 5 1 mB ++ secB 6 n3 gB ++ secB 7 n4 eB ++ secB 10 n2 fbB')) := own_below O15.out D15.out
      have U17 := acc_len (headB ++ secB 1 n0 sB ++ secB 2 n1 iB ++ secB 3 n2 fsB ++ secB 5 1 mB ++ secB 6 n3 gB ++ secB 7 n4 eB ++ secB 10 n2 fbB') 11 n5 dB'
      go_wp2_with fail
      go_region_held3 (fun w' => w'.cell? ⟨w.heap.size, 7, none⟩ = some (.slice a5 n5 c5)) (go_keep)
        ((first | (go_at_call 31; refine (kd.out _ K15d.out.bel).mono ?_; rintro e w16 ⟨g16, N16, cp16, rfl, hN16, o16, q16⟩; clear kd; have K16 : Hid (Kp8 w2.heap.size w w16 gS gC fsB fbB' (.slice a0 n0 c0) (.slice a1 n1 c1) (.slice a2 n2 c2) (.int .i64 pg) (.int .i64 mo) (.slice a3 n3 c3) (.slice a4 n4 c4) (.slice a5 n5 c5)) := K15d.out.later q16; have R16 : Hid (RdB w16 (some ⟨g16, 0, none⟩) dB') := own_rd' hN16 o16; have H16 : Hid (N16 = (dB').length) := hN16; have P16 : Hid (PutU.Own w2.heap.size w16 (.slice (some ⟨g15, 0, none⟩) N15 cp15) (headB ++ secB 1 n0 sB ++ secB 2 n1 iB ++ secB 3 n2 fsB ++ secB 5 1 mB ++ secB 6 n3 gB ++ secB 7 n4 eB ++ secB 10 n2 fbB')) := own_below O15d.out q16; clear hN16 o16; obtain ⟨_, _, _, _, _, _, _, _⟩ := r8 K16.out.row) | (go_at_call 24; refine (kE.out _ g15 cp15 N15 (headB ++ secB 1 n0 sB ++ secB 2 n1 iB ++ secB 3 n2 fsB ++ secB 5 1 mB ++ secB 6 n3 gB ++ secB 7 n4 eB ++ secB 10 n2 fbB') 11 11 n5 ⟨g16, 0, none⟩ N16 cp16 dB' rfl hN15.out P16.out K16.out.m3 H16.out R16.out (by omega) (by omega) (by omega)).mono ?_; rintro e w17 ⟨v17, rfl, o17, q17⟩; obtain ⟨g17, cp17, N17, rfl, hN17, _⟩ := blk_n o17 (NEb (headB ++ secB 1 n0 sB ++ secB 2 n1 iB ++ secB 3 n2 fsB ++ secB 5 1 mB ++ secB 6 n3 gB ++ secB 7 n4 eB ++ secB 10 n2 fbB' ++ secB 11 n5 dB') rfl); have K17 : Hid (Kp8 w2.heap.size w w17 gS gC fsB fbB' (.slice a0 n0 c0) (.slice a1 n1 c1) (.slice a2 n2 c2) (.int .i64 pg) (.int .i64 mo) (.slice a3 n3 c3) (.slice a4 n4 c4) (.slice a5 n5 c5)) := K16.out.to q17; have O17 : Hid (PutU.Own w2.heap.size w17 (.slice (some ⟨g17, 0, none⟩) N17 cp17) (headB ++ secB 1 n0 sB ++ secB 2 n1 iB ++ secB 3 n2 fsB ++ secB 5 1 mB ++ secB 6 n3 gB ++ secB 7 n4 eB ++ secB 10 n2 fbB' ++ secB 11 n5 dB')) := o17; clear o17; obtain ⟨_, _, _, _, _, _, _, _⟩ := r8 K17.out.row)))
      go_wp2_with fail
      go_ret2
      exact ⟨_, rfl, by rw [hA.out, if_pos hp]; exact own_mono O17.out (Nat.le_of_lt K2.out.m0), K17.out.bel⟩
    · have hp' : pg < 0 := by omega
      have U8 := acc_len (headB ++ secB 1 n0 sB ++ secB 2 n1 iB) 3 n2 fsB
      go_wp2_with (go_at_call 24; refine (kE.out _ g7 cp7 N7 (headB ++ secB 1 n0 sB ++ secB 2 n1 iB) 3 3 n2 ⟨gS, 0, none⟩ NS cS fsB rfl hN7.out O7.out K7.out.m3 HS.out K7.out.rs (by omega) (by omega) (by omega)).mono ?_; rintro e w8 ⟨v8, rfl, o8, q8⟩; obtain ⟨g8, cp8, N8, rfl, hN8, _⟩ := blk_n o8 (NEb (headB ++ secB 1 n0 sB ++ secB 2 n1 iB ++ secB 3 n2 fsB) rfl); have K8 : Hid (Kp8 w2.heap.size w w8 gS gC fsB fbB' (.slice a0 n0 c0) (.slice a1 n1 c1) (.slice a2 n2 c2) (.int .i64 pg) (.int .i64 mo) (.slice a3 n3 c3) (.slice a4 n4 c4) (.slice a5 n5 c5)) := K7.out.to q8; have O8 : Hid (PutU.Own w2.heap.size w8 (.slice (some ⟨g8, 0, none⟩) N8 cp8) (headB ++ secB 1 n0 sB ++ secB 2 n1 iB ++ secB 3 n2 fsB)) := o8; clear o8; obtain ⟨_, _, _, _, _, _, _, _⟩ := r8 K8.out.row)
      have D8 : Hid (Below w8.heap.size w8 w8.drew) := (Below.refl _ _).drew
      have K8d : Hid (Kp8 w2.heap.size w w8.drew gS gC fsB fbB' (.slice a0 n0 c0) (.slice a1 n1 c1) (.slice a2 n2 c2) (.int .i64 pg) (.int .i64 mo) (.slice a3 n3 c3) (.slice a4 n4 c4) (.slice a5 n5 c5)) := K8.out.later D8.out
      have O8d : Hid (PutU.Own w2.heap.size w8.drew (.slice (some ⟨g8, 0, none⟩) N8 cp8) (headB ++ secB 1 n0 sB ++ secB 2 n1 iB ++ secB 3 n2 fsB)) := own_below O8.out D8.out
      have U10 := acc_len (headB ++ secB 1 n0 sB ++ secB 2 n1 iB ++ secB 3 n2 fsB) 6 n3 gB
      go_wp2_with fail
      go_region_held3 (fun w' => w'.cell? ⟨w.heap.size, 5, none⟩ = some (.slice a3 n3 c3)) (go_keep)
        ((first | (go_at_call 29; refine (kg.out _ K8d.out.bel).mono ?_; rintro e w9 ⟨g9, N9, cp9, rfl, hN9, o9, q9⟩; clear kg; have K9 : Hid (Kp8 w2.heap.size w w9 gS gC fsB fbB' (.slice a0 n0 c0) (.slice a1 n1 c1) (.slice a2 n2 c2) (.int .i64 pg) (.int .i64 mo) (.slice a3 n3 c3) (.slice a4 n4 c4) (.slice a5 n5 c5)) := K8d.out.later q9; have R9 : Hid (RdB w9 (some ⟨g9, 0, none⟩) gB) := own_rd' hN9 o9; have H9 : Hid (N9 = (gB).length) := hN9; have P9 : Hid (PutU.Own w2.heap.size w9 (.slice (some ⟨g8, 0, none⟩) N8 cp8) (headB ++ secB 1 n0 sB ++ secB 2 n1 iB ++ secB 3 n2 fsB)) := own_below O8d.out q9; clear hN9 o9; obtain ⟨_, _, _, _, _, _, _, _⟩ := r8 K9.out.row) | (go_at_call 24; refine (kE.out _ g8 cp8 N8 (headB ++ secB 1 n0 sB ++ secB 2 n1 iB ++ secB 3 n2 fsB) 6 6 n3 ⟨g9, 0, none⟩ N9 cp9 gB rfl hN8.out P9.out K9.out.m3 H9.out R9.out (by omega) (by omega) (by omega)).mono ?_; rintro e w10 ⟨v10, rfl, o10, q10⟩; obtain ⟨g10, cp10, N10, rfl, hN10, _⟩ := blk_n o10 (NEb (headB ++ secB 1 n0 sB ++ secB 2 n1 iB ++ secB 3 n2 fsB ++ secB 6 n3 gB) rfl); have K10 : Hid (Kp8 w2.heap.size w w10 gS gC fsB fbB' (.slice a0 n0 c0) (.slice a1 n1 c1) (.slice a2 n2 c2) (.int .i64 pg) (.int .i64 mo) (.slice a3 n3 c3) (.slice a4 n4 c4) (.slice a5 n5 c5)) := K9.out.to q10; have O10 : Hid (PutU.Own w2.heap.size w10 (.slice (some ⟨g10, 0, none⟩) N10 cp10) (headB ++ secB 1 n0 sB ++ secB 2 n1 iB ++ secB 3 n2 fsB ++ secB 6 n3 gB)) := o10; clear o10; obtain ⟨_, _, _, _, _, _, _, _⟩ := r8 K10.out.row)))
      have D10 : Hid (Below w10.heap.size w10 w10.drew) := (Below.refl _ _).drew
      have K10d : Hid (Kp8 w2.heap.size w w10.drew gS gC fsB fbB' (.slice a0 n0 c0) (.slice a1 n1 c1) (.slice a2 n2 c2) (.int .i64 pg) (.int .i64 mo) (.slice a3 n3 c3) (.slice a4 n4 c4) (.slice a5 n5 c5)) := K10.out.later D10.out
      have O10d : Hid (PutU.Own w2.heap.size w10.drew (.slice (some ⟨g10, 0, none⟩) N10 cp10) (headB ++ secB 1 n0 sB ++ secB 2 n1 iB ++ secB 3 n2 fsB ++ secB 6 n3 gB)) := own_below O10.out D10.out
      have U12 := acc_len (headB ++ secB 1 n0 sB ++ secB 2 n1 iB ++ secB 3 n2 fsB ++ secB 6 n3 gB) 7 n4 eB
      go_wp2_with fail
      go_region_held3 (fun w' => w'.cell? ⟨w.heap.size, 6, none⟩ = some (.slice a4 n4 c4)) (go_keep)
        ((first | (go_at_call 30; refine (ke.out _ K10d.out.bel).mono ?_; rintro e w11 ⟨g11, N11, cp11, rfl, hN11, o11, q11⟩; clear ke; have K11 : Hid (Kp8 w2.heap.size w w11 gS gC fsB fbB' (.slice a0 n0 c0) (.slice a1 n1 c1) (.slice a2 n2 c2) (.int .i64 pg) (.int .i64 mo) (.slice a3 n3 c3) (.slice a4 n4 c4) (.slice a5 n5 c5)) := K10d.out.later q11; have R11 : Hid (RdB w11 (some ⟨g11, 0, none⟩) eB) := own_rd' hN11 o11; have H11 : Hid (N11 = (eB).length) := hN11; have P11 : Hid (PutU.Own w2.heap.size w11 (.slice (some ⟨g10, 0, none⟩) N10 cp10) (headB ++ secB 1 n0 sB ++ secB 2 n1 iB ++ secB 3 n2 fsB ++ secB 6 n3 gB)) := own_below O10d.out q11; clear hN11 o11; obtain ⟨_, _, _, _, _, _, _, _⟩ := r8 K11.out.row) | (go_at_call 24; refine (kE.out _ g10 cp10 N10 (headB ++ secB 1 n0 sB ++ secB 2 n1 iB ++ secB 3 n2 fsB ++ secB 6 n3 gB) 7 7 n4 ⟨g11, 0, none⟩ N11 cp11 eB rfl hN10.out P11.out K11.out.m3 H11.out R11.out (by omega) (by omega) (by omega)).mono ?_; rintro e w12 ⟨v12, rfl, o12, q12⟩; obtain ⟨g12, cp12, N12, rfl, hN12, _⟩ := blk_n o12 (NEb (headB ++ secB 1 n0 sB ++ secB 2 n1 iB ++ secB 3 n2 fsB ++ secB 6 n3 gB ++ secB 7 n4 eB) rfl); have K12 : Hid (Kp8 w2.heap.size w w12 gS gC fsB fbB' (.slice a0 n0 c0) (.slice a1 n1 c1) (.slice a2 n2 c2) (.int .i64 pg) (.int .i64 mo) (.slice a3 n3 c3) (.slice a4 n4 c4) (.slice a5 n5 c5)) := K11.out.to q12; have O12 : Hid (PutU.Own w2.heap.size w12 (.slice (some ⟨g12, 0, none⟩) N12 cp12) (headB ++ secB 1 n0 sB ++ secB 2 n1 iB ++ secB 3 n2 fsB ++ secB 6 n3 gB ++ secB 7 n4 eB)) := o12; clear o12; obtain ⟨_, _, _, _, _, _, _, _⟩ := r8 K12.out.row)))
      have U13 := acc_len (headB ++ secB 1 n0 sB ++ secB 2 n1 iB ++ secB 3 n2 fsB ++ secB 6 n3 gB ++ secB 7 n4 eB) 10 n2 fbB'
      go_wp2_with (go_at_call 24; refine (kE.out _ g12 cp12 N12 (headB ++ secB 1 n0 sB ++ secB 2 n1 iB ++ secB 3 n2 fsB ++ secB 6 n3 gB ++ secB 7 n4 eB) 10 10 n2 ⟨gC, 0, none⟩ NC cC fbB' rfl hN12.out O12.out K12.out.m3 HC.out K12.out.rc (by omega) (by omega) (by omega)).mono ?_; rintro e w13 ⟨v13, rfl, o13, q13⟩; obtain ⟨g13, cp13, N13, rfl, hN13, _⟩ := blk_n o13 (NEb (headB ++ secB 1 n0 sB ++ secB 2 n1 iB ++ secB 3 n2 fsB ++ secB 6 n3 gB ++ secB 7 n4 eB ++ secB 10 n2 fbB') rfl); have K13 : Hid (Kp8 w2.heap.size w w13 gS gC fsB fbB' (.slice a0 n0 c0) (.slice a1 n1 c1) (.slice a2 n2 c2) (.int .i64 pg) (.int .i64 mo) (.slice a3 n3 c3) (.slice a4 n4 c4) (.slice a5 n5 c5)) := K12.out.to q13; have O13 : Hid (PutU.Own w2.heap.size w13 (.slice (some ⟨g13, 0, none⟩) N13 cp13) (headB ++ secB 1 n0 sB ++ secB 2 n1 iB ++ secB 3 n2 fsB ++ secB 6 n3 gB ++ secB 7 n4 eB ++ secB 10 n2 fbB')) := o13; clear o13; obtain ⟨_, _, _, _, _, _, _, _⟩ := r8 K13.out.row)
      have D13 : Hid (Below w13.heap.size w13 w13.drew) := (Below.refl _ _).drew
      have K13d : Hid (Kp8 w2.heap.size w w13.drew gS gC fsB fbB' (.slice a0 n0 c0) (.slice a1 n1 c1) (.slice a2 n2 c2) (.int .i64 pg) (.int .i64 mo) (.slice a3 n3 c3) (.slice a4 n4 c4) (.slice a5 n5 c5)) := K13.out.later D13.out
      have O13d : Hid (PutU.Own w2.heap.size w13.drew (.slice (some ⟨g13, 0, none⟩) N13 cp13) (headB ++ secB 1 n0 sB ++ secB 2 n1 iB ++ secB 3 n2 fsB ++ secB 6 n3 gB ++ secB 7 n4 eB ++ secB 10 n2 fbB')) := own_below O13.out D13.out
      have U15 := acc_len (headB ++ secB 1 n0 sB ++ secB 2 n1 iB ++ secB 3 n2 fsB ++ secB 6 n3 gB ++ secB 7 n4 eB ++ secB 10 n2 fbB') 11 n5 dB'
      go_wp2_with fail
      go_region_held3 (fun w' => w'.cell? ⟨w.heap.size, 7, none⟩ = some (.slice a5 n5 c5)) (go_keep)
        ((first | (go_at_call 31; refine (kd.out _ K13d.out.bel).mono ?_; rintro e w14 ⟨g14, N14, cp14, rfl, hN14, o14, q14⟩; clear kd; have K14 : Hid (Kp8 w2.heap.size w w14 gS gC fsB fbB' (.slice a0 n0 c0) (.slice a1 n1 c1) (.slice a2 n2 c2) (.int .i64 pg) (.int .i64 mo) (.slice a3 n3 c3) (.slice a4 n4 c4) (.slice a5 n5 c5)) := K13d.out.later q14; have R14 : Hid (RdB w14 (some ⟨g14, 0, none⟩) dB') := own_rd' hN14 o14; have H14 : Hid (N14 = (dB').length) := hN14; have P14 : Hid (PutU.Own w2.heap.size w14 (.slice (some ⟨g13, 0, none⟩) N13 cp13) (headB ++ secB 1 n0 sB ++ secB 2 n1 iB ++ secB 3 n2 fsB ++ secB 6 n3 gB ++ secB 7 n4 eB ++ secB 10 n2 fbB')) := own_below O13d.out q14; clear hN14 o14; obtain ⟨_, _, _, _, _, _, _, _⟩ := r8 K14.out.row) | (go_at_call 24; refine (kE.out _ g13 cp13 N13 (headB ++ secB 1 n0 sB ++ secB 2 n1 iB ++ secB 3 n2 fsB ++ secB 6 n3 gB ++ secB 7 n4 eB ++ secB 10 n2 fbB') 11 11 n5 ⟨g14, 0, none⟩ N14 cp14 dB' rfl hN13.out P14.out K14.out.m3 H14.out R14.out (by omega) (by omega) (by omega)).mono ?_; rintro e w15 ⟨v15, rfl, o15, q15⟩; obtain ⟨g15, cp15, N15, rfl, hN15, _⟩ := blk_n o15 (NEb (headB ++ secB 1 n0 sB ++ secB 2 n1 iB ++ secB 3 n2 fsB ++ secB 6 n3 gB ++ secB 7 n4 eB ++ secB 10 n2 fbB' ++ secB 11 n5 dB') rfl); have K15 : Hid (Kp8 w2.heap.size w w15 gS gC fsB fbB' (.slice a0 n0 c0) (.slice a1 n1 c1) (.slice a2 n2 c2) (.int .i64 pg) (.int .i64 mo) (.slice a3 n3 c3) (.slice a4 n4 c4) (.slice a5 n5 c5)) := K14.out.to q15; have O15 : Hid (PutU.Own w2.heap.size w15 (.slice (some ⟨g15, 0, none⟩) N15 cp15) (headB ++ secB 1 n0 sB ++ secB 2 n1 iB ++ secB 3 n2 fsB ++ secB 6 n3 gB ++ secB 7 n4 eB ++ secB 10 n2 fbB' ++ secB 11 n5 dB')) := o15; clear o15; obtain ⟨_, _, _, _, _, _, _, _⟩ := r8 K15.out.row)))
      go_wp2_with fail
      go_ret2
      exact ⟨_, rfl, by rw [hA.out, if_neg (by omega), List.append_nil]; exact own_mono O15.out (Nat.le_of_lt K2.out.m0), K15.out.bel⟩
end Go.Proofs.YtffngjgjhialnaaGreatDoor.SpecModule
namespace Go.Proofs.YtffngjgjhialnaaGreatDoor.SpecModB
open Go.RowKit PlainNum PlainLeb NumCalls ByteMem PutU PutULaw PlainBytes PlainShape PlainAll InsMem SpecIns SpecBody WrMod WrParts WrSec SpecSec SpecParts SpecGlobs ModMem ModB FormImpl SpecModule
theorem memB_ne (p m : Int) : memB p m ≠ [] := by
  unfold memB
  split <;> simp
theorem all_is {m : M} (hf : formOk m = true) (g : ModB.Good m) : modB m = headB ++ secB 1 m.sigs.length (catP (FS m) m.sigs.length) ++ secB 2 m.imps.length (catP (FI m) m.imps.length) ++ secB 3 m.fns.length (catP (FF m) m.fns.length) ++ (if 0 ≤ m.pages then secB 5 1 (memB m.pages m.most) else []) ++ secB 6 m.gls.length (catP (FG m) m.gls.length) ++ secB 7 m.exs.length (catP (FE m) m.exs.length) ++ secB 10 m.fns.length (catP (FB m) m.fns.length) ++ secB 11 m.dat.length (catP (FD m) m.dat.length) := by
  have e3 : secs m 3 = if 0 ≤ m.pages then secB 5 1 (memB m.pages m.most) else [] := by
    show secB 5 (mc m) (catP (FM m) (mc m)) = _
    by_cases hp : m.pages = -1
    · rw [show mc m = 0 from if_pos hp, if_neg (by omega)]
      rfl
    · have : 0 ≤ m.pages := by rcases g.mem with h | h <;> omega
      rw [show mc m = 1 from if_neg hp, if_pos this]
      rfl
  rw [show modB m = allB m from if_pos hf]
  unfold allB
  rw [e3]
  rfl
set_option maxRecDepth 20000 in
set_option maxHeartbeats 2000000 in
theorem spec_moduleBytes (w : World) (p : P) (m : M) (h : Rd w p m) (hs : Small m) (hd : ∀ k, k < m.dat.length → ∃ g off, (MemData.at1 m.dat k).ad = some ⟨g, off, none⟩) :
    Calls Tryz.prog 6 #[val p m] w fun e w' => ∃ v, e = .returned (.tuple #[v, .bool (formOk m)]) ∧ PutU.Own w.heap.size w' v (modB m) ∧ Below w.heap.size w w' := by
  have kF : Hid (∀ u, Below w.heap.size w u → Calls Tryz.prog 22 #[val p m] u fun e w' => e = .returned (.bool (formOk m)) ∧ Below u.heap.size u w') := fun u hu => FormSpec.spec_formOk u p m (h.later hu) hs
  cases hf : formOk m with
  | false =>
    have e1 : Hid (modB m = []) := if_neg (by rw [hf]; decide)
    rw [hf] at kF
    obtain ⟨a0, c0, a1, c1, a2, c2, a3, c3, a4, c4, a5, c5⟩ := p
    obtain ⟨sigs, imps, fns, pages, most, gls, exs, dat⟩ := m
    simp only [val] at kF ⊢
    clear h hs hd hf
    have ba : Hid (Below w.heap.size w (w.alloc (.cells #[.slice a0 sigs.length c0, .slice a1 imps.length c1, .slice a2 fns.length c2, .int .i64 pages, .int .i64 most, .slice a3 gls.length c3, .slice a4 exs.length c4, .slice a5 dat.length c5] 41))) := (Below.refl _ _).alloc (Nat.le_refl _) _
    go_enter Tryz.func6, Tryz.ntmps6
    go_wp2_with (go_at_call 22; refine (kF.out _ ba.out).mono ?_; rintro e w1 ⟨rfl, q1⟩)
    go_ret2
    exact ⟨_, rfl, by rw [e1.out]; exact World.ownsRow_nil _ _ _ _, ba.out.trans (q1.mono ba.out.size)⟩
  | true =>
    have g := good_of hf
    rw [hf] at kF
    have l0 := FS_len g
    have l1 := FI_len g
    have l2 := FF_len g
    have l4 := FG_len g
    have l5 := FE_len g
    have l6 := FB_len g
    have l7 := FD_len g
    have l3 : (memB m.pages m.most).length ≤ 3000000 := by
      have h1 := uv_len m.pages
      have h2 := uv_len m.most
      unfold memB
      split <;> simp <;> omega
    have b0 := g.c0
    have b1 := g.c1
    have b2 := g.c2
    have b3 := g.c3
    have b4 := g.c4
    have b5 := g.c5
    exact spec_all w p.a0 p.a1 p.a2 p.a3 p.a4 p.a5 m.sigs.length p.c0 m.imps.length p.c1 m.fns.length p.c2 m.gls.length p.c3 m.exs.length p.c4 m.dat.length p.c5 m.pages m.most
      (catP (FS m) m.sigs.length) (catP (FI m) m.imps.length) (catP (FF m) m.fns.length) (memB m.pages m.most) (catP (FG m) m.gls.length) (catP (FE m) m.exs.length) (catP (FB m) m.fns.length) (catP (FD m) m.dat.length)
      kF
      (fun u hu => SpecFuncs.spec_funcs u p.a2 p.c2 m.fns (h.2.2.1.later hu) (by omega) (fun k hk => by obtain ⟨x, y, z, t⟩ := g.g2 k hk; exact ⟨by omega, y, z, by omega⟩))
      (fun u hu => SpecSigs.spec_sigs u p.a0 p.c0 m.sigs (h.1.later hu) (by omega) (fun k hk => by obtain ⟨x, y, z, t⟩ := g.g0 k hk; exact ⟨x, by omega, z, by omega⟩))
      (fun u hu => SpecImps.spec_imports u p.a1 p.c1 m.imps (h.2.1.later hu) (by omega) (fun k hk => by obtain ⟨x, y⟩ := g.g1 k hk; exact ⟨by omega, by omega⟩))
      (fun u hu => SpecGlobs.spec_globals u p.a3 p.c3 m.gls (h.2.2.2.1.later hu) (by omega))
      (fun u hu => SpecExps.spec_exports u p.a4 p.c4 m.exs (h.2.2.2.2.1.later hu) (by omega) (fun k hk => by have := g.g4 k hk; omega))
      (fun u hu => SpecData.spec_data u p.a5 p.c5 m.dat (h.2.2.2.2.2.later hu) (by omega) (fun k hk => by have := g.g5 k hk; omega) hd)
      (fun u => spec_memory u p.a0 p.a1 p.a2 p.a3 p.a4 p.a5 _ _ _ _ _ _ _ _ _ _ _ _ m.pages m.most (by rcases g.mem with h | h <;> omega))
      (memB_ne _ _) (modB m) (all_is hf g) ⟨by omega, by omega, by omega, by omega, by omega, by omega, by omega, by omega⟩ ⟨by omega, by omega, by omega, by omega, by omega, by omega⟩
end Go.Proofs.YtffngjgjhialnaaGreatDoor.SpecModB
