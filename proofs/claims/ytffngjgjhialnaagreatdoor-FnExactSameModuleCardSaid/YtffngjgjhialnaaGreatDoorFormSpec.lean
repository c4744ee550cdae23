/-
  What the specification's FormOk answers when it is called. (Written by my formgen3.py.)
-/
import Derived.Test.YtffngjgjhialnaaGreatDoorFormImpl
namespace Go.Proofs.YtffngjgjhialnaaGreatDoor.FormSpec
open Go.RowKit PlainOps NameCalls PlainNum NumCalls InsCalls InsImpl PlainShape InsMem PlainAll EveryIns FormCalls ModMem FormImpl
theorem spec_name (s : ByteArray) (w : World) (hs : s.size ≤ 1048576) :
    Calls Tryz.prog 75 #[.string s] w fun e w' => e = .returned (.bool (nmOk s)) ∧ w = w' := by
  have hU : Hid (Calls Tryz.prog 120 #[.string s] w fun e w' => e = .returned (.bool (UtfLaw.okF s s.size 0)) ∧ w = w') := UtfLaw.spec_utfOk s w hs
  unfold nmOk
  generalize UtfLaw.okF s s.size 0 = A at *
  cases A with
  | false =>
    rw [Bool.and_false]
    go_enter Tryz.func75, Tryz.ntmps75
    go_wp2_with (go_at_call 120; refine hU.out.mono ?_; rintro e w1 ⟨rfl, rfl⟩)
    go_ret
    exact ⟨rfl, rfl⟩
  | true =>
    rw [Bool.and_true]
    by_cases h : s.size ≤ 40
    · have h1 : (s.size : Int) ≤ 40 := by omega
      rw [decide_eq_true h]
      clear h
      go_enter Tryz.func75, Tryz.ntmps75
      go_wp2_with (go_at_call 120; refine hU.out.mono ?_; rintro e w1 ⟨rfl, rfl⟩)
      go_ret
      exact ⟨rfl, rfl⟩
    · have h1 : ¬ (s.size : Int) ≤ 40 := by omega
      have h2 : decide ((s.size : Int) ≤ 40) = false := decide_eq_false h1
      rw [decide_eq_false h]
      clear h
      go_enter Tryz.func75, Tryz.ntmps75
      go_wp2_with (go_at_call 120; refine hU.out.mono ?_; rintro e w1 ⟨rfl, rfl⟩)
      go_ret
      exact ⟨rfl, rfl⟩
set_option maxHeartbeats 8000000 in
theorem spec_body (w : World) (a : Option Addr) (cap : Nat) (l : List I3) (h : RdI w a l) (hn : l.length ≤ 1048576) :
    Calls Tryz.prog 118 #[.slice a l.length cap] w fun e w' => e = .returned (.bool (boOk l)) ∧ Below w.heap.size w w' := by
  have hS : Hid (∀ u, Below w.heap.size w u → Calls Tryz.prog 135 #[.slice a l.length cap] u fun e w' => e = .returned (.bool (ShapeCalls.shapeOk l)) ∧ Below u.heap.size u w') := fun u hu => ShapeCalls.spec_shapeOk u a cap l (h.later hu) hn
  obtain ⟨R, hR⟩ : ∃ R, allF l l.length 0 = R := ⟨_, rfl⟩
  have hF : Hid (allF l l.length 0 = R) := hR
  have h' : Hid (RdI w a l) := h
  unfold boOk
  rw [hR]
  generalize ShapeCalls.shapeOk l = B at *
  clear hR h
  go_enter Tryz.func118, Tryz.ntmps118
  go_wp2_with fail
  go_loopw [7] (fun vk wr => ∃ (k f : Nat), k + f = l.length ∧ vk = .int .i64 k ∧ allF l f k = R ∧ Below w.heap.size w wr) (fun vk _ => l.length - (intOf vk).toNat)
  case atStart => exact ⟨0, l.length, by omega, rfl, hF.out, Below.refl _ _⟩
  case round =>
    obtain ⟨k, f, hk, rfl, hall, hbel⟩ := hrel
    have hall' : Hid (allF l f k = R) := hall
    have hbel' : Hid (Below w.heap.size w wr) := hbel
    have hsz := hbel.size
    clear hall hF
    by_cases hlt : k < l.length
    · have hlt' : (k : Int) < (l.length : Int) := by omega
      obtain ⟨f, rfl⟩ : ∃ j, f = j + 1 := ⟨f - 1, by omega⟩
      rcases h'.out.later hbel with h0 | ⟨b, off, ha, hc⟩
      · omega
      · obtain ⟨c0, c1, c2⟩ := hc k hlt
        subst ha
        clear hc hbel
        have hok : Hid (∀ u, Calls Tryz.prog 121 #[.agg #[.int .i64 (oAt l k), .int .i64 (aAt l k), .int .i64 (bAt l k)]] u fun e w' => e = .returned (.bool (okAt l k)) ∧ Below u.heap.size u w') := fun u => spec_insOk (oAt l k) (aAt l k) (bAt l k) u
        have hno : Hid (okAt l k = false → allF l (f + 1) k = false) := fun h => allF_no h
        have hyes : Hid (okAt l k = true → allF l (f + 1) k = allF l f (k + 1)) := fun h => allF_yes h
        generalize okAt l k = O at *
        generalize oAt l k = o at *
        generalize aAt l k = x1 at *
        generalize bAt l k = x2 at *
        cases O with
        | false =>
          have e1 : Hid (allF l (f + 1) k = false) := hno.out rfl
          clear hno hyes
          go_wp2_with (go_at_call 121; refine (hok.out _).mono ?_; rintro e w1 ⟨rfl, hb⟩)
          go_ret
          refine ⟨?_, hbel'.out.trans (hb2 hsz hb)⟩
          rw [← hall'.out, e1.out, Bool.false_and, Bool.and_false]
          rfl
        | true =>
          have e1 : Hid (allF l (f + 1) k = allF l f (k + 1)) := hyes.out rfl
          clear hno hyes
          go_wp2_with (go_at_call 121; refine (hok.out _).mono ?_; rintro e w1 ⟨rfl, hb⟩)
          go_roundw
          case rel => exact ⟨k + 1, f, by omega, by go_num, by rw [← e1.out]; exact hall'.out, hbel'.out.trans (hb2 hsz hb)⟩
          case measure => simp [intOf]; omega
    · obtain rfl : k = l.length := by omega
      obtain rfl : f = 0 := by omega
      obtain rfl : R = true := hall'.out.symm
      clear hbel hall' h'
      by_cases hb : l.length ≤ 1500
      · have hb' : (l.length : Int) ≤ 1500 := by omega
        have hb0 : Hid (decide (l.length ≤ 1500) = true) := decide_eq_true hb
        clear hb
        go_wp2_with (go_at_call 135; refine (hS.out _ hbel'.out).mono ?_; rintro e w2 ⟨rfl, b2⟩)
        go_ret
        refine ⟨?_, hbel'.out.trans (b2.mono hsz)⟩
        rw [hb0.out]
        rfl
      · have hb' : ¬ (l.length : Int) ≤ 1500 := by omega
        have hd : decide ((l.length : Int) ≤ 1500) = false := decide_eq_false hb'
        have hb0 : Hid (decide (l.length ≤ 1500) = false) := decide_eq_false hb
        clear hb
        go_wp2_with fail
        go_ret
        refine ⟨?_, hbel'.out⟩
        rw [hb0.out]
        rfl
/-- What the specification asks of signatures, imports, functions. -/
def paOk (m : M) : Bool := decide (m.sigs.length ≤ 30 ∧ m.imps.length + m.fns.length ≤ 60) && (allP (fun k => sgOk (MemSig.f0At m.sigs k) (MemSig.f1At m.sigs k)) m.sigs.length 0 && (allP (fun k => imOk m.sigs.length (MemImport.f0At m.imps k) (MemImport.f1At m.imps k) (MemImport.f2At m.imps k)) m.imps.length 0 && allP (fun k => fnOk m.sigs.length (MemFunc.at1 m.fns k).sig (MemFunc.at1 m.fns k).loc (MemFunc.at1 m.fns k).body) m.fns.length 0))
set_option maxRecDepth 20000 in
set_option maxHeartbeats 16000000 in
theorem spec_parts (w : World) (p : P) (m : M) (h : Rd w p m) (hs : Small m) :
    Calls Tryz.prog 73 #[val p m] w fun e w' => e = .returned (.bool (paOk m)) ∧ Below w.heap.size w w' := by
  obtain ⟨a0, c0, a1, c1, a2, c2, a3, c3, a4, c4, a5, c5⟩ := p
  obtain ⟨sigs, imps, fns, pages, most, gls, exs, dat⟩ := m
  obtain ⟨h0', h1', h2', h3', h4', h5'⟩ := h
  obtain ⟨n0, n1, z1', n2, z2', n3, n4, z4', n5, z5'⟩ := hs
  dsimp only at *
  have T0 : Hid (TI w (w.alloc (.cells #[.slice a0 sigs.length c0, .slice a1 imps.length c1, .slice a2 fns.length c2, .int .i64 pages, .int .i64 most, .slice a3 gls.length c3, .slice a4 exs.length c4, .slice a5 dat.length c5] 41)) (.slice a0 sigs.length c0) (.slice a1 imps.length c1) (.slice a2 fns.length c2) (.int .i64 pages) (.int .i64 most) (.slice a3 gls.length c3) (.slice a4 exs.length c4) (.slice a5 dat.length c5)) := ⟨r8_made w (.slice a0 sigs.length c0) (.slice a1 imps.length c1) (.slice a2 fns.length c2) (.int .i64 pages) (.int .i64 most) (.slice a3 gls.length c3) (.slice a4 exs.length c4) (.slice a5 dat.length c5) 41, (Below.refl _ _).alloc (Nat.le_refl _) _⟩
  have h0 : Hid (MemSig.Rd w a0 sigs) := h0'
  have h1 : Hid (MemImport.Rd w a1 imps) := h1'
  have h2 : Hid (MemFunc.Rd w a2 fns) := h2'
  have z1 : Hid (∀ j, j < imps.length → (MemImport.f0At imps j).size ≤ 1048576 ∧ (MemImport.f1At imps j).size ≤ 1048576) := z1'
  have z2 : Hid (∀ j, j < fns.length → (MemFunc.at1 fns j).body.length ≤ 1048576) := z2'
  simp only [val, paOk]
  clear h0' h1' h2' h3' h4' h5' z1' z2' z4' z5' n3 n4 n5
  by_cases y0 : sigs.length ≤ 30
  · have d0 : ¬ (30 < (sigs.length : Int)) := by omega
    have g0 : decide (30 < (sigs.length : Int)) = false := decide_eq_false d0
    by_cases y1 : imps.length + fns.length ≤ 60
    · have d1 : ¬ (60 < (imps.length : Int) + (fns.length : Int)) := by omega
      have g1 : decide (60 < (imps.length : Int) + (fns.length : Int)) = false := decide_eq_false d1
      rw [decide_eq_true (show sigs.length ≤ 30 ∧ imps.length + fns.length ≤ 60 from ⟨y0, y1⟩), Bool.true_and]
      obtain ⟨A, hA'⟩ : ∃ A, allP (fun k => sgOk (MemSig.f0At sigs k) (MemSig.f1At sigs k)) sigs.length 0 = A := ⟨_, rfl⟩
      obtain ⟨B, hB'⟩ : ∃ B, allP (fun k => imOk sigs.length (MemImport.f0At imps k) (MemImport.f1At imps k) (MemImport.f2At imps k)) imps.length 0 = B := ⟨_, rfl⟩
      obtain ⟨C, hC'⟩ : ∃ C, allP (fun k => fnOk sigs.length (MemFunc.at1 fns k).sig (MemFunc.at1 fns k).loc (MemFunc.at1 fns k).body) fns.length 0 = C := ⟨_, rfl⟩
      have hA : Hid (allP (fun k => sgOk (MemSig.f0At sigs k) (MemSig.f1At sigs k)) sigs.length 0 = A) := hA'
      have hB : Hid (allP (fun k => imOk sigs.length (MemImport.f0At imps k) (MemImport.f1At imps k) (MemImport.f2At imps k)) imps.length 0 = B) := hB'
      have hC : Hid (allP (fun k => fnOk sigs.length (MemFunc.at1 fns k).sig (MemFunc.at1 fns k).loc (MemFunc.at1 fns k).body) fns.length 0 = C) := hC'
      rw [hA', hB', hC']
      clear hA' hB' hC' y0 y1
      go_enter Tryz.func73, Tryz.ntmps73
      go_wp2_with fail
      clear d0 d1 g0 g1
      go_loopw [26] (fun vk wr => ∃ (k f : Nat), k + f = sigs.length ∧ vk = .int .i64 k ∧ allP (fun k => sgOk (MemSig.f0At sigs k) (MemSig.f1At sigs k)) f k = A ∧ TI w wr (.slice a0 sigs.length c0) (.slice a1 imps.length c1) (.slice a2 fns.length c2) (.int .i64 pages) (.int .i64 most) (.slice a3 gls.length c3) (.slice a4 exs.length c4) (.slice a5 dat.length c5)) (fun vk _ => sigs.length - (intOf vk).toNat)
      case atStart => exact ⟨0, sigs.length, by omega, rfl, hA.out, T0.out⟩
      case round =>
        obtain ⟨k, f, hk, rfl, hall, hT⟩ := hrel
        have hall' : Hid (allP (fun k => sgOk (MemSig.f0At sigs k) (MemSig.f1At sigs k)) f k = A) := hall
        have TT0 : Hid (TI w wr (.slice a0 sigs.length c0) (.slice a1 imps.length c1) (.slice a2 fns.length c2) (.int .i64 pages) (.int .i64 most) (.slice a3 gls.length c3) (.slice a4 exs.length c4) (.slice a5 dat.length c5)) := hT
        clear hall hA
        by_cases hlt : k < sigs.length
        · have hlt' : (k : Int) < (sigs.length : Int) := by omega
          obtain ⟨f, rfl⟩ : ∃ j, f = j + 1 := ⟨f - 1, by omega⟩
          rcases h0.out.later hT.bl with h0 | ⟨b, off, ha, hc⟩
          · omega
          · obtain ⟨e0, e1⟩ := hc k hlt
            have Ta : Hid (TI w (wr.alloc (.cells #[.int .i64 (MemSig.f0At sigs k), .int .i64 (MemSig.f1At sigs k)] 77)) (.slice a0 sigs.length c0) (.slice a1 imps.length c1) (.slice a2 fns.length c2) (.int .i64 pages) (.int .i64 most) (.slice a3 gls.length c3) (.slice a4 exs.length c4) (.slice a5 dat.length c5)) := hT.call ((Below.refl _ _).alloc (Nat.le_refl _) _)
            have hno : Hid ((decide (0 ≤ MemSig.f0At sigs k ∧ MemSig.f0At sigs k ≤ 60) && decide (0 ≤ MemSig.f1At sigs k ∧ MemSig.f1At sigs k ≤ 1)) = false → allP (fun k => sgOk (MemSig.f0At sigs k) (MemSig.f1At sigs k)) (f + 1) k = false) := fun h => allP_no h
            have hyes : Hid ((decide (0 ≤ MemSig.f0At sigs k ∧ MemSig.f0At sigs k ≤ 60) && decide (0 ≤ MemSig.f1At sigs k ∧ MemSig.f1At sigs k ≤ 1)) = true → allP (fun k => sgOk (MemSig.f0At sigs k) (MemSig.f1At sigs k)) (f + 1) k = allP (fun k => sgOk (MemSig.f0At sigs k) (MemSig.f1At sigs k)) f (k + 1)) := fun h => allP_yes h
            subst ha
            clear hc hT
            generalize MemSig.f0At sigs k = x0 at *
            generalize MemSig.f1At sigs k = x1 at *
            obtain ⟨_, _, _, _, _, _, _, _⟩ := r8 Ta.out.ra
            by_cases d0 : x0 < 0
            · have g0 : decide (x0 < 0) = true := decide_eq_true d0
              go_wp2_with fail
              go_ret
              refine ⟨?_, Ta.out.bl⟩
              rw [← hall'.out, hno.out (by first | (simp; omega) | simp)]
              rfl
            · have g0 : decide (x0 < 0) = false := decide_eq_false d0
              by_cases d1 : 60 < x0
              · have g1 : decide (60 < x0) = true := decide_eq_true d1
                go_wp2_with fail
                go_ret
                refine ⟨?_, Ta.out.bl⟩
                rw [← hall'.out, hno.out (by first | (simp; omega) | simp)]
                rfl
              · have g1 : decide (60 < x0) = false := decide_eq_false d1
                by_cases d2 : x1 < 0
                · have g2 : decide (x1 < 0) = true := decide_eq_true d2
                  go_wp2_with fail
                  go_ret
                  refine ⟨?_, Ta.out.bl⟩
                  rw [← hall'.out, hno.out (by first | (simp; omega) | simp)]
                  rfl
                · have g2 : decide (x1 < 0) = false := decide_eq_false d2
                  by_cases d3 : 1 < x1
                  · have g3 : decide (1 < x1) = true := decide_eq_true d3
                    go_wp2_with fail
                    go_ret
                    refine ⟨?_, Ta.out.bl⟩
                    rw [← hall'.out, hno.out (by first | (simp; omega) | simp)]
                    rfl
                  · have g3 : decide (1 < x1) = false := decide_eq_false d3
                    go_wp2_with fail
                    go_roundw
                    case rel => exact ⟨k + 1, f, by omega, by go_num, by rw [← hyes.out (by first | (simp; omega) | simp)]; exact hall'.out, Ta.out⟩
                    case measure => simp [intOf]; omega
        · obtain rfl : k = sigs.length := by omega
          obtain rfl : f = 0 := by omega
          obtain rfl : A = true := hall'.out.symm
          obtain ⟨_, _, _, _, _, _, _, _⟩ := r8 TT0.out.ra
          clear hall' hT hk hlt
          go_wp2_with fail
          go_loopw [52] (fun vk wr => ∃ (k f : Nat), k + f = imps.length ∧ vk = .int .i64 k ∧ allP (fun k => imOk sigs.length (MemImport.f0At imps k) (MemImport.f1At imps k) (MemImport.f2At imps k)) f k = B ∧ TI w wr (.slice a0 sigs.length c0) (.slice a1 imps.length c1) (.slice a2 fns.length c2) (.int .i64 pages) (.int .i64 most) (.slice a3 gls.length c3) (.slice a4 exs.length c4) (.slice a5 dat.length c5)) (fun vk _ => imps.length - (intOf vk).toNat)
          case atStart => exact ⟨0, imps.length, by omega, rfl, hB.out, TT0.out⟩
          case round =>
            obtain ⟨k, f, hk, rfl, hall, hT⟩ := hrel
            have hall' : Hid (allP (fun k => imOk sigs.length (MemImport.f0At imps k) (MemImport.f1At imps k) (MemImport.f2At imps k)) f k = B) := hall
            have TT1 : Hid (TI w wr (.slice a0 sigs.length c0) (.slice a1 imps.length c1) (.slice a2 fns.length c2) (.int .i64 pages) (.int .i64 most) (.slice a3 gls.length c3) (.slice a4 exs.length c4) (.slice a5 dat.length c5)) := hT
            clear hall hB
            by_cases hlt : k < imps.length
            · have hlt' : (k : Int) < (imps.length : Int) := by omega
              obtain ⟨f, rfl⟩ : ∃ j, f = j + 1 := ⟨f - 1, by omega⟩
              rcases h1.out.later hT.bl with h0 | ⟨b, off, ha, hc⟩
              · omega
              · obtain ⟨e0, e1, e2⟩ := hc k hlt
                have m1 : Hid (∀ u, Calls Tryz.prog 75 #[.string (MemImport.f0At imps k)] u fun e w' => e = .returned (.bool (nmOk (MemImport.f0At imps k))) ∧ u = w') := fun u => spec_name _ u (z1.out k hlt).1
                have m2 : Hid (∀ u, Calls Tryz.prog 75 #[.string (MemImport.f1At imps k)] u fun e w' => e = .returned (.bool (nmOk (MemImport.f1At imps k))) ∧ u = w') := fun u => spec_name _ u (z1.out k hlt).2
                have Ta : Hid (TI w (wr.alloc (.cells #[.string (MemImport.f0At imps k), .string (MemImport.f1At imps k), .int .i64 (MemImport.f2At imps k)] 82)) (.slice a0 sigs.length c0) (.slice a1 imps.length c1) (.slice a2 fns.length c2) (.int .i64 pages) (.int .i64 most) (.slice a3 gls.length c3) (.slice a4 exs.length c4) (.slice a5 dat.length c5)) := hT.call ((Below.refl _ _).alloc (Nat.le_refl _) _)
                have hno : Hid ((decide (0 ≤ MemImport.f2At imps k ∧ MemImport.f2At imps k ≤ (sigs.length : Int) - 1) && (nmOk (MemImport.f0At imps k) && nmOk (MemImport.f1At imps k))) = false → allP (fun k => imOk sigs.length (MemImport.f0At imps k) (MemImport.f1At imps k) (MemImport.f2At imps k)) (f + 1) k = false) := fun h => allP_no h
                have hyes : Hid ((decide (0 ≤ MemImport.f2At imps k ∧ MemImport.f2At imps k ≤ (sigs.length : Int) - 1) && (nmOk (MemImport.f0At imps k) && nmOk (MemImport.f1At imps k))) = true → allP (fun k => imOk sigs.length (MemImport.f0At imps k) (MemImport.f1At imps k) (MemImport.f2At imps k)) (f + 1) k = allP (fun k => imOk sigs.length (MemImport.f0At imps k) (MemImport.f1At imps k) (MemImport.f2At imps k)) f (k + 1)) := fun h => allP_yes h
                subst ha
                clear hc hT
                generalize nmOk (MemImport.f0At imps k) = B0 at *
                generalize nmOk (MemImport.f1At imps k) = B1 at *
                generalize MemImport.f0At imps k = x0 at *
                generalize MemImport.f1At imps k = x1 at *
                generalize MemImport.f2At imps k = x2 at *
                obtain ⟨_, _, _, _, _, _, _, _⟩ := r8 Ta.out.ra
                cases B0 with
                | false =>
                  go_wp2_with (go_at_call 75; refine (m1.out _).mono ?_; rintro e w1 ⟨rfl, rfl⟩; clear m1)
                  go_ret
                  refine ⟨?_, Ta.out.bl⟩
                  rw [← hall'.out, hno.out (by first | (simp; omega) | simp)]
                  rfl
                | true =>
                  cases B1 with
                  | false =>
                    go_wp2_with (go_at_call 75; refine (m1.out _).mono ?_; rintro e w1 ⟨rfl, rfl⟩; clear m1)
                    go_wp2_with (go_at_call 75; refine (m2.out _).mono ?_; rintro e w2 ⟨rfl, rfl⟩)
                    go_ret
                    refine ⟨?_, Ta.out.bl⟩
                    rw [← hall'.out, hno.out (by first | (simp; omega) | simp)]
                    rfl
                  | true =>
                    by_cases d2 : x2 < 0
                    · have g2 : decide (x2 < 0) = true := decide_eq_true d2
                      go_wp2_with (go_at_call 75; refine (m1.out _).mono ?_; rintro e w1 ⟨rfl, rfl⟩; clear m1)
                      go_wp2_with (go_at_call 75; refine (m2.out _).mono ?_; rintro e w2 ⟨rfl, rfl⟩)
                      go_ret
                      refine ⟨?_, Ta.out.bl⟩
                      rw [← hall'.out, hno.out (by first | (simp; omega) | simp)]
                      rfl
                    · have g2 : decide (x2 < 0) = false := decide_eq_false d2
                      by_cases d3 : (sigs.length : Int) ≤ x2
                      · have g3 : decide ((sigs.length : Int) ≤ x2) = true := decide_eq_true d3
                        go_wp2_with (go_at_call 75; refine (m1.out _).mono ?_; rintro e w1 ⟨rfl, rfl⟩; clear m1)
                        go_wp2_with (go_at_call 75; refine (m2.out _).mono ?_; rintro e w2 ⟨rfl, rfl⟩)
                        go_ret
                        refine ⟨?_, Ta.out.bl⟩
                        rw [← hall'.out, hno.out (by first | (simp; omega) | simp)]
                        rfl
                      · have g3 : decide ((sigs.length : Int) ≤ x2) = false := decide_eq_false d3
                        go_wp2_with (go_at_call 75; refine (m1.out _).mono ?_; rintro e w1 ⟨rfl, rfl⟩; clear m1)
                        go_wp2_with (go_at_call 75; refine (m2.out _).mono ?_; rintro e w2 ⟨rfl, rfl⟩)
                        go_roundw
                        case rel => exact ⟨k + 1, f, by omega, by go_num, by rw [← hyes.out (by first | (simp; omega) | simp)]; exact hall'.out, Ta.out⟩
                        case measure => simp [intOf]; omega
            · obtain rfl : k = imps.length := by omega
              obtain rfl : f = 0 := by omega
              obtain rfl : B = true := hall'.out.symm
              obtain ⟨_, _, _, _, _, _, _, _⟩ := r8 TT1.out.ra
              clear hall' hT hk hlt
              go_wp2_with fail
              go_loopw [83] (fun vk wr => ∃ (k f : Nat), k + f = fns.length ∧ vk = .int .i64 k ∧ allP (fun k => fnOk sigs.length (MemFunc.at1 fns k).sig (MemFunc.at1 fns k).loc (MemFunc.at1 fns k).body) f k = C ∧ TI w wr (.slice a0 sigs.length c0) (.slice a1 imps.length c1) (.slice a2 fns.length c2) (.int .i64 pages) (.int .i64 most) (.slice a3 gls.length c3) (.slice a4 exs.length c4) (.slice a5 dat.length c5)) (fun vk _ => fns.length - (intOf vk).toNat)
              case atStart => exact ⟨0, fns.length, by omega, rfl, hC.out, TT1.out⟩
              case round =>
                obtain ⟨k, f, hk, rfl, hall, hT⟩ := hrel
                have hall' : Hid (allP (fun k => fnOk sigs.length (MemFunc.at1 fns k).sig (MemFunc.at1 fns k).loc (MemFunc.at1 fns k).body) f k = C) := hall
                have TT2 : Hid (TI w wr (.slice a0 sigs.length c0) (.slice a1 imps.length c1) (.slice a2 fns.length c2) (.int .i64 pages) (.int .i64 most) (.slice a3 gls.length c3) (.slice a4 exs.length c4) (.slice a5 dat.length c5)) := hT
                clear hall hC
                by_cases hlt : k < fns.length
                · have hlt' : (k : Int) < (fns.length : Int) := by omega
                  obtain ⟨f, rfl⟩ : ∃ j, f = j + 1 := ⟨f - 1, by omega⟩
                  rcases h2.out.later hT.bl with h0 | ⟨b, off, ha, hc⟩
                  · omega
                  · obtain ⟨e0, e1, e2, eb⟩ := hc k hlt
                    have nB : Hid (∀ u, Below w.heap.size w u → Calls Tryz.prog 118 #[.slice (MemFunc.at1 fns k).ad (MemFunc.at1 fns k).body.length (MemFunc.at1 fns k).cp] u fun e w' => e = .returned (.bool (boOk (MemFunc.at1 fns k).body)) ∧ Below u.heap.size u w') := fun u hu => spec_body u _ _ _ ((body_at h2.out hlt).later hu) (z2.out k hlt)
                    clear eb
                    have Ta : Hid (TI w (wr.alloc (.cells #[.int .i64 (MemFunc.at1 fns k).sig, .int .i64 (MemFunc.at1 fns k).loc, .slice (MemFunc.at1 fns k).ad (MemFunc.at1 fns k).body.length (MemFunc.at1 fns k).cp] 87)) (.slice a0 sigs.length c0) (.slice a1 imps.length c1) (.slice a2 fns.length c2) (.int .i64 pages) (.int .i64 most) (.slice a3 gls.length c3) (.slice a4 exs.length c4) (.slice a5 dat.length c5)) := hT.call ((Below.refl _ _).alloc (Nat.le_refl _) _)
                    have hno : Hid ((decide (0 ≤ (MemFunc.at1 fns k).sig ∧ (MemFunc.at1 fns k).sig ≤ (sigs.length : Int) - 1) && (decide (0 ≤ (MemFunc.at1 fns k).loc ∧ (MemFunc.at1 fns k).loc ≤ 60) && boOk (MemFunc.at1 fns k).body)) = false → allP (fun k => fnOk sigs.length (MemFunc.at1 fns k).sig (MemFunc.at1 fns k).loc (MemFunc.at1 fns k).body) (f + 1) k = false) := fun h => allP_no h
                    have hyes : Hid ((decide (0 ≤ (MemFunc.at1 fns k).sig ∧ (MemFunc.at1 fns k).sig ≤ (sigs.length : Int) - 1) && (decide (0 ≤ (MemFunc.at1 fns k).loc ∧ (MemFunc.at1 fns k).loc ≤ 60) && boOk (MemFunc.at1 fns k).body)) = true → allP (fun k => fnOk sigs.length (MemFunc.at1 fns k).sig (MemFunc.at1 fns k).loc (MemFunc.at1 fns k).body) (f + 1) k = allP (fun k => fnOk sigs.length (MemFunc.at1 fns k).sig (MemFunc.at1 fns k).loc (MemFunc.at1 fns k).body) f (k + 1)) := fun h => allP_yes h
                    subst ha
                    clear hc hT
                    generalize boOk (MemFunc.at1 fns k).body = BO at *
                    generalize (MemFunc.at1 fns k).body.length = x2 at *
                    generalize (MemFunc.at1 fns k).sig = x0 at *
                    generalize (MemFunc.at1 fns k).loc = x1 at *
                    generalize (MemFunc.at1 fns k).ad = x3 at *
                    generalize (MemFunc.at1 fns k).cp = x4 at *
                    obtain ⟨_, _, _, _, _, _, _, _⟩ := r8 Ta.out.ra
                    by_cases d0 : x0 < 0
                    · have g0 : decide (x0 < 0) = true := decide_eq_true d0
                      go_wp2_with fail
                      go_ret
                      refine ⟨?_, Ta.out.bl⟩
                      rw [← hall'.out, hno.out (by first | (simp; omega) | simp)]
                      rfl
                    · have g0 : decide (x0 < 0) = false := decide_eq_false d0
                      by_cases d1 : (sigs.length : Int) ≤ x0
                      · have g1 : decide ((sigs.length : Int) ≤ x0) = true := decide_eq_true d1
                        go_wp2_with fail
                        go_ret
                        refine ⟨?_, Ta.out.bl⟩
                        rw [← hall'.out, hno.out (by first | (simp; omega) | simp)]
                        rfl
                      · have g1 : decide ((sigs.length : Int) ≤ x0) = false := decide_eq_false d1
                        by_cases d2 : x1 < 0
                        · have g2 : decide (x1 < 0) = true := decide_eq_true d2
                          go_wp2_with fail
                          go_ret
                          refine ⟨?_, Ta.out.bl⟩
                          rw [← hall'.out, hno.out (by first | (simp; omega) | simp)]
                          rfl
                        · have g2 : decide (x1 < 0) = false := decide_eq_false d2
                          by_cases d3 : 60 < x1
                          · have g3 : decide (60 < x1) = true := decide_eq_true d3
                            go_wp2_with fail
                            go_ret
                            refine ⟨?_, Ta.out.bl⟩
                            rw [← hall'.out, hno.out (by first | (simp; omega) | simp)]
                            rfl
                          · have g3 : decide (60 < x1) = false := decide_eq_false d3
                            cases BO with
                            | false =>
                              go_wp2_with (go_at_call 118; refine (nB.out _ Ta.out.bl).mono ?_; rintro e w1 ⟨rfl, q1⟩)
                              go_ret
                              refine ⟨?_, (Ta.out.call q1).bl⟩
                              rw [← hall'.out, hno.out (by first | (simp; omega) | simp)]
                              rfl
                            | true =>
                              go_wp2_with (go_at_call 118; refine (nB.out _ Ta.out.bl).mono ?_; rintro e w1 ⟨rfl, q1⟩)
                              go_roundw
                              case rel => exact ⟨k + 1, f, by omega, by go_num, by rw [← hyes.out (by first | (simp; omega) | simp)]; exact hall'.out, Ta.out.call q1⟩
                              case measure => simp [intOf]; omega
                · obtain rfl : k = fns.length := by omega
                  obtain rfl : f = 0 := by omega
                  obtain rfl : C = true := hall'.out.symm
                  obtain ⟨_, _, _, _, _, _, _, _⟩ := r8 TT2.out.ra
                  clear hall' hT hk hlt
                  go_wp2_with fail
                  go_ret
                  exact ⟨rfl, TT2.out.bl⟩
    · have d1 : 60 < (imps.length : Int) + (fns.length : Int) := by omega
      have g1 : decide (60 < (imps.length : Int) + (fns.length : Int)) = true := decide_eq_true d1
      rw [decide_eq_false (show ¬ (sigs.length ≤ 30 ∧ imps.length + fns.length ≤ 60) from fun h => y1 h.2), Bool.false_and]
      clear y0 y1 h0 h1 h2 z1 z2
      go_enter Tryz.func73, Tryz.ntmps73
      go_wp2_with fail
      go_ret
      exact ⟨rfl, T0.out.bl⟩
  · have d0 : 30 < (sigs.length : Int) := by omega
    have g0 : decide (30 < (sigs.length : Int)) = true := decide_eq_true d0
    rw [decide_eq_false (show ¬ (sigs.length ≤ 30 ∧ imps.length + fns.length ≤ 60) from fun h => y0 h.1), Bool.false_and]
    clear y0 h0 h1 h2 z1 z2
    go_enter Tryz.func73, Tryz.ntmps73
    go_wp2_with fail
    go_ret
    exact ⟨rfl, T0.out.bl⟩
/-- What the specification asks of a whole module, in its order. -/
def spOk (m : M) : Bool := paOk m && (meOk m.pages m.most && (decide (m.gls.length ≤ 30 ∧ m.exs.length ≤ 60 ∧ m.dat.length ≤ 20) && (allP (fun k => glOk (MemGlobal.f1At m.gls k)) m.gls.length 0 && (allP (fun k => exOk (MemExport.f0At m.exs k) (MemExport.f1At m.exs k) (MemExport.f2At m.exs k)) m.exs.length 0 && allP (fun k => daOk (MemData.at1 m.dat k).pos (MemData.at1 m.dat k).n) m.dat.length 0))))
theorem spOk_is (m : M) : spOk m = formOk m := by
  unfold spOk formOk paOk coOk
  by_cases h1 : m.sigs.length ≤ 30 ∧ m.imps.length + m.fns.length ≤ 60
  · by_cases h2 : m.gls.length ≤ 30 ∧ m.exs.length ≤ 60 ∧ m.dat.length ≤ 20
    · rw [decide_eq_true h1, decide_eq_true h2, decide_eq_true (show m.sigs.length ≤ 30 ∧ m.imps.length + m.fns.length ≤ 60 ∧ m.gls.length ≤ 30 ∧ m.exs.length ≤ 60 ∧ m.dat.length ≤ 20 from ⟨h1.1, h1.2, h2⟩)]
      simp only [Bool.true_and]
      cases meOk m.pages m.most <;> simp [Bool.and_assoc]
    · rw [decide_eq_false h2, decide_eq_false (show ¬ (m.sigs.length ≤ 30 ∧ m.imps.length + m.fns.length ≤ 60 ∧ m.gls.length ≤ 30 ∧ m.exs.length ≤ 60 ∧ m.dat.length ≤ 20) from fun h => h2 h.2.2)]
      simp
  · rw [decide_eq_false h1, decide_eq_false (show ¬ (m.sigs.length ≤ 30 ∧ m.imps.length + m.fns.length ≤ 60 ∧ m.gls.length ≤ 30 ∧ m.exs.length ≤ 60 ∧ m.dat.length ≤ 20) from fun h => h1 ⟨h.1, h.2.1⟩)]
    simp
set_option maxRecDepth 20000 in
set_option maxHeartbeats 32000000 in
theorem spec_formOk (w : World) (p : P) (m : M) (h : Rd w p m) (hs : Small m) :
    Calls Tryz.prog 22 #[val p m] w fun e w' => e = .returned (.bool (formOk m)) ∧ Below w.heap.size w w' := by
  rw [← spOk_is]
  have hP0 : ∀ u, Below w.heap.size w u → Calls Tryz.prog 73 #[val p m] u fun e w' => e = .returned (.bool (paOk m)) ∧ Below u.heap.size u w' := fun u hu => spec_parts u p m (h.later hu) hs
  unfold spOk
  generalize paOk m = PA at *
  obtain ⟨a0, c0, a1, c1, a2, c2, a3, c3, a4, c4, a5, c5⟩ := p
  obtain ⟨sigs, imps, fns, pages, most, gls, exs, dat⟩ := m
  obtain ⟨h0', h1', h2', h3', h4', h5'⟩ := h
  obtain ⟨n0, n1, z1', n2, z2', n3, n4, z4', n5, z5'⟩ := hs
  dsimp only at *
  have T0 : Hid (TI w (w.alloc (.cells #[.slice a0 sigs.length c0, .slice a1 imps.length c1, .slice a2 fns.length c2, .int .i64 pages, .int .i64 most, .slice a3 gls.length c3, .slice a4 exs.length c4, .slice a5 dat.length c5] 41)) (.slice a0 sigs.length c0) (.slice a1 imps.length c1) (.slice a2 fns.length c2) (.int .i64 pages) (.int .i64 most) (.slice a3 gls.length c3) (.slice a4 exs.length c4) (.slice a5 dat.length c5)) := ⟨r8_made w (.slice a0 sigs.length c0) (.slice a1 imps.length c1) (.slice a2 fns.length c2) (.int .i64 pages) (.int .i64 most) (.slice a3 gls.length c3) (.slice a4 exs.length c4) (.slice a5 dat.length c5) 41, (Below.refl _ _).alloc (Nat.le_refl _) _⟩
  have hP : Hid (Calls Tryz.prog 73 #[.agg #[.slice a0 sigs.length c0, .slice a1 imps.length c1, .slice a2 fns.length c2, .int .i64 pages, .int .i64 most, .slice a3 gls.length c3, .slice a4 exs.length c4, .slice a5 dat.length c5]] (w.alloc (.cells #[.slice a0 sigs.length c0, .slice a1 imps.length c1, .slice a2 fns.length c2, .int .i64 pages, .int .i64 most, .slice a3 gls.length c3, .slice a4 exs.length c4, .slice a5 dat.length c5] 41)) fun e w' => e = .returned (.bool PA) ∧ Below (w.alloc (.cells #[.slice a0 sigs.length c0, .slice a1 imps.length c1, .slice a2 fns.length c2, .int .i64 pages, .int .i64 most, .slice a3 gls.length c3, .slice a4 exs.length c4, .slice a5 dat.length c5] 41)).heap.size (w.alloc (.cells #[.slice a0 sigs.length c0, .slice a1 imps.length c1, .slice a2 fns.length c2, .int .i64 pages, .int .i64 most, .slice a3 gls.length c3, .slice a4 exs.length c4, .slice a5 dat.length c5] 41)) w') := hP0 _ ((Below.refl _ _).alloc (Nat.le_refl _) _)
  have h3 : Hid (MemGlobal.Rd w a3 gls) := h3'
  have h4 : Hid (MemExport.Rd w a4 exs) := h4'
  have h5 : Hid (MemData.Rd w a5 dat) := h5'
  have z4 : Hid (∀ j, j < exs.length → (MemExport.f0At exs j).size ≤ 1048576) := z4'
  have z5 : Hid (∀ j, j < dat.length → (MemData.at1 dat j).n ≤ 1048576) := z5'
  simp only [val]
  clear h0' h1' h2' h3' h4' h5' z1' z2' z4' z5' n0 n1 n2 hP0
  obtain ⟨A, hA'⟩ : ∃ A, allP (fun k => glOk (MemGlobal.f1At gls k)) gls.length 0 = A := ⟨_, rfl⟩
  obtain ⟨B, hB'⟩ : ∃ B, allP (fun k => exOk (MemExport.f0At exs k) (MemExport.f1At exs k) (MemExport.f2At exs k)) exs.length 0 = B := ⟨_, rfl⟩
  obtain ⟨C, hC'⟩ : ∃ C, allP (fun k => daOk (MemData.at1 dat k).pos (MemData.at1 dat k).n) dat.length 0 = C := ⟨_, rfl⟩
  have hA : Hid (allP (fun k => glOk (MemGlobal.f1At gls k)) gls.length 0 = A) := hA'
  have hB : Hid (allP (fun k => exOk (MemExport.f0At exs k) (MemExport.f1At exs k) (MemExport.f2At exs k)) exs.length 0 = B) := hB'
  have hC : Hid (allP (fun k => daOk (MemData.at1 dat k).pos (MemData.at1 dat k).n) dat.length 0 = C) := hC'
  rw [hA', hB', hC']
  clear hA' hB' hC'
  cases PA with
  | false =>
    clear hA hB hC h3 h4 h5 z4 z5
    go_enter Tryz.func22, Tryz.ntmps22
    go_wp2_with (go_at_call 73; refine hP.out.mono ?_; rintro e w1 ⟨rfl, q1⟩; have TW : Hid (TI w w1 (.slice a0 sigs.length c0) (.slice a1 imps.length c1) (.slice a2 fns.length c2) (.int .i64 pages) (.int .i64 most) (.slice a3 gls.length c3) (.slice a4 exs.length c4) (.slice a5 dat.length c5)) := T0.out.call q1; obtain ⟨_, _, _, _, _, _, _, _⟩ := r8 TW.out.ra)
    go_ret
    exact ⟨rfl, TW.out.bl⟩
  | true =>
    by_cases p0 : pages < -1
    · have dp : (pages < -1) := by omega
      have gp : decide (pages < -1) = true := decide_eq_true dp
      have hm : Hid (meOk pages most = false) := by show meOk pages most = false; unfold meOk wi; split <;> (simp; omega)
      go_enter Tryz.func22, Tryz.ntmps22
      go_wp2_with (go_at_call 73; refine hP.out.mono ?_; rintro e w1 ⟨rfl, q1⟩; have TW : Hid (TI w w1 (.slice a0 sigs.length c0) (.slice a1 imps.length c1) (.slice a2 fns.length c2) (.int .i64 pages) (.int .i64 most) (.slice a3 gls.length c3) (.slice a4 exs.length c4) (.slice a5 dat.length c5)) := T0.out.call q1; obtain ⟨_, _, _, _, _, _, _, _⟩ := r8 TW.out.ra)
      go_ret
      refine ⟨?_, TW.out.bl⟩
      rw [hm.out]
      rfl
    · have dp : ¬ (pages < -1) := by omega
      have gp : decide (pages < -1) = false := decide_eq_false dp
      by_cases p1 : 2 < pages
      · have dq : (2 < pages) := by omega
        have gq : decide (2 < pages) = true := decide_eq_true dq
        have hm : Hid (meOk pages most = false) := by show meOk pages most = false; unfold meOk wi; split <;> (simp; omega)
        go_enter Tryz.func22, Tryz.ntmps22
        go_wp2_with (go_at_call 73; refine hP.out.mono ?_; rintro e w1 ⟨rfl, q1⟩; have TW : Hid (TI w w1 (.slice a0 sigs.length c0) (.slice a1 imps.length c1) (.slice a2 fns.length c2) (.int .i64 pages) (.int .i64 most) (.slice a3 gls.length c3) (.slice a4 exs.length c4) (.slice a5 dat.length c5)) := T0.out.call q1; obtain ⟨_, _, _, _, _, _, _, _⟩ := r8 TW.out.ra)
        go_ret
        refine ⟨?_, TW.out.bl⟩
        rw [hm.out]
        rfl
      · have dq : ¬ (2 < pages) := by omega
        have gq : decide (2 < pages) = false := decide_eq_false dq
        by_cases p2 : pages = -1
        · have fp2 : (pages != -1) = false := bne_eq_false_iff_eq.2 (by omega)
          have gp2 : (pages == -1) = true := beq_iff_eq.2 (by omega)
          by_cases p3 : most = -1
          · have fm : (most != -1) = false := bne_eq_false_iff_eq.2 (by omega)
            have gm : (most == -1) = true := beq_iff_eq.2 (by omega)
            have hm : Hid (meOk pages most = true) := by rw [p2, p3]; exact rfl
            clear p0 p1 p2 p3
            by_cases y0 : gls.length ≤ 30
            · have dl0 : ¬ (30 < (gls.length : Int)) := by omega
              have gl0 : decide (30 < (gls.length : Int)) = false := decide_eq_false dl0
              by_cases y1 : exs.length ≤ 60
              · have dl1 : ¬ (60 < (exs.length : Int)) := by omega
                have gl1 : decide (60 < (exs.length : Int)) = false := decide_eq_false dl1
                by_cases y2 : dat.length ≤ 20
                · have dl2 : ¬ (20 < (dat.length : Int)) := by omega
                  have gl2 : decide (20 < (dat.length : Int)) = false := decide_eq_false dl2
                  have hn : Hid (decide (gls.length ≤ 30 ∧ exs.length ≤ 60 ∧ dat.length ≤ 20) = true) := decide_eq_true ⟨y0, y1, y2⟩
                  clear y0 y1 y2
                  go_enter Tryz.func22, Tryz.ntmps22
                  go_wp2_with (go_at_call 73; refine hP.out.mono ?_; rintro e w1 ⟨rfl, q1⟩; have TW : Hid (TI w w1 (.slice a0 sigs.length c0) (.slice a1 imps.length c1) (.slice a2 fns.length c2) (.int .i64 pages) (.int .i64 most) (.slice a3 gls.length c3) (.slice a4 exs.length c4) (.slice a5 dat.length c5)) := T0.out.call q1; obtain ⟨_, _, _, _, _, _, _, _⟩ := r8 TW.out.ra)
                  clear dl0 gl0 dl1 gl1 dl2 gl2 hP
                  go_loopw [68] (fun vk wr => ∃ (k f : Nat), k + f = gls.length ∧ vk = .int .i64 k ∧ allP (fun k => glOk (MemGlobal.f1At gls k)) f k = A ∧ TI w wr (.slice a0 sigs.length c0) (.slice a1 imps.length c1) (.slice a2 fns.length c2) (.int .i64 pages) (.int .i64 most) (.slice a3 gls.length c3) (.slice a4 exs.length c4) (.slice a5 dat.length c5)) (fun vk _ => gls.length - (intOf vk).toNat)
                  case atStart => exact ⟨0, gls.length, by omega, rfl, hA.out, TW.out⟩
                  case round =>
                    obtain ⟨k, f, hk, rfl, hall, hT⟩ := hrel
                    have hall' : Hid (allP (fun k => glOk (MemGlobal.f1At gls k)) f k = A) := hall
                    have TT3 : Hid (TI w wr (.slice a0 sigs.length c0) (.slice a1 imps.length c1) (.slice a2 fns.length c2) (.int .i64 pages) (.int .i64 most) (.slice a3 gls.length c3) (.slice a4 exs.length c4) (.slice a5 dat.length c5)) := hT
                    clear hall hA
                    by_cases hlt : k < gls.length
                    · have hlt' : (k : Int) < (gls.length : Int) := by omega
                      obtain ⟨f, rfl⟩ : ∃ j, f = j + 1 := ⟨f - 1, by omega⟩
                      rcases h3.out.later hT.bl with h0 | ⟨b, off, ha, hc⟩
                      · omega
                      · obtain ⟨e0, e1⟩ := hc k hlt
                        have Ta : Hid (TI w (wr.alloc (.cells #[.bool (MemGlobal.f0At gls k), .int .i64 (MemGlobal.f1At gls k)] 97)) (.slice a0 sigs.length c0) (.slice a1 imps.length c1) (.slice a2 fns.length c2) (.int .i64 pages) (.int .i64 most) (.slice a3 gls.length c3) (.slice a4 exs.length c4) (.slice a5 dat.length c5)) := hT.call ((Below.refl _ _).alloc (Nat.le_refl _) _)
                        have hno : Hid ((decide (-2147483648 ≤ MemGlobal.f1At gls k ∧ MemGlobal.f1At gls k ≤ 2147483647)) = false → allP (fun k => glOk (MemGlobal.f1At gls k)) (f + 1) k = false) := fun h => allP_no h
                        have hyes : Hid ((decide (-2147483648 ≤ MemGlobal.f1At gls k ∧ MemGlobal.f1At gls k ≤ 2147483647)) = true → allP (fun k => glOk (MemGlobal.f1At gls k)) (f + 1) k = allP (fun k => glOk (MemGlobal.f1At gls k)) f (k + 1)) := fun h => allP_yes h
                        subst ha
                        clear hc hT
                        generalize MemGlobal.f0At gls k = x0 at *
                        generalize MemGlobal.f1At gls k = x1 at *
                        obtain ⟨_, _, _, _, _, _, _, _⟩ := r8 Ta.out.ra
                        by_cases d0 : ¬ (-2147483648 ≤ x1 ∧ x1 ≤ 2147483647)
                        · have g0 : (wrap32 x1 == x1) = false := by rw [wrap_same]; exact decide_eq_false d0
                          have f0 : (wrap32 x1 != x1) = true := by rw [bne, g0]; rfl
                          go_wp2_with fail
                          go_quiet (first | (go_at_call 74; refine Calls.quiet_of_same ((spec_wrap _ _).mono fun _ _ ⟨h1, h2⟩ => ⟨h1, h2.symm⟩)))
                          go_wp2_with fail
                          go_ret
                          refine ⟨?_, below_drewN Ta.out.bl _⟩
                          rw [← hall'.out, hno.out (by first | (simp; omega) | simp), hm.out, hn.out]
                          rfl
                        · have g0 : wrap32 x1 = x1 := wrap32_in (by omega) (by omega)
                          go_wp2_with fail
                          go_quiet (first | (go_at_call 74; refine Calls.quiet_of_same ((spec_wrap _ _).mono fun _ _ ⟨h1, h2⟩ => ⟨h1, h2.symm⟩)))
                          go_wp2_with fail
                          go_roundw
                          case rel => exact ⟨k + 1, f, by omega, by go_num, by rw [← hyes.out (by first | (simp; omega) | simp)]; exact hall'.out, Ta.out.call (below_drewN (Below.refl _ _) _)⟩
                          case measure => simp [intOf]; omega
                    · obtain rfl : k = gls.length := by omega
                      obtain rfl : f = 0 := by omega
                      obtain rfl : A = true := hall'.out.symm
                      obtain ⟨_, _, _, _, _, _, _, _⟩ := r8 TT3.out.ra
                      clear hall' hT hk hlt
                      go_wp2_with fail
                      go_loopw [82] (fun vk wr => ∃ (k f : Nat), k + f = exs.length ∧ vk = .int .i64 k ∧ allP (fun k => exOk (MemExport.f0At exs k) (MemExport.f1At exs k) (MemExport.f2At exs k)) f k = B ∧ TI w wr (.slice a0 sigs.length c0) (.slice a1 imps.length c1) (.slice a2 fns.length c2) (.int .i64 pages) (.int .i64 most) (.slice a3 gls.length c3) (.slice a4 exs.length c4) (.slice a5 dat.length c5)) (fun vk _ => exs.length - (intOf vk).toNat)
                      case atStart => exact ⟨0, exs.length, by omega, rfl, hB.out, TT3.out⟩
                      case round =>
                        obtain ⟨k, f, hk, rfl, hall, hT⟩ := hrel
                        have hall' : Hid (allP (fun k => exOk (MemExport.f0At exs k) (MemExport.f1At exs k) (MemExport.f2At exs k)) f k = B) := hall
                        have TT4 : Hid (TI w wr (.slice a0 sigs.length c0) (.slice a1 imps.length c1) (.slice a2 fns.length c2) (.int .i64 pages) (.int .i64 most) (.slice a3 gls.length c3) (.slice a4 exs.length c4) (.slice a5 dat.length c5)) := hT
                        clear hall hB
                        by_cases hlt : k < exs.length
                        · have hlt' : (k : Int) < (exs.length : Int) := by omega
                          obtain ⟨f, rfl⟩ : ∃ j, f = j + 1 := ⟨f - 1, by omega⟩
                          rcases h4.out.later hT.bl with h0 | ⟨b, off, ha, hc⟩
                          · omega
                          · obtain ⟨e0, e1, e2⟩ := hc k hlt
                            have m1 : Hid (∀ u, Calls Tryz.prog 75 #[.string (MemExport.f0At exs k)] u fun e w' => e = .returned (.bool (nmOk (MemExport.f0At exs k))) ∧ u = w') := fun u => spec_name _ u (z4.out k hlt)
                            have Ta : Hid (TI w (wr.alloc (.cells #[.string (MemExport.f0At exs k), .int .i64 (MemExport.f1At exs k), .int .i64 (MemExport.f2At exs k)] 101)) (.slice a0 sigs.length c0) (.slice a1 imps.length c1) (.slice a2 fns.length c2) (.int .i64 pages) (.int .i64 most) (.slice a3 gls.length c3) (.slice a4 exs.length c4) (.slice a5 dat.length c5)) := hT.call ((Below.refl _ _).alloc (Nat.le_refl _) _)
                            have hno : Hid ((decide (MemExport.f1At exs k = 0 ∨ MemExport.f1At exs k = 2 ∨ MemExport.f1At exs k = 3) && (nmOk (MemExport.f0At exs k) && decide (0 ≤ MemExport.f2At exs k ∧ MemExport.f2At exs k ≤ 1000))) = false → allP (fun k => exOk (MemExport.f0At exs k) (MemExport.f1At exs k) (MemExport.f2At exs k)) (f + 1) k = false) := fun h => allP_no h
                            have hyes : Hid ((decide (MemExport.f1At exs k = 0 ∨ MemExport.f1At exs k = 2 ∨ MemExport.f1At exs k = 3) && (nmOk (MemExport.f0At exs k) && decide (0 ≤ MemExport.f2At exs k ∧ MemExport.f2At exs k ≤ 1000))) = true → allP (fun k => exOk (MemExport.f0At exs k) (MemExport.f1At exs k) (MemExport.f2At exs k)) (f + 1) k = allP (fun k => exOk (MemExport.f0At exs k) (MemExport.f1At exs k) (MemExport.f2At exs k)) f (k + 1)) := fun h => allP_yes h
                            subst ha
                            clear hc hT
                            generalize nmOk (MemExport.f0At exs k) = B0 at *
                            generalize MemExport.f0At exs k = x0 at *
                            generalize MemExport.f1At exs k = x1 at *
                            generalize MemExport.f2At exs k = x2 at *
                            obtain ⟨_, _, _, _, _, _, _, _⟩ := r8 Ta.out.ra
                            cases B0 with
                            | false =>
                              go_wp2_with (go_at_call 75; refine (m1.out _).mono ?_; rintro e w1 ⟨rfl, rfl⟩)
                              go_ret
                              refine ⟨?_, Ta.out.bl⟩
                              rw [← hall'.out, hno.out (by first | (simp; omega) | simp), hm.out, hn.out]
                              rfl
                            | true =>
                              by_cases d1 : ¬ (x1 = 0 ∨ x1 = 2 ∨ x1 = 3)
                              · have k0 : (x1 == 0) = false := beq_eq_false_iff_ne.2 (fun h => d1 (.inl h))
                                have k2 : (x1 == 2) = false := beq_eq_false_iff_ne.2 (fun h => d1 (.inr (.inl h)))
                                have k3 : (x1 == 3) = false := beq_eq_false_iff_ne.2 (fun h => d1 (.inr (.inr h)))
                                have q0 : (x1 != 0) = true := bne_iff_ne.2 (fun h => d1 (.inl h))
                                have q2 : (x1 != 2) = true := bne_iff_ne.2 (fun h => d1 (.inr (.inl h)))
                                have q3 : (x1 != 3) = true := bne_iff_ne.2 (fun h => d1 (.inr (.inr h)))
                                go_wp2_with (go_at_call 75; refine (m1.out _).mono ?_; rintro e w1 ⟨rfl, rfl⟩)
                                go_ret
                                refine ⟨?_, Ta.out.bl⟩
                                rw [← hall'.out, hno.out (by first | (simp; omega) | simp), hm.out, hn.out]
                                rfl
                              · have d1' := Decidable.not_not.1 d1
                                clear d1
                                rcases d1' with rfl | rfl | rfl
                                · skip
                                  by_cases d2 : x2 < 0
                                  · have g2 : decide (x2 < 0) = true := decide_eq_true d2
                                    go_wp2_with (go_at_call 75; refine (m1.out _).mono ?_; rintro e w1 ⟨rfl, rfl⟩)
                                    go_ret
                                    refine ⟨?_, Ta.out.bl⟩
                                    rw [← hall'.out, hno.out (by first | (simp; omega) | simp), hm.out, hn.out]
                                    rfl
                                  · have g2 : decide (x2 < 0) = false := decide_eq_false d2
                                    by_cases d3 : 1000 < x2
                                    · have g3 : decide (1000 < x2) = true := decide_eq_true d3
                                      go_wp2_with (go_at_call 75; refine (m1.out _).mono ?_; rintro e w1 ⟨rfl, rfl⟩)
                                      go_ret
                                      refine ⟨?_, Ta.out.bl⟩
                                      rw [← hall'.out, hno.out (by first | (simp; omega) | simp), hm.out, hn.out]
                                      rfl
                                    · have g3 : decide (1000 < x2) = false := decide_eq_false d3
                                      go_wp2_with (go_at_call 75; refine (m1.out _).mono ?_; rintro e w1 ⟨rfl, rfl⟩)
                                      go_roundw
                                      case rel => exact ⟨k + 1, f, by omega, by go_num, by rw [← hyes.out (by first | (simp; omega) | simp)]; exact hall'.out, Ta.out⟩
                                      case measure => simp [intOf]; omega
                                · skip
                                  by_cases d2 : x2 < 0
                                  · have g2 : decide (x2 < 0) = true := decide_eq_true d2
                                    go_wp2_with (go_at_call 75; refine (m1.out _).mono ?_; rintro e w1 ⟨rfl, rfl⟩)
                                    go_ret
                                    refine ⟨?_, Ta.out.bl⟩
                                    rw [← hall'.out, hno.out (by first | (simp; omega) | simp), hm.out, hn.out]
                                    rfl
                                  · have g2 : decide (x2 < 0) = false := decide_eq_false d2
                                    by_cases d3 : 1000 < x2
                                    · have g3 : decide (1000 < x2) = true := decide_eq_true d3
                                      go_wp2_with (go_at_call 75; refine (m1.out _).mono ?_; rintro e w1 ⟨rfl, rfl⟩)
                                      go_ret
                                      refine ⟨?_, Ta.out.bl⟩
                                      rw [← hall'.out, hno.out (by first | (simp; omega) | simp), hm.out, hn.out]
                                      rfl
                                    · have g3 : decide (1000 < x2) = false := decide_eq_false d3
                                      go_wp2_with (go_at_call 75; refine (m1.out _).mono ?_; rintro e w1 ⟨rfl, rfl⟩)
                                      go_roundw
                                      case rel => exact ⟨k + 1, f, by omega, by go_num, by rw [← hyes.out (by first | (simp; omega) | simp)]; exact hall'.out, Ta.out⟩
                                      case measure => simp [intOf]; omega
                                · skip
                                  by_cases d2 : x2 < 0
                                  · have g2 : decide (x2 < 0) = true := decide_eq_true d2
                                    go_wp2_with (go_at_call 75; refine (m1.out _).mono ?_; rintro e w1 ⟨rfl, rfl⟩)
                                    go_ret
                                    refine ⟨?_, Ta.out.bl⟩
                                    rw [← hall'.out, hno.out (by first | (simp; omega) | simp), hm.out, hn.out]
                                    rfl
                                  · have g2 : decide (x2 < 0) = false := decide_eq_false d2
                                    by_cases d3 : 1000 < x2
                                    · have g3 : decide (1000 < x2) = true := decide_eq_true d3
                                      go_wp2_with (go_at_call 75; refine (m1.out _).mono ?_; rintro e w1 ⟨rfl, rfl⟩)
                                      go_ret
                                      refine ⟨?_, Ta.out.bl⟩
                                      rw [← hall'.out, hno.out (by first | (simp; omega) | simp), hm.out, hn.out]
                                      rfl
                                    · have g3 : decide (1000 < x2) = false := decide_eq_false d3
                                      go_wp2_with (go_at_call 75; refine (m1.out _).mono ?_; rintro e w1 ⟨rfl, rfl⟩)
                                      go_roundw
                                      case rel => exact ⟨k + 1, f, by omega, by go_num, by rw [← hyes.out (by first | (simp; omega) | simp)]; exact hall'.out, Ta.out⟩
                                      case measure => simp [intOf]; omega
                        · obtain rfl : k = exs.length := by omega
                          obtain rfl : f = 0 := by omega
                          obtain rfl : B = true := hall'.out.symm
                          obtain ⟨_, _, _, _, _, _, _, _⟩ := r8 TT4.out.ra
                          clear hall' hT hk hlt
                          go_wp2_with fail
                          go_loopw [119] (fun vk wr => ∃ (k f : Nat), k + f = dat.length ∧ vk = .int .i64 k ∧ allP (fun k => daOk (MemData.at1 dat k).pos (MemData.at1 dat k).n) f k = C ∧ TI w wr (.slice a0 sigs.length c0) (.slice a1 imps.length c1) (.slice a2 fns.length c2) (.int .i64 pages) (.int .i64 most) (.slice a3 gls.length c3) (.slice a4 exs.length c4) (.slice a5 dat.length c5)) (fun vk _ => dat.length - (intOf vk).toNat)
                          case atStart => exact ⟨0, dat.length, by omega, rfl, hC.out, TT4.out⟩
                          case round =>
                            obtain ⟨k, f, hk, rfl, hall, hT⟩ := hrel
                            have hall' : Hid (allP (fun k => daOk (MemData.at1 dat k).pos (MemData.at1 dat k).n) f k = C) := hall
                            have TT5 : Hid (TI w wr (.slice a0 sigs.length c0) (.slice a1 imps.length c1) (.slice a2 fns.length c2) (.int .i64 pages) (.int .i64 most) (.slice a3 gls.length c3) (.slice a4 exs.length c4) (.slice a5 dat.length c5)) := hT
                            clear hall hC
                            by_cases hlt : k < dat.length
                            · have hlt' : (k : Int) < (dat.length : Int) := by omega
                              obtain ⟨f, rfl⟩ : ∃ j, f = j + 1 := ⟨f - 1, by omega⟩
                              rcases h5.out.later hT.bl with h0 | ⟨b, off, ha, hc⟩
                              · omega
                              · obtain ⟨e0, e1, eb⟩ := hc k hlt
                                have zk : (MemData.at1 dat k).n ≤ 1048576 := z5.out k hlt
                                clear eb
                                have Ta : Hid (TI w (wr.alloc (.cells #[.int .i64 (MemData.at1 dat k).pos, .slice (MemData.at1 dat k).ad (MemData.at1 dat k).n (MemData.at1 dat k).cp] 105)) (.slice a0 sigs.length c0) (.slice a1 imps.length c1) (.slice a2 fns.length c2) (.int .i64 pages) (.int .i64 most) (.slice a3 gls.length c3) (.slice a4 exs.length c4) (.slice a5 dat.length c5)) := hT.call ((Below.refl _ _).alloc (Nat.le_refl _) _)
                                have hno : Hid ((decide (-2147483648 ≤ (MemData.at1 dat k).pos ∧ (MemData.at1 dat k).pos ≤ 2147483647) && decide ((MemData.at1 dat k).n ≤ 2000)) = false → allP (fun k => daOk (MemData.at1 dat k).pos (MemData.at1 dat k).n) (f + 1) k = false) := fun h => allP_no h
                                have hyes : Hid ((decide (-2147483648 ≤ (MemData.at1 dat k).pos ∧ (MemData.at1 dat k).pos ≤ 2147483647) && decide ((MemData.at1 dat k).n ≤ 2000)) = true → allP (fun k => daOk (MemData.at1 dat k).pos (MemData.at1 dat k).n) (f + 1) k = allP (fun k => daOk (MemData.at1 dat k).pos (MemData.at1 dat k).n) f (k + 1)) := fun h => allP_yes h
                                subst ha
                                clear hc hT
                                generalize (MemData.at1 dat k).n = x1 at *
                                generalize (MemData.at1 dat k).pos = x0 at *
                                generalize (MemData.at1 dat k).ad = x2 at *
                                generalize (MemData.at1 dat k).cp = x3 at *
                                obtain ⟨_, _, _, _, _, _, _, _⟩ := r8 Ta.out.ra
                                by_cases d0 : ¬ (-2147483648 ≤ x0 ∧ x0 ≤ 2147483647)
                                · have g0 : (wrap32 x0 == x0) = false := by rw [wrap_same]; exact decide_eq_false d0
                                  have f0 : (wrap32 x0 != x0) = true := by rw [bne, g0]; rfl
                                  go_wp2_with fail
                                  go_quiet (first | (go_at_call 74; refine Calls.quiet_of_same ((spec_wrap _ _).mono fun _ _ ⟨h1, h2⟩ => ⟨h1, h2.symm⟩)))
                                  go_wp2_with fail
                                  go_ret
                                  refine ⟨?_, below_drewN Ta.out.bl _⟩
                                  rw [← hall'.out, hno.out (by first | (simp; omega) | simp), hm.out, hn.out]
                                  rfl
                                · have g0 : wrap32 x0 = x0 := wrap32_in (by omega) (by omega)
                                  by_cases d1 : 2000 < (x1 : Int)
                                  · have g1 : decide (2000 < (x1 : Int)) = true := decide_eq_true d1
                                    go_wp2_with fail
                                    go_quiet (first | (go_at_call 74; refine Calls.quiet_of_same ((spec_wrap _ _).mono fun _ _ ⟨h1, h2⟩ => ⟨h1, h2.symm⟩)))
                                    go_wp2_with fail
                                    go_ret
                                    refine ⟨?_, below_drewN Ta.out.bl _⟩
                                    rw [← hall'.out, hno.out (by first | (simp; omega) | simp), hm.out, hn.out]
                                    rfl
                                  · have g1 : decide (2000 < (x1 : Int)) = false := decide_eq_false d1
                                    go_wp2_with fail
                                    go_quiet (first | (go_at_call 74; refine Calls.quiet_of_same ((spec_wrap _ _).mono fun _ _ ⟨h1, h2⟩ => ⟨h1, h2.symm⟩)))
                                    go_wp2_with fail
                                    go_roundw
                                    case rel => exact ⟨k + 1, f, by omega, by go_num, by rw [← hyes.out (by first | (simp; omega) | simp)]; exact hall'.out, Ta.out.call (below_drewN (Below.refl _ _) _)⟩
                                    case measure => simp [intOf]; omega
                            · obtain rfl : k = dat.length := by omega
                              obtain rfl : f = 0 := by omega
                              obtain rfl : C = true := hall'.out.symm
                              obtain ⟨_, _, _, _, _, _, _, _⟩ := r8 TT5.out.ra
                              clear hall' hT hk hlt
                              go_wp2_with fail
                              go_ret
                              exact ⟨by rw [hm.out, hn.out]; rfl, TT5.out.bl⟩
                · have dl2 : (20 < (dat.length : Int)) := by omega
                  have gl2 : decide (20 < (dat.length : Int)) = true := decide_eq_true dl2
                  have hn : Hid (decide (gls.length ≤ 30 ∧ exs.length ≤ 60 ∧ dat.length ≤ 20) = false) := decide_eq_false (fun h => y2 (by omega))
                  clear y0 y1 y2
                  go_enter Tryz.func22, Tryz.ntmps22
                  go_wp2_with (go_at_call 73; refine hP.out.mono ?_; rintro e w1 ⟨rfl, q1⟩; have TW : Hid (TI w w1 (.slice a0 sigs.length c0) (.slice a1 imps.length c1) (.slice a2 fns.length c2) (.int .i64 pages) (.int .i64 most) (.slice a3 gls.length c3) (.slice a4 exs.length c4) (.slice a5 dat.length c5)) := T0.out.call q1; obtain ⟨_, _, _, _, _, _, _, _⟩ := r8 TW.out.ra)
                  go_ret
                  refine ⟨?_, TW.out.bl⟩
                  rw [hm.out, hn.out]
                  rfl
              · have dl1 : (60 < (exs.length : Int)) := by omega
                have gl1 : decide (60 < (exs.length : Int)) = true := decide_eq_true dl1
                have hn : Hid (decide (gls.length ≤ 30 ∧ exs.length ≤ 60 ∧ dat.length ≤ 20) = false) := decide_eq_false (fun h => y1 (by omega))
                clear y0 y1
                go_enter Tryz.func22, Tryz.ntmps22
                go_wp2_with (go_at_call 73; refine hP.out.mono ?_; rintro e w1 ⟨rfl, q1⟩; have TW : Hid (TI w w1 (.slice a0 sigs.length c0) (.slice a1 imps.length c1) (.slice a2 fns.length c2) (.int .i64 pages) (.int .i64 most) (.slice a3 gls.length c3) (.slice a4 exs.length c4) (.slice a5 dat.length c5)) := T0.out.call q1; obtain ⟨_, _, _, _, _, _, _, _⟩ := r8 TW.out.ra)
                go_ret
                refine ⟨?_, TW.out.bl⟩
                rw [hm.out, hn.out]
                rfl
            · have dl0 : (30 < (gls.length : Int)) := by omega
              have gl0 : decide (30 < (gls.length : Int)) = true := decide_eq_true dl0
              have hn : Hid (decide (gls.length ≤ 30 ∧ exs.length ≤ 60 ∧ dat.length ≤ 20) = false) := decide_eq_false (fun h => y0 (by omega))
              clear y0
              go_enter Tryz.func22, Tryz.ntmps22
              go_wp2_with (go_at_call 73; refine hP.out.mono ?_; rintro e w1 ⟨rfl, q1⟩; have TW : Hid (TI w w1 (.slice a0 sigs.length c0) (.slice a1 imps.length c1) (.slice a2 fns.length c2) (.int .i64 pages) (.int .i64 most) (.slice a3 gls.length c3) (.slice a4 exs.length c4) (.slice a5 dat.length c5)) := T0.out.call q1; obtain ⟨_, _, _, _, _, _, _, _⟩ := r8 TW.out.ra)
              go_ret
              refine ⟨?_, TW.out.bl⟩
              rw [hm.out, hn.out]
              rfl
          · have fm : (most != -1) = true := bne_iff_ne.2 (by omega)
            have gm : (most == -1) = false := beq_eq_false_iff_ne.2 (by omega)
            have hm : Hid (meOk pages most = false) := by rw [p2]; show meOk (-1) most = false; unfold meOk wi; rw [if_neg p3]; simp
            clear p0 p1 p2 p3
            go_enter Tryz.func22, Tryz.ntmps22
            go_wp2_with (go_at_call 73; refine hP.out.mono ?_; rintro e w1 ⟨rfl, q1⟩; have TW : Hid (TI w w1 (.slice a0 sigs.length c0) (.slice a1 imps.length c1) (.slice a2 fns.length c2) (.int .i64 pages) (.int .i64 most) (.slice a3 gls.length c3) (.slice a4 exs.length c4) (.slice a5 dat.length c5)) := T0.out.call q1; obtain ⟨_, _, _, _, _, _, _, _⟩ := r8 TW.out.ra)
            go_ret
            refine ⟨?_, TW.out.bl⟩
            rw [hm.out]
            rfl
        · have fp2 : (pages != -1) = true := bne_iff_ne.2 (by omega)
          have gp2 : (pages == -1) = false := beq_eq_false_iff_ne.2 (by omega)
          by_cases p3 : most = -1
          · have fm : (most != -1) = false := bne_eq_false_iff_eq.2 (by omega)
            have gm : (most == -1) = true := beq_iff_eq.2 (by omega)
            have hm : Hid (meOk pages most = true) := by rw [p3]; show meOk pages (-1) = true; unfold meOk wi; simp; omega
            clear p0 p1 p2 p3
            by_cases y0 : gls.length ≤ 30
            · have dl0 : ¬ (30 < (gls.length : Int)) := by omega
              have gl0 : decide (30 < (gls.length : Int)) = false := decide_eq_false dl0
              by_cases y1 : exs.length ≤ 60
              · have dl1 : ¬ (60 < (exs.length : Int)) := by omega
                have gl1 : decide (60 < (exs.length : Int)) = false := decide_eq_false dl1
                by_cases y2 : dat.length ≤ 20
                · have dl2 : ¬ (20 < (dat.length : Int)) := by omega
                  have gl2 : decide (20 < (dat.length : Int)) = false := decide_eq_false dl2
                  have hn : Hid (decide (gls.length ≤ 30 ∧ exs.length ≤ 60 ∧ dat.length ≤ 20) = true) := decide_eq_true ⟨y0, y1, y2⟩
                  clear y0 y1 y2
                  go_enter Tryz.func22, Tryz.ntmps22
                  go_wp2_with (go_at_call 73; refine hP.out.mono ?_; rintro e w1 ⟨rfl, q1⟩; have TW : Hid (TI w w1 (.slice a0 sigs.length c0) (.slice a1 imps.length c1) (.slice a2 fns.length c2) (.int .i64 pages) (.int .i64 most) (.slice a3 gls.length c3) (.slice a4 exs.length c4) (.slice a5 dat.length c5)) := T0.out.call q1; obtain ⟨_, _, _, _, _, _, _, _⟩ := r8 TW.out.ra)
                  clear dl0 gl0 dl1 gl1 dl2 gl2 hP
                  go_loopw [68] (fun vk wr => ∃ (k f : Nat), k + f = gls.length ∧ vk = .int .i64 k ∧ allP (fun k => glOk (MemGlobal.f1At gls k)) f k = A ∧ TI w wr (.slice a0 sigs.length c0) (.slice a1 imps.length c1) (.slice a2 fns.length c2) (.int .i64 pages) (.int .i64 most) (.slice a3 gls.length c3) (.slice a4 exs.length c4) (.slice a5 dat.length c5)) (fun vk _ => gls.length - (intOf vk).toNat)
                  case atStart => exact ⟨0, gls.length, by omega, rfl, hA.out, TW.out⟩
                  case round =>
                    obtain ⟨k, f, hk, rfl, hall, hT⟩ := hrel
                    have hall' : Hid (allP (fun k => glOk (MemGlobal.f1At gls k)) f k = A) := hall
                    have TT3 : Hid (TI w wr (.slice a0 sigs.length c0) (.slice a1 imps.length c1) (.slice a2 fns.length c2) (.int .i64 pages) (.int .i64 most) (.slice a3 gls.length c3) (.slice a4 exs.length c4) (.slice a5 dat.length c5)) := hT
                    clear hall hA
                    by_cases hlt : k < gls.length
                    · have hlt' : (k : Int) < (gls.length : Int) := by omega
                      obtain ⟨f, rfl⟩ : ∃ j, f = j + 1 := ⟨f - 1, by omega⟩
                      rcases h3.out.later hT.bl with h0 | ⟨b, off, ha, hc⟩
                      · omega
                      · obtain ⟨e0, e1⟩ := hc k hlt
                        have Ta : Hid (TI w (wr.alloc (.cells #[.bool (MemGlobal.f0At gls k), .int .i64 (MemGlobal.f1At gls k)] 97)) (.slice a0 sigs.length c0) (.slice a1 imps.length c1) (.slice a2 fns.length c2) (.int .i64 pages) (.int .i64 most) (.slice a3 gls.length c3) (.slice a4 exs.length c4) (.slice a5 dat.length c5)) := hT.call ((Below.refl _ _).alloc (Nat.le_refl _) _)
                        have hno : Hid ((decide (-2147483648 ≤ MemGlobal.f1At gls k ∧ MemGlobal.f1At gls k ≤ 2147483647)) = false → allP (fun k => glOk (MemGlobal.f1At gls k)) (f + 1) k = false) := fun h => allP_no h
                        have hyes : Hid ((decide (-2147483648 ≤ MemGlobal.f1At gls k ∧ MemGlobal.f1At gls k ≤ 2147483647)) = true → allP (fun k => glOk (MemGlobal.f1At gls k)) (f + 1) k = allP (fun k => glOk (MemGlobal.f1At gls k)) f (k + 1)) := fun h => allP_yes h
                        subst ha
                        clear hc hT
                        generalize MemGlobal.f0At gls k = x0 at *
                        generalize MemGlobal.f1At gls k = x1 at *
                        obtain ⟨_, _, _, _, _, _, _, _⟩ := r8 Ta.out.ra
                        by_cases d0 : ¬ (-2147483648 ≤ x1 ∧ x1 ≤ 2147483647)
                        · have g0 : (wrap32 x1 == x1) = false := by rw [wrap_same]; exact decide_eq_false d0
                          have f0 : (wrap32 x1 != x1) = true := by rw [bne, g0]; rfl
                          go_wp2_with fail
                          go_quiet (first | (go_at_call 74; refine Calls.quiet_of_same ((spec_wrap _ _).mono fun _ _ ⟨h1, h2⟩ => ⟨h1, h2.symm⟩)))
                          go_wp2_with fail
                          go_ret
                          refine ⟨?_, below_drewN Ta.out.bl _⟩
                          rw [← hall'.out, hno.out (by first | (simp; omega) | simp), hm.out, hn.out]
                          rfl
                        · have g0 : wrap32 x1 = x1 := wrap32_in (by omega) (by omega)
                          go_wp2_with fail
                          go_quiet (first | (go_at_call 74; refine Calls.quiet_of_same ((spec_wrap _ _).mono fun _ _ ⟨h1, h2⟩ => ⟨h1, h2.symm⟩)))
                          go_wp2_with fail
                          go_roundw
                          case rel => exact ⟨k + 1, f, by omega, by go_num, by rw [← hyes.out (by first | (simp; omega) | simp)]; exact hall'.out, Ta.out.call (below_drewN (Below.refl _ _) _)⟩
                          case measure => simp [intOf]; omega
                    · obtain rfl : k = gls.length := by omega
                      obtain rfl : f = 0 := by omega
                      obtain rfl : A = true := hall'.out.symm
                      obtain ⟨_, _, _, _, _, _, _, _⟩ := r8 TT3.out.ra
                      clear hall' hT hk hlt
                      go_wp2_with fail
                      go_loopw [82] (fun vk wr => ∃ (k f : Nat), k + f = exs.length ∧ vk = .int .i64 k ∧ allP (fun k => exOk (MemExport.f0At exs k) (MemExport.f1At exs k) (MemExport.f2At exs k)) f k = B ∧ TI w wr (.slice a0 sigs.length c0) (.slice a1 imps.length c1) (.slice a2 fns.length c2) (.int .i64 pages) (.int .i64 most) (.slice a3 gls.length c3) (.slice a4 exs.length c4) (.slice a5 dat.length c5)) (fun vk _ => exs.length - (intOf vk).toNat)
                      case atStart => exact ⟨0, exs.length, by omega, rfl, hB.out, TT3.out⟩
                      case round =>
                        obtain ⟨k, f, hk, rfl, hall, hT⟩ := hrel
                        have hall' : Hid (allP (fun k => exOk (MemExport.f0At exs k) (MemExport.f1At exs k) (MemExport.f2At exs k)) f k = B) := hall
                        have TT4 : Hid (TI w wr (.slice a0 sigs.length c0) (.slice a1 imps.length c1) (.slice a2 fns.length c2) (.int .i64 pages) (.int .i64 most) (.slice a3 gls.length c3) (.slice a4 exs.length c4) (.slice a5 dat.length c5)) := hT
                        clear hall hB
                        by_cases hlt : k < exs.length
                        · have hlt' : (k : Int) < (exs.length : Int) := by omega
                          obtain ⟨f, rfl⟩ : ∃ j, f = j + 1 := ⟨f - 1, by omega⟩
                          rcases h4.out.later hT.bl with h0 | ⟨b, off, ha, hc⟩
                          · omega
                          · obtain ⟨e0, e1, e2⟩ := hc k hlt
                            have m1 : Hid (∀ u, Calls Tryz.prog 75 #[.string (MemExport.f0At exs k)] u fun e w' => e = .returned (.bool (nmOk (MemExport.f0At exs k))) ∧ u = w') := fun u => spec_name _ u (z4.out k hlt)
                            have Ta : Hid (TI w (wr.alloc (.cells #[.string (MemExport.f0At exs k), .int .i64 (MemExport.f1At exs k), .int .i64 (MemExport.f2At exs k)] 101)) (.slice a0 sigs.length c0) (.slice a1 imps.length c1) (.slice a2 fns.length c2) (.int .i64 pages) (.int .i64 most) (.slice a3 gls.length c3) (.slice a4 exs.length c4) (.slice a5 dat.length c5)) := hT.call ((Below.refl _ _).alloc (Nat.le_refl _) _)
                            have hno : Hid ((decide (MemExport.f1At exs k = 0 ∨ MemExport.f1At exs k = 2 ∨ MemExport.f1At exs k = 3) && (nmOk (MemExport.f0At exs k) && decide (0 ≤ MemExport.f2At exs k ∧ MemExport.f2At exs k ≤ 1000))) = false → allP (fun k => exOk (MemExport.f0At exs k) (MemExport.f1At exs k) (MemExport.f2At exs k)) (f + 1) k = false) := fun h => allP_no h
                            have hyes : Hid ((decide (MemExport.f1At exs k = 0 ∨ MemExport.f1At exs k = 2 ∨ MemExport.f1At exs k = 3) && (nmOk (MemExport.f0At exs k) && decide (0 ≤ MemExport.f2At exs k ∧ MemExport.f2At exs k ≤ 1000))) = true → allP (fun k => exOk (MemExport.f0At exs k) (MemExport.f1At exs k) (MemExport.f2At exs k)) (f + 1) k = allP (fun k => exOk (MemExport.f0At exs k) (MemExport.f1At exs k) (MemExport.f2At exs k)) f (k + 1)) := fun h => allP_yes h
                            subst ha
                            clear hc hT
                            generalize nmOk (MemExport.f0At exs k) = B0 at *
                            generalize MemExport.f0At exs k = x0 at *
                            generalize MemExport.f1At exs k = x1 at *
                            generalize MemExport.f2At exs k = x2 at *
                            obtain ⟨_, _, _, _, _, _, _, _⟩ := r8 Ta.out.ra
                            cases B0 with
                            | false =>
                              go_wp2_with (go_at_call 75; refine (m1.out _).mono ?_; rintro e w1 ⟨rfl, rfl⟩)
                              go_ret
                              refine ⟨?_, Ta.out.bl⟩
                              rw [← hall'.out, hno.out (by first | (simp; omega) | simp), hm.out, hn.out]
                              rfl
                            | true =>
                              by_cases d1 : ¬ (x1 = 0 ∨ x1 = 2 ∨ x1 = 3)
                              · have k0 : (x1 == 0) = false := beq_eq_false_iff_ne.2 (fun h => d1 (.inl h))
                                have k2 : (x1 == 2) = false := beq_eq_false_iff_ne.2 (fun h => d1 (.inr (.inl h)))
                                have k3 : (x1 == 3) = false := beq_eq_false_iff_ne.2 (fun h => d1 (.inr (.inr h)))
                                have q0 : (x1 != 0) = true := bne_iff_ne.2 (fun h => d1 (.inl h))
                                have q2 : (x1 != 2) = true := bne_iff_ne.2 (fun h => d1 (.inr (.inl h)))
                                have q3 : (x1 != 3) = true := bne_iff_ne.2 (fun h => d1 (.inr (.inr h)))
                                go_wp2_with (go_at_call 75; refine (m1.out _).mono ?_; rintro e w1 ⟨rfl, rfl⟩)
                                go_ret
                                refine ⟨?_, Ta.out.bl⟩
                                rw [← hall'.out, hno.out (by first | (simp; omega) | simp), hm.out, hn.out]
                                rfl
                              · have d1' := Decidable.not_not.1 d1
                                clear d1
                                rcases d1' with rfl | rfl | rfl
                                · skip
                                  by_cases d2 : x2 < 0
                                  · have g2 : decide (x2 < 0) = true := decide_eq_true d2
                                    go_wp2_with (go_at_call 75; refine (m1.out _).mono ?_; rintro e w1 ⟨rfl, rfl⟩)
                                    go_ret
                                    refine ⟨?_, Ta.out.bl⟩
                                    rw [← hall'.out, hno.out (by first | (simp; omega) | simp), hm.out, hn.out]
                                    rfl
                                  · have g2 : decide (x2 < 0) = false := decide_eq_false d2
                                    by_cases d3 : 1000 < x2
                                    · have g3 : decide (1000 < x2) = true := decide_eq_true d3
                                      go_wp2_with (go_at_call 75; refine (m1.out _).mono ?_; rintro e w1 ⟨rfl, rfl⟩)
                                      go_ret
                                      refine ⟨?_, Ta.out.bl⟩
                                      rw [← hall'.out, hno.out (by first | (simp; omega) | simp), hm.out, hn.out]
                                      rfl
                                    · have g3 : decide (1000 < x2) = false := decide_eq_false d3
                                      go_wp2_with (go_at_call 75; refine (m1.out _).mono ?_; rintro e w1 ⟨rfl, rfl⟩)
                                      go_roundw
                                      case rel => exact ⟨k + 1, f, by omega, by go_num, by rw [← hyes.out (by first | (simp; omega) | simp)]; exact hall'.out, Ta.out⟩
                                      case measure => simp [intOf]; omega
                                · skip
                                  by_cases d2 : x2 < 0
                                  · have g2 : decide (x2 < 0) = true := decide_eq_true d2
                                    go_wp2_with (go_at_call 75; refine (m1.out _).mono ?_; rintro e w1 ⟨rfl, rfl⟩)
                                    go_ret
                                    refine ⟨?_, Ta.out.bl⟩
                                    rw [← hall'.out, hno.out (by first | (simp; omega) | simp), hm.out, hn.out]
                                    rfl
                                  · have g2 : decide (x2 < 0) = false := decide_eq_false d2
                                    by_cases d3 : 1000 < x2
                                    · have g3 : decide (1000 < x2) = true := decide_eq_true d3
                                      go_wp2_with (go_at_call 75; refine (m1.out _).mono ?_; rintro e w1 ⟨rfl, rfl⟩)
                                      go_ret
                                      refine ⟨?_, Ta.out.bl⟩
                                      rw [← hall'.out, hno.out (by first | (simp; omega) | simp), hm.out, hn.out]
                                      rfl
                                    · have g3 : decide (1000 < x2) = false := decide_eq_false d3
                                      go_wp2_with (go_at_call 75; refine (m1.out _).mono ?_; rintro e w1 ⟨rfl, rfl⟩)
                                      go_roundw
                                      case rel => exact ⟨k + 1, f, by omega, by go_num, by rw [← hyes.out (by first | (simp; omega) | simp)]; exact hall'.out, Ta.out⟩
                                      case measure => simp [intOf]; omega
                                · skip
                                  by_cases d2 : x2 < 0
                                  · have g2 : decide (x2 < 0) = true := decide_eq_true d2
                                    go_wp2_with (go_at_call 75; refine (m1.out _).mono ?_; rintro e w1 ⟨rfl, rfl⟩)
                                    go_ret
                                    refine ⟨?_, Ta.out.bl⟩
                                    rw [← hall'.out, hno.out (by first | (simp; omega) | simp), hm.out, hn.out]
                                    rfl
                                  · have g2 : decide (x2 < 0) = false := decide_eq_false d2
                                    by_cases d3 : 1000 < x2
                                    · have g3 : decide (1000 < x2) = true := decide_eq_true d3
                                      go_wp2_with (go_at_call 75; refine (m1.out _).mono ?_; rintro e w1 ⟨rfl, rfl⟩)
                                      go_ret
                                      refine ⟨?_, Ta.out.bl⟩
                                      rw [← hall'.out, hno.out (by first | (simp; omega) | simp), hm.out, hn.out]
                                      rfl
                                    · have g3 : decide (1000 < x2) = false := decide_eq_false d3
                                      go_wp2_with (go_at_call 75; refine (m1.out _).mono ?_; rintro e w1 ⟨rfl, rfl⟩)
                                      go_roundw
                                      case rel => exact ⟨k + 1, f, by omega, by go_num, by rw [← hyes.out (by first | (simp; omega) | simp)]; exact hall'.out, Ta.out⟩
                                      case measure => simp [intOf]; omega
                        · obtain rfl : k = exs.length := by omega
                          obtain rfl : f = 0 := by omega
                          obtain rfl : B = true := hall'.out.symm
                          obtain ⟨_, _, _, _, _, _, _, _⟩ := r8 TT4.out.ra
                          clear hall' hT hk hlt
                          go_wp2_with fail
                          go_loopw [119] (fun vk wr => ∃ (k f : Nat), k + f = dat.length ∧ vk = .int .i64 k ∧ allP (fun k => daOk (MemData.at1 dat k).pos (MemData.at1 dat k).n) f k = C ∧ TI w wr (.slice a0 sigs.length c0) (.slice a1 imps.length c1) (.slice a2 fns.length c2) (.int .i64 pages) (.int .i64 most) (.slice a3 gls.length c3) (.slice a4 exs.length c4) (.slice a5 dat.length c5)) (fun vk _ => dat.length - (intOf vk).toNat)
                          case atStart => exact ⟨0, dat.length, by omega, rfl, hC.out, TT4.out⟩
                          case round =>
                            obtain ⟨k, f, hk, rfl, hall, hT⟩ := hrel
                            have hall' : Hid (allP (fun k => daOk (MemData.at1 dat k).pos (MemData.at1 dat k).n) f k = C) := hall
                            have TT5 : Hid (TI w wr (.slice a0 sigs.length c0) (.slice a1 imps.length c1) (.slice a2 fns.length c2) (.int .i64 pages) (.int .i64 most) (.slice a3 gls.length c3) (.slice a4 exs.length c4) (.slice a5 dat.length c5)) := hT
                            clear hall hC
                            by_cases hlt : k < dat.length
                            · have hlt' : (k : Int) < (dat.length : Int) := by omega
                              obtain ⟨f, rfl⟩ : ∃ j, f = j + 1 := ⟨f - 1, by omega⟩
                              rcases h5.out.later hT.bl with h0 | ⟨b, off, ha, hc⟩
                              · omega
                              · obtain ⟨e0, e1, eb⟩ := hc k hlt
                                have zk : (MemData.at1 dat k).n ≤ 1048576 := z5.out k hlt
                                clear eb
                                have Ta : Hid (TI w (wr.alloc (.cells #[.int .i64 (MemData.at1 dat k).pos, .slice (MemData.at1 dat k).ad (MemData.at1 dat k).n (MemData.at1 dat k).cp] 105)) (.slice a0 sigs.length c0) (.slice a1 imps.length c1) (.slice a2 fns.length c2) (.int .i64 pages) (.int .i64 most) (.slice a3 gls.length c3) (.slice a4 exs.length c4) (.slice a5 dat.length c5)) := hT.call ((Below.refl _ _).alloc (Nat.le_refl _) _)
                                have hno : Hid ((decide (-2147483648 ≤ (MemData.at1 dat k).pos ∧ (MemData.at1 dat k).pos ≤ 2147483647) && decide ((MemData.at1 dat k).n ≤ 2000)) = false → allP (fun k => daOk (MemData.at1 dat k).pos (MemData.at1 dat k).n) (f + 1) k = false) := fun h => allP_no h
                                have hyes : Hid ((decide (-2147483648 ≤ (MemData.at1 dat k).pos ∧ (MemData.at1 dat k).pos ≤ 2147483647) && decide ((MemData.at1 dat k).n ≤ 2000)) = true → allP (fun k => daOk (MemData.at1 dat k).pos (MemData.at1 dat k).n) (f + 1) k = allP (fun k => daOk (MemData.at1 dat k).pos (MemData.at1 dat k).n) f (k + 1)) := fun h => allP_yes h
                                subst ha
                                clear hc hT
                                generalize (MemData.at1 dat k).n = x1 at *
                                generalize (MemData.at1 dat k).pos = x0 at *
                                generalize (MemData.at1 dat k).ad = x2 at *
                                generalize (MemData.at1 dat k).cp = x3 at *
                                obtain ⟨_, _, _, _, _, _, _, _⟩ := r8 Ta.out.ra
                                by_cases d0 : ¬ (-2147483648 ≤ x0 ∧ x0 ≤ 2147483647)
                                · have g0 : (wrap32 x0 == x0) = false := by rw [wrap_same]; exact decide_eq_false d0
                                  have f0 : (wrap32 x0 != x0) = true := by rw [bne, g0]; rfl
                                  go_wp2_with fail
                                  go_quiet (first | (go_at_call 74; refine Calls.quiet_of_same ((spec_wrap _ _).mono fun _ _ ⟨h1, h2⟩ => ⟨h1, h2.symm⟩)))
                                  go_wp2_with fail
                                  go_ret
                                  refine ⟨?_, below_drewN Ta.out.bl _⟩
                                  rw [← hall'.out, hno.out (by first | (simp; omega) | simp), hm.out, hn.out]
                                  rfl
                                · have g0 : wrap32 x0 = x0 := wrap32_in (by omega) (by omega)
                                  by_cases d1 : 2000 < (x1 : Int)
                                  · have g1 : decide (2000 < (x1 : Int)) = true := decide_eq_true d1
                                    go_wp2_with fail
                                    go_quiet (first | (go_at_call 74; refine Calls.quiet_of_same ((spec_wrap _ _).mono fun _ _ ⟨h1, h2⟩ => ⟨h1, h2.symm⟩)))
                                    go_wp2_with fail
                                    go_ret
                                    refine ⟨?_, below_drewN Ta.out.bl _⟩
                                    rw [← hall'.out, hno.out (by first | (simp; omega) | simp), hm.out, hn.out]
                                    rfl
                                  · have g1 : decide (2000 < (x1 : Int)) = false := decide_eq_false d1
                                    go_wp2_with fail
                                    go_quiet (first | (go_at_call 74; refine Calls.quiet_of_same ((spec_wrap _ _).mono fun _ _ ⟨h1, h2⟩ => ⟨h1, h2.symm⟩)))
                                    go_wp2_with fail
                                    go_roundw
                                    case rel => exact ⟨k + 1, f, by omega, by go_num, by rw [← hyes.out (by first | (simp; omega) | simp)]; exact hall'.out, Ta.out.call (below_drewN (Below.refl _ _) _)⟩
                                    case measure => simp [intOf]; omega
                            · obtain rfl : k = dat.length := by omega
                              obtain rfl : f = 0 := by omega
                              obtain rfl : C = true := hall'.out.symm
                              obtain ⟨_, _, _, _, _, _, _, _⟩ := r8 TT5.out.ra
                              clear hall' hT hk hlt
                              go_wp2_with fail
                              go_ret
                              exact ⟨by rw [hm.out, hn.out]; rfl, TT5.out.bl⟩
                · have dl2 : (20 < (dat.length : Int)) := by omega
                  have gl2 : decide (20 < (dat.length : Int)) = true := decide_eq_true dl2
                  have hn : Hid (decide (gls.length ≤ 30 ∧ exs.length ≤ 60 ∧ dat.length ≤ 20) = false) := decide_eq_false (fun h => y2 (by omega))
                  clear y0 y1 y2
                  go_enter Tryz.func22, Tryz.ntmps22
                  go_wp2_with (go_at_call 73; refine hP.out.mono ?_; rintro e w1 ⟨rfl, q1⟩; have TW : Hid (TI w w1 (.slice a0 sigs.length c0) (.slice a1 imps.length c1) (.slice a2 fns.length c2) (.int .i64 pages) (.int .i64 most) (.slice a3 gls.length c3) (.slice a4 exs.length c4) (.slice a5 dat.length c5)) := T0.out.call q1; obtain ⟨_, _, _, _, _, _, _, _⟩ := r8 TW.out.ra)
                  go_ret
                  refine ⟨?_, TW.out.bl⟩
                  rw [hm.out, hn.out]
                  rfl
              · have dl1 : (60 < (exs.length : Int)) := by omega
                have gl1 : decide (60 < (exs.length : Int)) = true := decide_eq_true dl1
                have hn : Hid (decide (gls.length ≤ 30 ∧ exs.length ≤ 60 ∧ dat.length ≤ 20) = false) := decide_eq_false (fun h => y1 (by omega))
                clear y0 y1
                go_enter Tryz.func22, Tryz.ntmps22
                go_wp2_with (go_at_call 73; refine hP.out.mono ?_; rintro e w1 ⟨rfl, q1⟩; have TW : Hid (TI w w1 (.slice a0 sigs.length c0) (.slice a1 imps.length c1) (.slice a2 fns.length c2) (.int .i64 pages) (.int .i64 most) (.slice a3 gls.length c3) (.slice a4 exs.length c4) (.slice a5 dat.length c5)) := T0.out.call q1; obtain ⟨_, _, _, _, _, _, _, _⟩ := r8 TW.out.ra)
                go_ret
                refine ⟨?_, TW.out.bl⟩
                rw [hm.out, hn.out]
                rfl
            · have dl0 : (30 < (gls.length : Int)) := by omega
              have gl0 : decide (30 < (gls.length : Int)) = true := decide_eq_true dl0
              have hn : Hid (decide (gls.length ≤ 30 ∧ exs.length ≤ 60 ∧ dat.length ≤ 20) = false) := decide_eq_false (fun h => y0 (by omega))
              clear y0
              go_enter Tryz.func22, Tryz.ntmps22
              go_wp2_with (go_at_call 73; refine hP.out.mono ?_; rintro e w1 ⟨rfl, q1⟩; have TW : Hid (TI w w1 (.slice a0 sigs.length c0) (.slice a1 imps.length c1) (.slice a2 fns.length c2) (.int .i64 pages) (.int .i64 most) (.slice a3 gls.length c3) (.slice a4 exs.length c4) (.slice a5 dat.length c5)) := T0.out.call q1; obtain ⟨_, _, _, _, _, _, _, _⟩ := r8 TW.out.ra)
              go_ret
              refine ⟨?_, TW.out.bl⟩
              rw [hm.out, hn.out]
              rfl
          · have fm : (most != -1) = true := bne_iff_ne.2 (by omega)
            have gm : (most == -1) = false := beq_eq_false_iff_ne.2 (by omega)
            by_cases p4 : most < pages
            · have dr : (most < pages) := by omega
              have gr : decide (most < pages) = true := decide_eq_true dr
              have hm : Hid (meOk pages most = false) := by show meOk pages most = false; unfold meOk wi; rw [if_neg p3]; simp; omega
              go_enter Tryz.func22, Tryz.ntmps22
              go_wp2_with (go_at_call 73; refine hP.out.mono ?_; rintro e w1 ⟨rfl, q1⟩; have TW : Hid (TI w w1 (.slice a0 sigs.length c0) (.slice a1 imps.length c1) (.slice a2 fns.length c2) (.int .i64 pages) (.int .i64 most) (.slice a3 gls.length c3) (.slice a4 exs.length c4) (.slice a5 dat.length c5)) := T0.out.call q1; obtain ⟨_, _, _, _, _, _, _, _⟩ := r8 TW.out.ra)
              go_ret
              refine ⟨?_, TW.out.bl⟩
              rw [hm.out]
              rfl
            · have dr : ¬ (most < pages) := by omega
              have gr : decide (most < pages) = false := decide_eq_false dr
              by_cases p5 : 65536 < most
              · have ds : (65536 < most) := by omega
                have gs : decide (65536 < most) = true := decide_eq_true ds
                have hm : Hid (meOk pages most = false) := by show meOk pages most = false; unfold meOk wi; rw [if_neg p3]; simp; omega
                go_enter Tryz.func22, Tryz.ntmps22
                go_wp2_with (go_at_call 73; refine hP.out.mono ?_; rintro e w1 ⟨rfl, q1⟩; have TW : Hid (TI w w1 (.slice a0 sigs.length c0) (.slice a1 imps.length c1) (.slice a2 fns.length c2) (.int .i64 pages) (.int .i64 most) (.slice a3 gls.length c3) (.slice a4 exs.length c4) (.slice a5 dat.length c5)) := T0.out.call q1; obtain ⟨_, _, _, _, _, _, _, _⟩ := r8 TW.out.ra)
                go_ret
                refine ⟨?_, TW.out.bl⟩
                rw [hm.out]
                rfl
              · have ds : ¬ (65536 < most) := by omega
                have gs : decide (65536 < most) = false := decide_eq_false ds
                have hm : Hid (meOk pages most = true) := by show meOk pages most = true; unfold meOk wi; rw [if_neg p3]; simp; omega
                clear p0 p1 p2 p3 p4 p5
                by_cases y0 : gls.length ≤ 30
                · have dl0 : ¬ (30 < (gls.length : Int)) := by omega
                  have gl0 : decide (30 < (gls.length : Int)) = false := decide_eq_false dl0
                  by_cases y1 : exs.length ≤ 60
                  · have dl1 : ¬ (60 < (exs.length : Int)) := by omega
                    have gl1 : decide (60 < (exs.length : Int)) = false := decide_eq_false dl1
                    by_cases y2 : dat.length ≤ 20
                    · have dl2 : ¬ (20 < (dat.length : Int)) := by omega
                      have gl2 : decide (20 < (dat.length : Int)) = false := decide_eq_false dl2
                      have hn : Hid (decide (gls.length ≤ 30 ∧ exs.length ≤ 60 ∧ dat.length ≤ 20) = true) := decide_eq_true ⟨y0, y1, y2⟩
                      clear y0 y1 y2
                      go_enter Tryz.func22, Tryz.ntmps22
                      go_wp2_with (go_at_call 73; refine hP.out.mono ?_; rintro e w1 ⟨rfl, q1⟩; have TW : Hid (TI w w1 (.slice a0 sigs.length c0) (.slice a1 imps.length c1) (.slice a2 fns.length c2) (.int .i64 pages) (.int .i64 most) (.slice a3 gls.length c3) (.slice a4 exs.length c4) (.slice a5 dat.length c5)) := T0.out.call q1; obtain ⟨_, _, _, _, _, _, _, _⟩ := r8 TW.out.ra)
                      clear dl0 gl0 dl1 gl1 dl2 gl2 hP
                      go_loopw [68] (fun vk wr => ∃ (k f : Nat), k + f = gls.length ∧ vk = .int .i64 k ∧ allP (fun k => glOk (MemGlobal.f1At gls k)) f k = A ∧ TI w wr (.slice a0 sigs.length c0) (.slice a1 imps.length c1) (.slice a2 fns.length c2) (.int .i64 pages) (.int .i64 most) (.slice a3 gls.length c3) (.slice a4 exs.length c4) (.slice a5 dat.length c5)) (fun vk _ => gls.length - (intOf vk).toNat)
                      case atStart => exact ⟨0, gls.length, by omega, rfl, hA.out, TW.out⟩
                      case round =>
                        obtain ⟨k, f, hk, rfl, hall, hT⟩ := hrel
                        have hall' : Hid (allP (fun k => glOk (MemGlobal.f1At gls k)) f k = A) := hall
                        have TT3 : Hid (TI w wr (.slice a0 sigs.length c0) (.slice a1 imps.length c1) (.slice a2 fns.length c2) (.int .i64 pages) (.int .i64 most) (.slice a3 gls.length c3) (.slice a4 exs.length c4) (.slice a5 dat.length c5)) := hT
                        clear hall hA
                        by_cases hlt : k < gls.length
                        · have hlt' : (k : Int) < (gls.length : Int) := by omega
                          obtain ⟨f, rfl⟩ : ∃ j, f = j + 1 := ⟨f - 1, by omega⟩
                          rcases h3.out.later hT.bl with h0 | ⟨b, off, ha, hc⟩
                          · omega
                          · obtain ⟨e0, e1⟩ := hc k hlt
                            have Ta : Hid (TI w (wr.alloc (.cells #[.bool (MemGlobal.f0At gls k), .int .i64 (MemGlobal.f1At gls k)] 97)) (.slice a0 sigs.length c0) (.slice a1 imps.length c1) (.slice a2 fns.length c2) (.int .i64 pages) (.int .i64 most) (.slice a3 gls.length c3) (.slice a4 exs.length c4) (.slice a5 dat.length c5)) := hT.call ((Below.refl _ _).alloc (Nat.le_refl _) _)
                            have hno : Hid ((decide (-2147483648 ≤ MemGlobal.f1At gls k ∧ MemGlobal.f1At gls k ≤ 2147483647)) = false → allP (fun k => glOk (MemGlobal.f1At gls k)) (f + 1) k = false) := fun h => allP_no h
                            have hyes : Hid ((decide (-2147483648 ≤ MemGlobal.f1At gls k ∧ MemGlobal.f1At gls k ≤ 2147483647)) = true → allP (fun k => glOk (MemGlobal.f1At gls k)) (f + 1) k = allP (fun k => glOk (MemGlobal.f1At gls k)) f (k + 1)) := fun h => allP_yes h
                            subst ha
                            clear hc hT
                            generalize MemGlobal.f0At gls k = x0 at *
                            generalize MemGlobal.f1At gls k = x1 at *
                            obtain ⟨_, _, _, _, _, _, _, _⟩ := r8 Ta.out.ra
                            by_cases d0 : ¬ (-2147483648 ≤ x1 ∧ x1 ≤ 2147483647)
                            · have g0 : (wrap32 x1 == x1) = false := by rw [wrap_same]; exact decide_eq_false d0
                              have f0 : (wrap32 x1 != x1) = true := by rw [bne, g0]; rfl
                              go_wp2_with fail
                              go_quiet (first | (go_at_call 74; refine Calls.quiet_of_same ((spec_wrap _ _).mono fun _ _ ⟨h1, h2⟩ => ⟨h1, h2.symm⟩)))
                              go_wp2_with fail
                              go_ret
                              refine ⟨?_, below_drewN Ta.out.bl _⟩
                              rw [← hall'.out, hno.out (by first | (simp; omega) | simp), hm.out, hn.out]
                              rfl
                            · have g0 : wrap32 x1 = x1 := wrap32_in (by omega) (by omega)
                              go_wp2_with fail
                              go_quiet (first | (go_at_call 74; refine Calls.quiet_of_same ((spec_wrap _ _).mono fun _ _ ⟨h1, h2⟩ => ⟨h1, h2.symm⟩)))
                              go_wp2_with fail
                              go_roundw
                              case rel => exact ⟨k + 1, f, by omega, by go_num, by rw [← hyes.out (by first | (simp; omega) | simp)]; exact hall'.out, Ta.out.call (below_drewN (Below.refl _ _) _)⟩
                              case measure => simp [intOf]; omega
                        · obtain rfl : k = gls.length := by omega
                          obtain rfl : f = 0 := by omega
                          obtain rfl : A = true := hall'.out.symm
                          obtain ⟨_, _, _, _, _, _, _, _⟩ := r8 TT3.out.ra
                          clear hall' hT hk hlt
                          go_wp2_with fail
                          go_loopw [82] (fun vk wr => ∃ (k f : Nat), k + f = exs.length ∧ vk = .int .i64 k ∧ allP (fun k => exOk (MemExport.f0At exs k) (MemExport.f1At exs k) (MemExport.f2At exs k)) f k = B ∧ TI w wr (.slice a0 sigs.length c0) (.slice a1 imps.length c1) (.slice a2 fns.length c2) (.int .i64 pages) (.int .i64 most) (.slice a3 gls.length c3) (.slice a4 exs.length c4) (.slice a5 dat.length c5)) (fun vk _ => exs.length - (intOf vk).toNat)
                          case atStart => exact ⟨0, exs.length, by omega, rfl, hB.out, TT3.out⟩
                          case round =>
                            obtain ⟨k, f, hk, rfl, hall, hT⟩ := hrel
                            have hall' : Hid (allP (fun k => exOk (MemExport.f0At exs k) (MemExport.f1At exs k) (MemExport.f2At exs k)) f k = B) := hall
                            have TT4 : Hid (TI w wr (.slice a0 sigs.length c0) (.slice a1 imps.length c1) (.slice a2 fns.length c2) (.int .i64 pages) (.int .i64 most) (.slice a3 gls.length c3) (.slice a4 exs.length c4) (.slice a5 dat.length c5)) := hT
                            clear hall hB
                            by_cases hlt : k < exs.length
                            · have hlt' : (k : Int) < (exs.length : Int) := by omega
                              obtain ⟨f, rfl⟩ : ∃ j, f = j + 1 := ⟨f - 1, by omega⟩
                              rcases h4.out.later hT.bl with h0 | ⟨b, off, ha, hc⟩
                              · omega
                              · obtain ⟨e0, e1, e2⟩ := hc k hlt
                                have m1 : Hid (∀ u, Calls Tryz.prog 75 #[.string (MemExport.f0At exs k)] u fun e w' => e = .returned (.bool (nmOk (MemExport.f0At exs k))) ∧ u = w') := fun u => spec_name _ u (z4.out k hlt)
                                have Ta : Hid (TI w (wr.alloc (.cells #[.string (MemExport.f0At exs k), .int .i64 (MemExport.f1At exs k), .int .i64 (MemExport.f2At exs k)] 101)) (.slice a0 sigs.length c0) (.slice a1 imps.length c1) (.slice a2 fns.length c2) (.int .i64 pages) (.int .i64 most) (.slice a3 gls.length c3) (.slice a4 exs.length c4) (.slice a5 dat.length c5)) := hT.call ((Below.refl _ _).alloc (Nat.le_refl _) _)
                                have hno : Hid ((decide (MemExport.f1At exs k = 0 ∨ MemExport.f1At exs k = 2 ∨ MemExport.f1At exs k = 3) && (nmOk (MemExport.f0At exs k) && decide (0 ≤ MemExport.f2At exs k ∧ MemExport.f2At exs k ≤ 1000))) = false → allP (fun k => exOk (MemExport.f0At exs k) (MemExport.f1At exs k) (MemExport.f2At exs k)) (f + 1) k = false) := fun h => allP_no h
                                have hyes : Hid ((decide (MemExport.f1At exs k = 0 ∨ MemExport.f1At exs k = 2 ∨ MemExport.f1At exs k = 3) && (nmOk (MemExport.f0At exs k) && decide (0 ≤ MemExport.f2At exs k ∧ MemExport.f2At exs k ≤ 1000))) = true → allP (fun k => exOk (MemExport.f0At exs k) (MemExport.f1At exs k) (MemExport.f2At exs k)) (f + 1) k = allP (fun k => exOk (MemExport.f0At exs k) (MemExport.f1At exs k) (MemExport.f2At exs k)) f (k + 1)) := fun h => allP_yes h
                                subst ha
                                clear hc hT
                                generalize nmOk (MemExport.f0At exs k) = B0 at *
                                generalize MemExport.f0At exs k = x0 at *
                                generalize MemExport.f1At exs k = x1 at *
                                generalize MemExport.f2At exs k = x2 at *
                                obtain ⟨_, _, _, _, _, _, _, _⟩ := r8 Ta.out.ra
                                cases B0 with
                                | false =>
                                  go_wp2_with (go_at_call 75; refine (m1.out _).mono ?_; rintro e w1 ⟨rfl, rfl⟩)
                                  go_ret
                                  refine ⟨?_, Ta.out.bl⟩
                                  rw [← hall'.out, hno.out (by first | (simp; omega) | simp), hm.out, hn.out]
                                  rfl
                                | true =>
                                  by_cases d1 : ¬ (x1 = 0 ∨ x1 = 2 ∨ x1 = 3)
                                  · have k0 : (x1 == 0) = false := beq_eq_false_iff_ne.2 (fun h => d1 (.inl h))
                                    have k2 : (x1 == 2) = false := beq_eq_false_iff_ne.2 (fun h => d1 (.inr (.inl h)))
                                    have k3 : (x1 == 3) = false := beq_eq_false_iff_ne.2 (fun h => d1 (.inr (.inr h)))
                                    have q0 : (x1 != 0) = true := bne_iff_ne.2 (fun h => d1 (.inl h))
                                    have q2 : (x1 != 2) = true := bne_iff_ne.2 (fun h => d1 (.inr (.inl h)))
                                    have q3 : (x1 != 3) = true := bne_iff_ne.2 (fun h => d1 (.inr (.inr h)))
                                    go_wp2_with (go_at_call 75; refine (m1.out _).mono ?_; rintro e w1 ⟨rfl, rfl⟩)
                                    go_ret
                                    refine ⟨?_, Ta.out.bl⟩
                                    rw [← hall'.out, hno.out (by first | (simp; omega) | simp), hm.out, hn.out]
                                    rfl
                                  · have d1' := Decidable.not_not.1 d1
                                    clear d1
                                    rcases d1' with rfl | rfl | rfl
                                    · skip
                                      by_cases d2 : x2 < 0
                                      · have g2 : decide (x2 < 0) = true := decide_eq_true d2
                                        go_wp2_with (go_at_call 75; refine (m1.out _).mono ?_; rintro e w1 ⟨rfl, rfl⟩)
                                        go_ret
                                        refine ⟨?_, Ta.out.bl⟩
                                        rw [← hall'.out, hno.out (by first | (simp; omega) | simp), hm.out, hn.out]
                                        rfl
                                      · have g2 : decide (x2 < 0) = false := decide_eq_false d2
                                        by_cases d3 : 1000 < x2
                                        · have g3 : decide (1000 < x2) = true := decide_eq_true d3
                                          go_wp2_with (go_at_call 75; refine (m1.out _).mono ?_; rintro e w1 ⟨rfl, rfl⟩)
                                          go_ret
                                          refine ⟨?_, Ta.out.bl⟩
                                          rw [← hall'.out, hno.out (by first | (simp; omega) | simp), hm.out, hn.out]
                                          rfl
                                        · have g3 : decide (1000 < x2) = false := decide_eq_false d3
                                          go_wp2_with (go_at_call 75; refine (m1.out _).mono ?_; rintro e w1 ⟨rfl, rfl⟩)
                                          go_roundw
                                          case rel => exact ⟨k + 1, f, by omega, by go_num, by rw [← hyes.out (by first | (simp; omega) | simp)]; exact hall'.out, Ta.out⟩
                                          case measure => simp [intOf]; omega
                                    · skip
                                      by_cases d2 : x2 < 0
                                      · have g2 : decide (x2 < 0) = true := decide_eq_true d2
                                        go_wp2_with (go_at_call 75; refine (m1.out _).mono ?_; rintro e w1 ⟨rfl, rfl⟩)
                                        go_ret
                                        refine ⟨?_, Ta.out.bl⟩
                                        rw [← hall'.out, hno.out (by first | (simp; omega) | simp), hm.out, hn.out]
                                        rfl
                                      · have g2 : decide (x2 < 0) = false := decide_eq_false d2
                                        by_cases d3 : 1000 < x2
                                        · have g3 : decide (1000 < x2) = true := decide_eq_true d3
                                          go_wp2_with (go_at_call 75; refine (m1.out _).mono ?_; rintro e w1 ⟨rfl, rfl⟩)
                                          go_ret
                                          refine ⟨?_, Ta.out.bl⟩
                                          rw [← hall'.out, hno.out (by first | (simp; omega) | simp), hm.out, hn.out]
                                          rfl
                                        · have g3 : decide (1000 < x2) = false := decide_eq_false d3
                                          go_wp2_with (go_at_call 75; refine (m1.out _).mono ?_; rintro e w1 ⟨rfl, rfl⟩)
                                          go_roundw
                                          case rel => exact ⟨k + 1, f, by omega, by go_num, by rw [← hyes.out (by first | (simp; omega) | simp)]; exact hall'.out, Ta.out⟩
                                          case measure => simp [intOf]; omega
                                    · skip
                                      by_cases d2 : x2 < 0
                                      · have g2 : decide (x2 < 0) = true := decide_eq_true d2
                                        go_wp2_with (go_at_call 75; refine (m1.out _).mono ?_; rintro e w1 ⟨rfl, rfl⟩)
                                        go_ret
                                        refine ⟨?_, Ta.out.bl⟩
                                        rw [← hall'.out, hno.out (by first | (simp; omega) | simp), hm.out, hn.out]
                                        rfl
                                      · have g2 : decide (x2 < 0) = false := decide_eq_false d2
                                        by_cases d3 : 1000 < x2
                                        · have g3 : decide (1000 < x2) = true := decide_eq_true d3
                                          go_wp2_with (go_at_call 75; refine (m1.out _).mono ?_; rintro e w1 ⟨rfl, rfl⟩)
                                          go_ret
                                          refine ⟨?_, Ta.out.bl⟩
                                          rw [← hall'.out, hno.out (by first | (simp; omega) | simp), hm.out, hn.out]
                                          rfl
                                        · have g3 : decide (1000 < x2) = false := decide_eq_false d3
                                          go_wp2_with (go_at_call 75; refine (m1.out _).mono ?_; rintro e w1 ⟨rfl, rfl⟩)
                                          go_roundw
                                          case rel => exact ⟨k + 1, f, by omega, by go_num, by rw [← hyes.out (by first | (simp; omega) | simp)]; exact hall'.out, Ta.out⟩
                                          case measure => simp [intOf]; omega
                            · obtain rfl : k = exs.length := by omega
                              obtain rfl : f = 0 := by omega
                              obtain rfl : B = true := hall'.out.symm
                              obtain ⟨_, _, _, _, _, _, _, _⟩ := r8 TT4.out.ra
                              clear hall' hT hk hlt
                              go_wp2_with fail
                              go_loopw [119] (fun vk wr => ∃ (k f : Nat), k + f = dat.length ∧ vk = .int .i64 k ∧ allP (fun k => daOk (MemData.at1 dat k).pos (MemData.at1 dat k).n) f k = C ∧ TI w wr (.slice a0 sigs.length c0) (.slice a1 imps.length c1) (.slice a2 fns.length c2) (.int .i64 pages) (.int .i64 most) (.slice a3 gls.length c3) (.slice a4 exs.length c4) (.slice a5 dat.length c5)) (fun vk _ => dat.length - (intOf vk).toNat)
                              case atStart => exact ⟨0, dat.length, by omega, rfl, hC.out, TT4.out⟩
                              case round =>
                                obtain ⟨k, f, hk, rfl, hall, hT⟩ := hrel
                                have hall' : Hid (allP (fun k => daOk (MemData.at1 dat k).pos (MemData.at1 dat k).n) f k = C) := hall
                                have TT5 : Hid (TI w wr (.slice a0 sigs.length c0) (.slice a1 imps.length c1) (.slice a2 fns.length c2) (.int .i64 pages) (.int .i64 most) (.slice a3 gls.length c3) (.slice a4 exs.length c4) (.slice a5 dat.length c5)) := hT
                                clear hall hC
                                by_cases hlt : k < dat.length
                                · have hlt' : (k : Int) < (dat.length : Int) := by omega
                                  obtain ⟨f, rfl⟩ : ∃ j, f = j + 1 := ⟨f - 1, by omega⟩
                                  rcases h5.out.later hT.bl with h0 | ⟨b, off, ha, hc⟩
                                  · omega
                                  · obtain ⟨e0, e1, eb⟩ := hc k hlt
                                    have zk : (MemData.at1 dat k).n ≤ 1048576 := z5.out k hlt
                                    clear eb
                                    have Ta : Hid (TI w (wr.alloc (.cells #[.int .i64 (MemData.at1 dat k).pos, .slice (MemData.at1 dat k).ad (MemData.at1 dat k).n (MemData.at1 dat k).cp] 105)) (.slice a0 sigs.length c0) (.slice a1 imps.length c1) (.slice a2 fns.length c2) (.int .i64 pages) (.int .i64 most) (.slice a3 gls.length c3) (.slice a4 exs.length c4) (.slice a5 dat.length c5)) := hT.call ((Below.refl _ _).alloc (Nat.le_refl _) _)
                                    have hno : Hid ((decide (-2147483648 ≤ (MemData.at1 dat k).pos ∧ (MemData.at1 dat k).pos ≤ 2147483647) && decide ((MemData.at1 dat k).n ≤ 2000)) = false → allP (fun k => daOk (MemData.at1 dat k).pos (MemData.at1 dat k).n) (f + 1) k = false) := fun h => allP_no h
                                    have hyes : Hid ((decide (-2147483648 ≤ (MemData.at1 dat k).pos ∧ (MemData.at1 dat k).pos ≤ 2147483647) && decide ((MemData.at1 dat k).n ≤ 2000)) = true → allP (fun k => daOk (MemData.at1 dat k).pos (MemData.at1 dat k).n) (f + 1) k = allP (fun k => daOk (MemData.at1 dat k).pos (MemData.at1 dat k).n) f (k + 1)) := fun h => allP_yes h
                                    subst ha
                                    clear hc hT
                                    generalize (MemData.at1 dat k).n = x1 at *
                                    generalize (MemData.at1 dat k).pos = x0 at *
                                    generalize (MemData.at1 dat k).ad = x2 at *
                                    generalize (MemData.at1 dat k).cp = x3 at *
                                    obtain ⟨_, _, _, _, _, _, _, _⟩ := r8 Ta.out.ra
                                    by_cases d0 : ¬ (-2147483648 ≤ x0 ∧ x0 ≤ 2147483647)
                                    · have g0 : (wrap32 x0 == x0) = false := by rw [wrap_same]; exact decide_eq_false d0
                                      have f0 : (wrap32 x0 != x0) = true := by rw [bne, g0]; rfl
                                      go_wp2_with fail
                                      go_quiet (first | (go_at_call 74; refine Calls.quiet_of_same ((spec_wrap _ _).mono fun _ _ ⟨h1, h2⟩ => ⟨h1, h2.symm⟩)))
                                      go_wp2_with fail
                                      go_ret
                                      refine ⟨?_, below_drewN Ta.out.bl _⟩
                                      rw [← hall'.out, hno.out (by first | (simp; omega) | simp), hm.out, hn.out]
                                      rfl
                                    · have g0 : wrap32 x0 = x0 := wrap32_in (by omega) (by omega)
                                      by_cases d1 : 2000 < (x1 : Int)
                                      · have g1 : decide (2000 < (x1 : Int)) = true := decide_eq_true d1
                                        go_wp2_with fail
                                        go_quiet (first | (go_at_call 74; refine Calls.quiet_of_same ((spec_wrap _ _).mono fun _ _ ⟨h1, h2⟩ => ⟨h1, h2.symm⟩)))
                                        go_wp2_with fail
                                        go_ret
                                        refine ⟨?_, below_drewN Ta.out.bl _⟩
                                        rw [← hall'.out, hno.out (by first | (simp; omega) | simp), hm.out, hn.out]
                                        rfl
                                      · have g1 : decide (2000 < (x1 : Int)) = false := decide_eq_false d1
                                        go_wp2_with fail
                                        go_quiet (first | (go_at_call 74; refine Calls.quiet_of_same ((spec_wrap _ _).mono fun _ _ ⟨h1, h2⟩ => ⟨h1, h2.symm⟩)))
                                        go_wp2_with fail
                                        go_roundw
                                        case rel => exact ⟨k + 1, f, by omega, by go_num, by rw [← hyes.out (by first | (simp; omega) | simp)]; exact hall'.out, Ta.out.call (below_drewN (Below.refl _ _) _)⟩
                                        case measure => simp [intOf]; omega
                                · obtain rfl : k = dat.length := by omega
                                  obtain rfl : f = 0 := by omega
                                  obtain rfl : C = true := hall'.out.symm
                                  obtain ⟨_, _, _, _, _, _, _, _⟩ := r8 TT5.out.ra
                                  clear hall' hT hk hlt
                                  go_wp2_with fail
                                  go_ret
                                  exact ⟨by rw [hm.out, hn.out]; rfl, TT5.out.bl⟩
                    · have dl2 : (20 < (dat.length : Int)) := by omega
                      have gl2 : decide (20 < (dat.length : Int)) = true := decide_eq_true dl2
                      have hn : Hid (decide (gls.length ≤ 30 ∧ exs.length ≤ 60 ∧ dat.length ≤ 20) = false) := decide_eq_false (fun h => y2 (by omega))
                      clear y0 y1 y2
                      go_enter Tryz.func22, Tryz.ntmps22
                      go_wp2_with (go_at_call 73; refine hP.out.mono ?_; rintro e w1 ⟨rfl, q1⟩; have TW : Hid (TI w w1 (.slice a0 sigs.length c0) (.slice a1 imps.length c1) (.slice a2 fns.length c2) (.int .i64 pages) (.int .i64 most) (.slice a3 gls.length c3) (.slice a4 exs.length c4) (.slice a5 dat.length c5)) := T0.out.call q1; obtain ⟨_, _, _, _, _, _, _, _⟩ := r8 TW.out.ra)
                      go_ret
                      refine ⟨?_, TW.out.bl⟩
                      rw [hm.out, hn.out]
                      rfl
                  · have dl1 : (60 < (exs.length : Int)) := by omega
                    have gl1 : decide (60 < (exs.length : Int)) = true := decide_eq_true dl1
                    have hn : Hid (decide (gls.length ≤ 30 ∧ exs.length ≤ 60 ∧ dat.length ≤ 20) = false) := decide_eq_false (fun h => y1 (by omega))
                    clear y0 y1
                    go_enter Tryz.func22, Tryz.ntmps22
                    go_wp2_with (go_at_call 73; refine hP.out.mono ?_; rintro e w1 ⟨rfl, q1⟩; have TW : Hid (TI w w1 (.slice a0 sigs.length c0) (.slice a1 imps.length c1) (.slice a2 fns.length c2) (.int .i64 pages) (.int .i64 most) (.slice a3 gls.length c3) (.slice a4 exs.length c4) (.slice a5 dat.length c5)) := T0.out.call q1; obtain ⟨_, _, _, _, _, _, _, _⟩ := r8 TW.out.ra)
                    go_ret
                    refine ⟨?_, TW.out.bl⟩
                    rw [hm.out, hn.out]
                    rfl
                · have dl0 : (30 < (gls.length : Int)) := by omega
                  have gl0 : decide (30 < (gls.length : Int)) = true := decide_eq_true dl0
                  have hn : Hid (decide (gls.length ≤ 30 ∧ exs.length ≤ 60 ∧ dat.length ≤ 20) = false) := decide_eq_false (fun h => y0 (by omega))
                  clear y0
                  go_enter Tryz.func22, Tryz.ntmps22
                  go_wp2_with (go_at_call 73; refine hP.out.mono ?_; rintro e w1 ⟨rfl, q1⟩; have TW : Hid (TI w w1 (.slice a0 sigs.length c0) (.slice a1 imps.length c1) (.slice a2 fns.length c2) (.int .i64 pages) (.int .i64 most) (.slice a3 gls.length c3) (.slice a4 exs.length c4) (.slice a5 dat.length c5)) := T0.out.call q1; obtain ⟨_, _, _, _, _, _, _, _⟩ := r8 TW.out.ra)
                  go_ret
                  refine ⟨?_, TW.out.bl⟩
                  rw [hm.out, hn.out]
                  rfl
end Go.Proofs.YtffngjgjhialnaaGreatDoor.FormSpec
