/-
  The walk of the law of Lex: tokens that are written with blanks between are read again.
-/
import Derived.Test.YtjndgjheehjohaaDoorLexTrip
import Derived.Test.YtjndgjheehjohaaDoorLexDraw
namespace Go.Proofs.YtjndgjheehjohaaDoor.LexRound
open Go.RowKit InsMem PlainOps PlainLex PlainScan NameCalls WordCalls SignCalls TokCalls TokText LexImpl OwnTok LexFace LexLaw LexTrip LexDraw Draws

theorem lexL_bad : ∀ (f : Nat) (l : List UInt8) (a c b : Nat), lexL f l a = .bad c b → c ≠ 0
  | 0, l, a, c, b, h => by simp [lexL] at h
  | f + 1, l, a, c, b, h => by
    unfold lexL at h
    by_cases h0 : l = []
    · rw [if_pos h0] at h; cases h
    · rw [if_neg h0] at h
      cases hg : gap l with
      | none => rw [hg] at h; simp only [Ans.bad.injEq] at h; omega
      | some g =>
        rw [hg] at h
        simp only at h
        by_cases hg0 : g ≠ 0
        · rw [if_pos hg0] at h
          exact lexL_bad f _ _ _ _ h
        · rw [if_neg hg0] at h
          by_cases hc : (one l).code ≠ 0
          · rw [if_pos hc] at h
            simp only [Ans.bad.injEq] at h
            omega
          · rw [if_neg hc] at h
            cases hr : lexL f (l.drop (one l).size) (a + (one l).size) with
            | ok x => rw [hr] at h; cases h
            | bad c' b' =>
              rw [hr] at h
              simp only [Ans.cons, Ans.bad.injEq] at h
              have := lexL_bad f _ _ _ _ hr
              omega
theorem lexT_bad {l : List UInt8} {c b : Nat} (h : lexT l = .bad c b) : c ≠ 0 := by
  unfold lexT at h
  split at h
  · exact lexL_bad _ _ _ _ _ h
  · simp only [Ans.bad.injEq] at h; omega
theorem le_sum : ∀ {l : List Nat} {x : Nat}, x ∈ l → x ≤ l.sum
  | [], _, h => by simp at h
  | a :: l, x, h => by
    rw [List.sum_cons]
    rcases List.mem_cons.1 h with rfl | h
    · omega
    · have := le_sum h; omega
theorem toE_small {toks : List T4} {N : Nat} (h : (toks.map fun t => t.2.2.1.length).sum ≤ N) (j : Nat) (hj : j < toks.length) : (MemTok.f2At (toks.map toE) j).size ≤ N := by
  obtain ⟨_, _, e2, _⟩ := toE_at toks j hj
  rw [e2, TokList.tx_size, show toks.getD j (0, 0, [], 0) = toks[j] by rw [List.getD, List.getElem?_eq_getElem hj]; rfl]
  have : (toks[j]).2.2.1.length ∈ toks.map fun t => t.2.2.1.length := List.mem_map.2 ⟨toks[j], List.getElem_mem hj, rfl⟩
  exact Nat.le_trans (le_sum this) h
set_option maxRecDepth 20000 in
set_option maxHeartbeats 8000000 in
theorem fnLex (a : Option Addr) (len cap : Nat) (w : World) (h : Src w.heap.size w a len) (hw : WTab w) (hst : STab w) (hp : Pow w) (hx : MaxL w) :
    Calls Tryd.prog 7 #[.slice a len cap] w fun e w' => e = .returned (.bool true) ∧ Below w.heap.size w w' := by
  have hlen := h.1
  by_cases hbig : len ≤ 1048576
  · have hb0 : ¬ (1048576 : Int) < (len : Int) := by omega
    have kD : Hid (Calls Tryd.prog 23 #[.slice a len cap] w fun e w' => ∃ s, e = .returned (.string s) ∧ s.size ≤ 7000 ∧ Below w.heap.size w w') := drawLex h (Below.refl _ _)
    have kS : Hid (∀ (s : ByteArray) u, s.size ≤ 1048576 → Calls Tryd.prog 19 #[.string s] u fun e w' => ∃ a c, e = .returned (.tuple #[.slice a (outL (lexT s.data.toList)).length c, .int .i64 (outC (lexT s.data.toList) : Nat), .int .i64 (outA (lexT s.data.toList) : Nat)]) ∧ OT u.heap.size w' a (outL (lexT s.data.toList)) ∧ Below u.heap.size u w') := fun s u hs => (SpecLexC.spec_lex s _ rfl u hs).mono fun e w' ⟨v, he, ho, hb⟩ => by
      obtain ⟨a, c, rfl, hot⟩ := own_ot ho
      exact ⟨a, c, he, hot, hb⟩
    have kI : Hid (∀ (s : ByteArray) u, s.size ≤ 1048576 → Below w.heap.size w u → Calls Tryd.prog 20 #[.string s] u fun e w' => ∃ a c, e = .returned (.tuple #[.slice a (outL (lexT s.data.toList)).length c, .int .i64 (outC (lexT s.data.toList) : Nat), .int .i64 (outA (lexT s.data.toList) : Nat)]) ∧ OT u.heap.size w' a (outL (lexT s.data.toList)) ∧ Below u.heap.size u w') := fun s u hs hu => (impl_lex s _ rfl u hs (hx.later hu) (hw.later hu) (hst.later hu)).mono fun e w' ⟨v, he, ho, hb⟩ => by
      obtain ⟨a, c, rfl, hot⟩ := own_ot ho
      exact ⟨a, c, he, hot, hb⟩
    have kU : Hid (∀ u (a : Option Addr) (c : Nat) (toks : List T4), MemTok.Rd u a (toks.map toE) → TokList.Small (toks.map toE) → Below w.heap.size w u → Calls Tryd.prog 17 #[.slice a toks.length c] u fun e w' => e = .returned (.string (tx (TokList.unT (toks.map toE) toks.length))) ∧ Below u.heap.size u w') := fun u a c toks hr hs hu => by
      have := TokList.impl_unlex u a c (toks.map toE) hr hs (hw.later hu) (hst.later hu) (pow_later hp hu)
      rw [List.length_map] at this
      exact this
    have kT : Hid (∀ u (k n : Int) (s : ByteArray) (a : Int), s.size ≤ 1048576 → Below w.heap.size w u → Calls Tryd.prog 13 #[tokV k n s a] u fun e w' => e = .returned (.string (tx (tokT k n s.data.toList))) ∧ Below u.heap.size u w') := fun u k n s a hs hu => impl_tokText k n s _ a u rfl hs (hw.later hu) (hst.later hu) (pow_later hp hu)
    clear h hw hst hp hx
    go_enter Tryd.func7, Tryd.ntmps7
    go_wp2_with (go_at_call 23; refine kD.out.mono ?_; rintro e w1 ⟨s, rfl, hs, q1⟩; have b1 : Hid (Below w.heap.size w w1) := q1; clear q1 kD)
    have kI1 := kI.out s w1 (by omega) b1.out
    have kS1 : Hid (∀ u, Calls Tryd.prog 19 #[.string s] u _) := fun u => kS.out s u (by omega)
    obtain ⟨hgood, hsum⟩ := lexT_good s.data.toList
    have hn6 := lexT_len s.data.toList
    have hsz : s.data.toList.length = s.size := rfl
    rw [hsz] at hsum
    cases hA : lexT s.data.toList with
    | bad c b =>
      rw [hA] at kI1 kS1
      have hc := lexT_bad hA
      have hc1 : ¬ (c : Int) = 0 := by omega
      have hc2 : ((c : Int) == 0) = false := beq_false_of_ne hc1
      have kI2 : Hid (Calls Tryd.prog 20 #[.string s] w1 fun e w' => ∃ a c', e = .returned (.tuple #[.slice a 0 c', .int .i64 (c : Nat), .int .i64 (b : Nat)]) ∧ Below w1.heap.size w1 w') := kI1.mono fun e w' ⟨a, c', he, _, hb⟩ => ⟨a, c', he, hb⟩
      have kS2 : Hid (∀ u, Calls Tryd.prog 19 #[.string s] u fun e w' => ∃ a c', e = .returned (.tuple #[.slice a 0 c', .int .i64 (c : Nat), .int .i64 (b : Nat)]) ∧ Below u.heap.size u w') := fun u => (kS1.out u).mono fun e w' ⟨a, c', he, _, hb⟩ => ⟨a, c', he, hb⟩
      clear kI1 kS1 kI kS kU kT hA hgood hsum hn6 hsz hc
      go_wp2_with (first
        | (go_at_call 20; refine kI2.out.mono ?_; rintro e w2 ⟨a2, c2, rfl, q2⟩; have b2 : Hid (Below w.heap.size w w2) := b1.out.trans (q2.mono b1.out.size); clear q2)
        | (go_at_call 19; refine (kS2.out _).mono ?_; rintro e w3 ⟨a3, c3, rfl, q3⟩; have b3 : Hid (Below w.heap.size w w3) := b2.out.trans (q3.mono b2.out.size); clear q3))
      go_ret
      exact ⟨rfl, b3.out⟩
    | ok toks =>
      rw [hA] at kI1 kS1 hgood hsum hn6
      simp only [outL] at hgood hsum hn6
      have hgood' : Hid (∀ t ∈ toks, LexTrip.Good t.1 t.2.1 t.2.2.1 ∧ t.2.2.2 < s.data.toList.length) := hgood
      have hsm : Hid (TokList.Small (toks.map toE)) := small_of hn6 (by omega)
      have hU : (TokList.unT (toks.map toE) toks.length).length ≤ 139000 := by
        have h1 := TokList.unT_len (toks.map toE) toks.length
        have h2 := letters_sum toks toks.length (Nat.le_refl _)
        rw [List.take_length] at h2
        omega
      have hsz2 : Hid (∀ j, j < toks.length → (MemTok.f2At (toks.map toE) j).size ≤ 7000) := fun j hj => Nat.le_trans (toE_small hsum j hj) hs
      have hat : Hid (∀ j, j < toks.length → MemTok.f3At (toks.map toE) j < (s.size : Int)) := fun j hj => by
        obtain ⟨_, _, _, e3⟩ := toE_at toks j hj
        rw [e3, show toks.getD j (0, 0, [], 0) = toks[j] by rw [List.getD, List.getElem?_eq_getElem hj]; rfl]
        exact (hgood'.out _ (List.getElem_mem hj)).2
      have kI2 : Hid (Calls Tryd.prog 20 #[.string s] w1 fun e w' => ∃ a c', e = .returned (.tuple #[.slice a toks.length c', .int .i64 0, .int .i64 0]) ∧ OT w1.heap.size w' a toks ∧ Below w1.heap.size w1 w') := kI1
      have kS2 : Hid (∀ u, Calls Tryd.prog 19 #[.string s] u fun e w' => ∃ a c', e = .returned (.tuple #[.slice a toks.length c', .int .i64 0, .int .i64 0]) ∧ Below u.heap.size u w') := fun u => (kS1.out u).mono fun e w' ⟨a, c', he, _, hb⟩ => ⟨a, c', he, hb⟩
      have hUs : (tx (TokList.unT (toks.map toE) toks.length)).size = (TokList.unT (toks.map toE) toks.length).length := TokList.tx_size _
      have kJ : Hid (∀ u, Below w.heap.size w u → Calls Tryd.prog 20 #[.string (tx (TokList.unT (toks.map toE) toks.length))] u fun e w' => ∃ a c, e = .returned (.tuple #[.slice a (outL (lexT (TokList.unT (toks.map toE) toks.length))).length c, .int .i64 (outC (lexT (TokList.unT (toks.map toE) toks.length)) : Nat), .int .i64 (outA (lexT (TokList.unT (toks.map toE) toks.length)) : Nat)]) ∧ OT u.heap.size w' a (outL (lexT (TokList.unT (toks.map toE) toks.length))) ∧ Below u.heap.size u w') := fun u hu => by
        have := kI.out (tx (TokList.unT (toks.map toE) toks.length)) u (by rw [hUs]; omega) hu
        rw [tx_list] at this
        exact this
      have kU2 : Hid (∀ u (a : Option Addr) (c : Nat), OT w1.heap.size u a toks → Below w.heap.size w u → Calls Tryd.prog 17 #[.slice a toks.length c] u fun e w' => e = .returned (.string (tx (TokList.unT (toks.map toE) toks.length))) ∧ Below u.heap.size u w') := fun u a c ho hu => kU.out u a c toks ho.rd hsm.out hu
      have hback : Hid ((TokList.unT (toks.map toE) toks.length).length ≤ 6000 → ∃ m, lexT (TokList.unT (toks.map toE) toks.length) = .ok m ∧ m.map core = toks.map core) := fun h6 => lex_back toks (fun t ht => (hgood'.out t ht).1) h6
      have hlong : Hid (¬ (TokList.unT (toks.map toE) toks.length).length ≤ 6000 → lexT (TokList.unT (toks.map toE) toks.length) = .bad 1 0) := fun h => if_neg h
      clear kI1 kS1 kI kS kU hA hgood hsum hsz
      generalize hUU : TokList.unT (toks.map toE) toks.length = U at *
      clear hUU
      by_cases h6 : U.length ≤ 6000
      · obtain ⟨m, hm, hcore⟩ := hback.out h6
        obtain ⟨hml, hcat⟩ := core_at hcore
        have hcat' : Hid (∀ j, j < toks.length → MemTok.f0At (m.map toE) j = MemTok.f0At (toks.map toE) j ∧ MemTok.f1At (m.map toE) j = MemTok.f1At (toks.map toE) j ∧ MemTok.f2At (m.map toE) j = MemTok.f2At (toks.map toE) j) := hcat
        have kJ2 : Hid (∀ u, Below w.heap.size w u → Calls Tryd.prog 20 #[.string (tx U)] u fun e w' => ∃ a c, e = .returned (.tuple #[.slice a toks.length c, .int .i64 0, .int .i64 0]) ∧ OT u.heap.size w' a m ∧ Below u.heap.size u w') := fun u hu => by
          have := kJ.out u hu
          rw [hm] at this
          simp only [outL, outC, outA, hml] at this
          exact this
        have hU6 : ¬ (6000 : Int) < ((tx U).size : Int) := by omega
        have hmlen : Hid (m.length = toks.length) := hml
        clear kJ hback hlong hm hcore hcat hml hUs hU
        generalize tx U = TU at *
        go_wp2_with (first
          | (go_at_call 20; refine kI2.out.mono ?_; rintro e w2 ⟨a2, c2, rfl, o2, q2⟩; clear kI2; have O2 : Hid (OT w1.heap.size w2 a2 toks) := o2; have b2 : Hid (Below w.heap.size w w2) := b1.out.trans (q2.mono b1.out.size); clear q2 o2)
          | (go_at_call 19; refine (kS2.out _).mono ?_; rintro e w3 ⟨a3, c3, rfl, q3⟩; clear kS2; have O3 : Hid (OT w1.heap.size w3 a2 toks) := O2.out.below q3; have b3 : Hid (Below w.heap.size w w3) := b2.out.trans (q3.mono b2.out.size); clear q3)
          | (go_at_call 17; refine (kU2.out _ _ _ O3.out b3.out).mono ?_; rintro e w4 ⟨rfl, q4⟩; clear kU2; have O4 : Hid (OT w1.heap.size w4 a2 toks) := O3.out.below q4; have b4 : Hid (Below w.heap.size w w4) := b3.out.trans (q4.mono b3.out.size); clear q4)
          | (go_at_call 20; refine (kJ2.out _ b4.out).mono ?_; rintro e w5 ⟨a5, c5, rfl, o5, q5⟩; clear kJ2; have P5 : Hid (OT w4.heap.size w5 a5 m) := o5; have O5 : Hid (OT w1.heap.size w5 a2 toks) := O4.out.below q5; have b5 : Hid (Below w.heap.size w w5) := b4.out.trans (q5.mono b4.out.size); clear q5 o5))
        have rA : Hid (MemTok.Rd w5 a2 (toks.map toE)) := O5.out.rd
        have rB : Hid (MemTok.Rd w5 a5 (m.map toE)) := P5.out.rd
        go_loopw [76] (fun vi wr => ∃ k : Nat, k ≤ toks.length ∧ vi = .int .i64 k ∧ Below w5.heap.size w5 wr) (fun vi _ => toks.length - (intOf vi).toNat)
        case atStart => exact ⟨0, Nat.zero_le _, rfl, Below.refl _ _⟩
        case round =>
          obtain ⟨k, hk, rfl, hbel⟩ := hrel
          have hbel' : Hid (Below w5.heap.size w5 wr) := hbel
          have hbw : Hid (Below w.heap.size w wr) := b5.out.trans (hbel.mono b5.out.size)
          by_cases hlt : k < toks.length
          · have hlt' : (k : Int) < (toks.length : Int) := by omega
            rcases rA.out.later hbel with z0 | ⟨b, off, ha, hc⟩
            · rw [List.length_map] at z0; omega
            · rcases rB.out.later hbel with z0' | ⟨b', off', ha', hc'⟩
              · rw [List.length_map, hmlen.out] at z0'; omega
              · obtain ⟨p0, p1, p2, p3⟩ := hc k (by rw [List.length_map]; exact hlt)
                obtain ⟨d0, d1, d2, d3⟩ := hc' k (by rw [List.length_map, hmlen.out]; exact hlt)
                obtain ⟨e0, e1, e2⟩ := hcat'.out k hlt
                rw [e0] at d0
                rw [e1] at d1
                rw [e2] at d2
                subst ha ha'
                have hxs := hsz2.out k hlt
                have hx3 := hat.out k hlt
                have kT1 : Hid (∀ u a, Below w.heap.size w u → Calls Tryd.prog 13 #[tokV (MemTok.f0At (toks.map toE) k) (MemTok.f1At (toks.map toE) k) (MemTok.f2At (toks.map toE) k) a] u fun e w' => e = .returned (.string (tx (tokT (MemTok.f0At (toks.map toE) k) (MemTok.f1At (toks.map toE) k) (MemTok.f2At (toks.map toE) k).data.toList))) ∧ Below u.heap.size u w') := fun u a hu => kT.out u _ _ _ a (by omega) hu
                clear hbel hc hc' e0 e1 e2 kT
                generalize MemTok.f0At (toks.map toE) k = x0 at *
                generalize MemTok.f1At (toks.map toE) k = x1 at *
                generalize MemTok.f2At (toks.map toE) k = x2 at *
                generalize MemTok.f3At (toks.map toE) k = x3 at *
                generalize MemTok.f3At (m.map toE) k = x4 at *
                generalize tx (tokT x0 x1 x2.data.toList) = T at *
                have hx3' : ¬ (s.size : Int) ≤ x3 := by omega
                have hx3d : decide ((s.size : Int) ≤ x3) = false := decide_eq_false hx3'
                have kA := kT1
                have kB := kT1
                clear kT1
                have lt1 : b < wr.heap.size := World.block_lt_of_cell? wr _ p0
                have lt2 : b' < wr.heap.size := World.block_lt_of_cell? wr _ d0
                have kk : Hid (∀ u, Below wr.heap.size wr u → u.cell? ⟨b, off + k * 4, none⟩ = some (.int .i64 x0) ∧ u.cell? ⟨b, off + k * 4 + 1, none⟩ = some (.int .i64 x1) ∧ u.cell? ⟨b, off + k * 4 + 2, none⟩ = some (.string x2) ∧ u.cell? ⟨b, off + k * 4 + 3, none⟩ = some (.int .i64 x3) ∧ u.cell? ⟨b', off' + k * 4, none⟩ = some (.int .i64 x0) ∧ u.cell? ⟨b', off' + k * 4 + 1, none⟩ = some (.int .i64 x1) ∧ u.cell? ⟨b', off' + k * 4 + 2, none⟩ = some (.string x2) ∧ u.cell? ⟨b', off' + k * 4 + 3, none⟩ = some (.int .i64 x4)) := fun u hu => ⟨by rw [hu.cell lt1]; exact p0, by rw [hu.cell lt1]; exact p1, by rw [hu.cell lt1]; exact p2, by rw [hu.cell lt1]; exact p3, by rw [hu.cell lt2]; exact d0, by rw [hu.cell lt2]; exact d1, by rw [hu.cell lt2]; exact d2, by rw [hu.cell lt2]; exact d3⟩
                have D0 : Hid (Below wr.heap.size wr wr.drew) := (Below.refl _ _).drew
                go_wp2_with fail
                go_region_held (fun w' => w'.cell? ⟨b, off + k * 4, none⟩ = some (.int .i64 x0) ∧ w'.cell? ⟨b, off + k * 4 + 1, none⟩ = some (.int .i64 x1) ∧ w'.cell? ⟨b, off + k * 4 + 2, none⟩ = some (.string x2) ∧ w'.cell? ⟨b, off + k * 4 + 3, none⟩ = some (.int .i64 x3) ∧ w'.cell? ⟨b', off' + k * 4, none⟩ = some (.int .i64 x0) ∧ w'.cell? ⟨b', off' + k * 4 + 1, none⟩ = some (.int .i64 x1) ∧ w'.cell? ⟨b', off' + k * 4 + 2, none⟩ = some (.string x2) ∧ w'.cell? ⟨b', off' + k * 4 + 3, none⟩ = some (.int .i64 x4)) (go_keep)
                  (first
                    | (go_at_call 13; refine (kA.out _ _ (hbw.out.trans (D0.out.mono hbw.out.size))).mono ?_; rintro e w6 ⟨rfl, q6⟩; clear kA; have B6 : Hid (Below wr.heap.size wr w6) := D0.out.trans q6; clear q6; obtain ⟨_, _, _, _, _, _, _, _⟩ := kk.out _ B6.out)
                    | (go_at_call 13; refine (kB.out _ _ (hbw.out.trans (B6.out.mono hbw.out.size))).mono ?_; rintro e w7 ⟨rfl, q7⟩; clear kB; have B7 : Hid (Below wr.heap.size wr w7) := B6.out.trans (q7.mono B6.out.size); clear q7; obtain ⟨_, _, _, _, _, _, _, _⟩ := kk.out _ B7.out))
                go_wp2_with fail
                go_roundw
                case rel => exact ⟨k + 1, by omega, by go_num, hbel'.out.trans (B7.out.mono hbel'.out.size)⟩
                case measure => simp [intOf]; omega
          · obtain rfl : k = toks.length := by omega
            go_wp2_with fail
            go_ret
            exact ⟨rfl, hbw.out⟩
      · have hl := hlong.out h6
        have kJ2 : Hid (∀ u, Below w.heap.size w u → Calls Tryd.prog 20 #[.string (tx U)] u fun e w' => ∃ a c, e = .returned (.tuple #[.slice a 0 c, .int .i64 1, .int .i64 0]) ∧ Below u.heap.size u w') := fun u hu => by
          have := kJ.out u hu
          rw [hl] at this
          exact this.mono fun e w' ⟨a, c, he, _, hb⟩ => ⟨a, c, he, hb⟩
        have hU6 : (6000 : Int) < ((tx U).size : Int) := by omega
        clear kJ hback hlong hl hUs hU kT
        generalize tx U = TU at *
        go_wp2_with (first
          | (go_at_call 20; refine kI2.out.mono ?_; rintro e w2 ⟨a2, c2, rfl, o2, q2⟩; clear kI2; have O2 : Hid (OT w1.heap.size w2 a2 toks) := o2; have b2 : Hid (Below w.heap.size w w2) := b1.out.trans (q2.mono b1.out.size); clear q2 o2)
          | (go_at_call 19; refine (kS2.out _).mono ?_; rintro e w3 ⟨a3, c3, rfl, q3⟩; clear kS2; have O3 : Hid (OT w1.heap.size w3 a2 toks) := O2.out.below q3; have b3 : Hid (Below w.heap.size w w3) := b2.out.trans (q3.mono b2.out.size); clear q3)
          | (go_at_call 17; refine (kU2.out _ _ _ O3.out b3.out).mono ?_; rintro e w4 ⟨rfl, q4⟩; clear kU2; have b4 : Hid (Below w.heap.size w w4) := b3.out.trans (q4.mono b3.out.size); clear q4)
          | (go_at_call 20; refine (kJ2.out _ b4.out).mono ?_; rintro e w5 ⟨a5, c5, rfl, q5⟩; clear kJ2; have b5 : Hid (Below w.heap.size w w5) := b4.out.trans (q5.mono b4.out.size); clear q5))
        go_ret
        exact ⟨rfl, b5.out⟩
  · have hb0 : (1048576 : Int) < (len : Int) := by omega
    go_enter Tryd.func7, Tryd.ntmps7
    go_wp2_with fail
    go_ret
    exact ⟨rfl, Below.refl _ _⟩
end Go.Proofs.YtjndgjheehjohaaDoor.LexRound
