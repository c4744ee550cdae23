/-
  The specification's walk over a body: dying, opening, closing, labels, Sigs. (Written by my specwalk2.py.)
  The specification on Sigs, on what is there, on what is taken and put. (Written by my specins.py.)
-/
import Derived.Test.YtdaffcbamnpjfaaGreatDoorSPiles
import Derived.Test.YtdaffcbamnpjfaaGreatDoorWalksAll
import Derived.Test.YtdaffcbamnpjfaaGreatDoorValidCtx
import Derived.Test.YtdaffcbamnpjfaaGreatDoorValidEff
namespace Go.Proofs.YtdaffcbamnpjfaaGreatDoor.SWalks
open Go.RowKit PlainOps NameCalls PlainNum NumCalls InsCalls InsImpl PlainShape InsMem FormCalls ModMem FormImpl PlainValid ValidCtx Piles Walks SPiles
set_option maxHeartbeats 2000000 in
theorem die (B q g n cap : Nat) (w : World) (F : Nat → Value) (h : Int) (bad : Bool) (st : List Fr) (b : SV B w q F h (.slice (some ⟨g, 0, none⟩) (n + 1) cap) bad st) (hl : n + 1 ≤ 1048576) :
    Calls Tryz.prog 109 #[.pointer (some ⟨q, 0, none⟩)] w fun e w' => e = .returned (.tuple #[]) ∧ SV B w' q F (st.getD n dF).base (.slice (some ⟨g, 0, none⟩) (n + 1) cap) bad (st.set n ⟨(st.getD n dF).op, (st.getD n dF).res, (st.getD n dF).base, true⟩) ∧ Kp q w w' (.slice (some ⟨g, 0, none⟩) (n + 1) cap) (.slice (some ⟨g, 0, none⟩) (n + 1) cap) := by
  have hn := b.len
  have hp := b.pile
  have hne : g ≠ q := fun e => b.ne (by rw [e]; rfl)
  have hc := b.hgt
  have hf := b.frozen 9
  have hf3 := b.rowFrozen (n * 4 + 3)
  obtain ⟨c0, c1, c2, c3⟩ := b.cells n (by omega)
  have b' : Hid (SV B w q F h (.slice (some ⟨g, 0, none⟩) (n + 1) cap) bad st) := b
  have hd : Hid (∀ (u : World) (h' : Int), SV B u q F h' (.slice (some ⟨g, 0, none⟩) (n + 1) cap) bad st → SV B (u.setCell ⟨g, n * 4 + 3, none⟩ (.bool true)) q F h' (.slice (some ⟨g, 0, none⟩) (n + 1) cap) bad (st.set n ⟨(st.getD n dF).op, (st.getD n dF).res, (st.getD n dF).base, true⟩)) := fun u h' bu => svRow bu _ _ (by simp) (cellsF_set3 st n true (by omega))
  clear b hn
  generalize (st.set n ⟨(st.getD n dF).op, (st.getD n dF).res, (st.getD n dF).base, true⟩) = st' at *
  generalize st.getD n dF = f at *
  obtain ⟨fo, fr, fb, fd⟩ := f
  dsimp only at *
  go_enter Tryz.func109, Tryz.ntmps109
  go_wp2_with fail
  go_end0
  exact ⟨rfl, hd.out _ _ (b'.out.seth fb), (Kp.set w _ _).trans (Kp.setRow _ _)⟩
set_option maxRecDepth 100000 in
set_option maxHeartbeats 8000000 in
theorem openUp (B q g n cap : Nat) (w : World) (F : Nat → Value) (h : Int) (bad : Bool) (st : List Fr) (o r : Int) (b : SV B w q F h (.slice (some ⟨g, 0, none⟩) (n + 1) cap) bad st) (hl : n + 1 ≤ 1048576) :
    Calls Tryz.prog 110 #[.pointer (some ⟨q, 0, none⟩), .int .i64 o, .int .i64 r] w fun e w' => e = .returned (.tuple #[]) ∧ ∃ g' cap', SV B w' q F h (.slice (some ⟨g', 0, none⟩) (n + 1 + 1) cap') bad (st ++ [⟨o, r, h, false⟩]) ∧ Kp q w w' (.slice (some ⟨g, 0, none⟩) (n + 1) cap) (.slice (some ⟨g', 0, none⟩) (n + 1 + 1) cap') := by
  obtain ⟨i0, hi, hz0, hz1, hz2⟩ := info_parts infoG
  have hn := b.len
  have hc := b.pile
  have hh := b.hgt
  have hlt := b.lt
  have hlB := b.le
  have b' : Hid (SV B w q F h (.slice (some ⟨g, 0, none⟩) (n + 1) cap) bad st) := b
  have ap : (Value.slice (some ⟨g, 0, none⟩) (n + 1) cap).ownBlock ≠ some q := Ne.symm b.ne
  have own2 : Hid (((w.alloc (.cells #[.int .i64 o, .int .i64 r, .int .i64 h, .bool false] 93)).drew).ownsRow B 93 4 (.slice (some ⟨g, 0, none⟩) (n + 1) cap) (n + 1) (cellsF st)) := by have := ((b.alloc (.cells #[.int .i64 o, .int .i64 r, .int .i64 h, .bool false] 93)).drew).own; unfold OwnG at this; rw [← hn] at this; exact this
  have new2 : Hid (∀ j u, (cellsF [⟨o, r, h, false⟩])[j]? = some u → ((w.alloc (.cells #[.int .i64 o, .int .i64 r, .int .i64 h, .bool false] 93)).drew).cell? ((⟨w.heap.size, 0, none⟩ : Addr).add j) = some u) := newsF (x := ⟨o, r, h, false⟩) (t := 93) (heap_alloc_new w (.cells #[.int .i64 o, .int .i64 r, .int .i64 h, .bool false] 93)) rfl
  have one2 : Hid (∀ u ∈ cellsF [⟨o, r, h, false⟩], u.oneCell' = true) := oneF _
  have fr2 : Hid (((w.alloc (.cells #[.int .i64 o, .int .i64 r, .int .i64 h, .bool false] 93)).drew).frozen? ⟨q, 10, none⟩ = false) := ((b.alloc _).drew).frozen 10
  have ce2 : Hid (((w.alloc (.cells #[.int .i64 o, .int .i64 r, .int .i64 h, .bool false] 93)).drew).cell? ⟨q, 10, none⟩ = some (.slice (some ⟨g, 0, none⟩) (n + 1) cap)) := ((b.alloc _).drew).pile
  clear b
  have hn' : Hid (n + 1 = st.length) := hn
  clear hn
  go_enter Tryz.func110, Tryz.ntmps110
  go_wp2_with fail
  go_region_law
    ((refine step_append_lies _ (by rfl) _ _ _ (by rfl) B 93 i0 _ 4 32 Tryz.underlying64 hi hz0 hz1 hz2 rfl (by omega) (.slice (some ⟨g, 0, none⟩) (n + 1) cap) (n + 1) (cellsF st) (by rfl) own2.out
        ⟨w.heap.size, 0, none⟩ 1 1 (cellsF [⟨o, r, h, false⟩]) (by rfl) (by rfl) new2.out one2.out
        (by omega) (by unfold maxLen; omega) (by omega) (by simp; omega) (w.heap.size + 1) (by simp) ?_; intro gg cap' w1 hown1 hgrow hat hlt1; have hf1 : w1.frozen? ⟨q, 10, none⟩ = false := (hgrow.frozen_far _ (by first | (simp; done) | (simp; omega)) (Ne.symm ap)).trans fr2.out; have hc1 : w1.cell? ⟨q, 10, none⟩ = some (.slice (some ⟨g, 0, none⟩) (n + 1) cap) := (hgrow.cell_far _ (by first | (simp; done) | (simp; omega)) (Ne.symm ap)).trans ce2.out))
  all_goals
    go_wp2_with fail
    go_end0
    obtain ⟨h1, h2⟩ := ((b'.out.alloc (.cells #[.int .i64 o, .int .i64 r, .int .i64 h, .bool false] 93)).drew).stored (ownG_snoc (by rw [← hn'.out]; exact hown1)) hgrow (by
      rcases hat with z | z
      · exact .inl (by rw [z]; rfl)
      · refine .inr fun g' hg => ?_
        have : gg = g' := by simpa [Value.ownBlock] using hg
        have h2 : ((w.alloc (.cells #[.int .i64 o, .int .i64 r, .int .i64 h, .bool false] 93)).drew).heap.size = w.heap.size + 1 := by simp
        omega)
    exact ⟨rfl, gg, cap', h1, ((Kp.alloc q w _ _).drew).trans h2⟩
set_option maxRecDepth 20000 in
set_option maxHeartbeats 8000000 in
theorem closeUp (B q g n cap : Nat) (w : World) (F : Nat → Value) (h : Int) (bad : Bool) (st : List Fr) (b : SV B w q F h (.slice (some ⟨g, 0, none⟩) (n + 1) cap) bad st) (hl : n + 1 ≤ 1048576) (h0 : -100000 ≤ h) (h1 : h ≤ 1000000) (h2 : -100000 ≤ (st.getD n dF).base) (h3 : (st.getD n dF).base ≤ 1000000) (h4 : 0 ≤ (st.getD n dF).res ∧ (st.getD n dF).res ≤ 1) :
    Calls Tryz.prog 31 #[.pointer (some ⟨q, 0, none⟩)] w fun e w' => e = .returned (.tuple #[]) ∧ SV B w' q F (tk (st.getD n dF).res.toNat h (st.getD n dF).base (st.getD n dF).dead).1 (.slice (some ⟨g, 0, none⟩) (n + 1) cap) (bad || !((tk (st.getD n dF).res.toNat h (st.getD n dF).base (st.getD n dF).dead).2 && decide ((tk (st.getD n dF).res.toNat h (st.getD n dF).base (st.getD n dF).dead).1 = (st.getD n dF).base))) st ∧ Kp q w w' (.slice (some ⟨g, 0, none⟩) (n + 1) cap) (.slice (some ⟨g, 0, none⟩) (n + 1) cap) := by
  have hn := b.len
  have hp := b.pile
  have hlt := b.lt
  have b' : Hid (SV B w q F h (.slice (some ⟨g, 0, none⟩) (n + 1) cap) bad st) := b
  obtain ⟨c0, c1, c2, c3⟩ := b.cells n (by omega)
  have hgw : g < w.heap.size := World.block_lt_of_cell? w _ c0
  have hap : Hid (w.heap.size ≠ q ∧ some w.heap.size ≠ (Value.slice (some ⟨g, 0, none⟩) (n + 1) cap).ownBlock) := b.past (Nat.le_refl _)
  have hT : Hid (∀ u : World, SV B u q F h (.slice (some ⟨g, 0, none⟩) (n + 1) cap) bad st → Calls Tryz.prog 70 #[.pointer (some ⟨q, 0, none⟩), .int .i64 (st.getD n dF).res] u fun e w' => e = .returned (.tuple #[]) ∧ SV B w' q F (tk (st.getD n dF).res.toNat h (st.getD n dF).base (st.getD n dF).dead).1 (.slice (some ⟨g, 0, none⟩) (n + 1) cap) (bad || !(tk (st.getD n dF).res.toNat h (st.getD n dF).base (st.getD n dF).dead).2) st ∧ Kp q u w' (.slice (some ⟨g, 0, none⟩) (n + 1) cap) (.slice (some ⟨g, 0, none⟩) (n + 1) cap)) := fun u hu => by
    have := SPiles.take B q g n cap u F h bad st (st.getD n dF).res.toNat hu hl h0 h1 h2 h3 (by omega)
    rw [Int.toNat_of_nonneg h4.1] at this
    exact this
  clear b hn
  generalize (tk (st.getD n dF).res.toNat h (st.getD n dF).base (st.getD n dF).dead) = R at *
  generalize st.getD n dF = f at *
  obtain ⟨fo, fr, fb, fd⟩ := f
  obtain ⟨R1, R2⟩ := R
  dsimp only at *
  have hbox : Hid (∀ u : World, Kp q (w.alloc (.cells #[.int .i64 fo, .int .i64 fr, .int .i64 fb, .bool fd] 93)) u (.slice (some ⟨g, 0, none⟩) (n + 1) cap) (.slice (some ⟨g, 0, none⟩) (n + 1) cap) → u.cell? ⟨w.heap.size, 1, none⟩ = some (.int .i64 fr) ∧ u.cell? ⟨w.heap.size, 2, none⟩ = some (.int .i64 fb)) := fun u hu => ⟨hu.cell (by simp) hap.out.1 hap.out.2, hu.cell (by simp) hap.out.1 hap.out.2⟩
  by_cases hR : R1 = fb
  · subst hR
    have e1 : Hid ((bad || !(R2 && decide (R1 = R1))) = (bad || !R2)) := by show _ = _; simp
    rw [e1.out]
    go_enter Tryz.func31, Tryz.ntmps31
    go_wp2_with fail
    go_region
    go_wp2_with (go_at_call 70; refine (hT.out _ ((b'.out.alloc _).drew)).mono ?_; rintro e w1 ⟨rfl, b1, k1⟩; have hh := b1.hgt; obtain ⟨_, _⟩ := hbox.out _ (((Kp.refl q _ _).drew).trans k1); have b1' : Hid (SV B w1 q F R1 (.slice (some ⟨g, 0, none⟩) (n + 1) cap) (bad || !R2) st) := b1; clear b1)
    go_quiet (fail)
    go_wp2_with fail
    go_end0
    exact ⟨rfl, b1'.out.drewN _, ((((Kp.alloc q w _ _).drew).trans k1).drewN _)⟩
  · have e1 : Hid ((bad || !(R2 && decide (R1 = fb))) = true) := by show _ = _; simp [hR]
    rw [e1.out]
    have hR1 : (R1 == fb) = false := by simpa using hR
    have hR2 : (R1 != fb) = true := by simpa using hR
    clear hR
    go_enter Tryz.func31, Tryz.ntmps31
    go_wp2_with fail
    go_region
    go_wp2_with (go_at_call 70; refine (hT.out _ ((b'.out.alloc _).drew)).mono ?_; rintro e w1 ⟨rfl, b1, k1⟩; have hh := b1.hgt; have hx := b1.isBad; have hy := b1.frozen 11; obtain ⟨_, _⟩ := hbox.out _ (((Kp.refl q _ _).drew).trans k1); have b1' : Hid (SV B w1 q F R1 (.slice (some ⟨g, 0, none⟩) (n + 1) cap) (bad || !R2) st) := b1; clear b1)
    go_quiet (fail)
    go_wp2_with fail
    go_end0
    exact ⟨rfl, (b1'.out.drewN _).setbad true, ((((Kp.alloc q w _ _).drew).trans k1).drewN _).trans (Kp.set _ _ _)⟩
set_option maxHeartbeats 4000000 in
theorem labelNo (B q g n cap : Nat) (w : World) (F : Nat → Value) (h : Int) (bad : Bool) (st : List Fr) (i : Int) (b : SV B w q F h (.slice (some ⟨g, 0, none⟩) (n + 1) cap) bad st) (hi0 : 0 ≤ i) (hi : ((n + 1 : Nat) : Int) ≤ i) :
    Calls Tryz.prog 111 #[.pointer (some ⟨q, 0, none⟩), .int .i64 i] w fun e w' => e = .returned (.int .i64 (-1)) ∧ Below w.heap.size w w' := by
  have hp := b.pile
  have hd : decide (i < 0) = false := decide_eq_false (by omega)
  have hd' : ¬ i < 0 := by omega
  clear b
  go_enter Tryz.func111, Tryz.ntmps111
  go_wp2_with fail
  go_ret
  exact ⟨rfl, Below.refl _ _⟩
set_option maxRecDepth 20000 in
set_option maxHeartbeats 4000000 in
theorem label (B q g j k cap : Nat) (w : World) (F : Nat → Value) (h : Int) (bad : Bool) (st : List Fr) (b : SV B w q F h (.slice (some ⟨g, 0, none⟩) (j + k + 1) cap) bad st) (hl : j + k + 1 ≤ 1048576) :
    Calls Tryz.prog 111 #[.pointer (some ⟨q, 0, none⟩), .int .i64 (k : Int)] w fun e w' => e = .returned (.int .i64 (brT (st.getD j dF))) ∧ Below w.heap.size w w' := by
  have hn := b.len
  have hp := b.pile
  have hlt := b.lt
  obtain ⟨c0, c1, c2, c3⟩ := b.cells j (by omega)
  have hgw : g < w.heap.size := World.block_lt_of_cell? w _ c0
  have hd : decide ((k : Int) < 0) = false := decide_eq_false (by omega)
  have hd' : ¬ (k : Int) < 0 := by omega
  have hg : decide ((((j + k + 1 : Nat)) : Int) ≤ (k : Int)) = false := decide_eq_false (by omega)
  have hg' : ¬ (((j + k + 1 : Nat)) : Int) ≤ (k : Int) := by omega
  clear b hn
  generalize st.getD j dF = f at *
  obtain ⟨fo, fr, fb, fd⟩ := f
  dsimp only at *
  by_cases h3 : fo = 3
  · subst h3
    go_enter Tryz.func111, Tryz.ntmps111
    go_wp2_with fail
    go_ret
    exact ⟨rfl, (Below.refl _ _).alloc (Nat.le_refl _) _⟩
  · have e1 : Hid (brT ⟨fo, fr, fb, fd⟩ = fr) := if_neg h3
    rw [e1.out]
    have h3' : (fo == 3) = false := by simpa using h3
    clear h3
    go_enter Tryz.func111, Tryz.ntmps111
    go_wp2_with fail
    go_ret
    exact ⟨rfl, (Below.refl _ _).alloc (Nat.le_refl _) _⟩
end Go.Proofs.YtdaffcbamnpjfaaGreatDoor.SWalks
namespace Go.Proofs.YtdaffcbamnpjfaaGreatDoor.SIns
open Go.RowKit PlainOps NameCalls PlainNum NumCalls InsCalls InsImpl PlainShape InsMem FormCalls ModMem FormImpl PlainValid ValidCtx Piles Walks SPiles SWalks

/-- What doesn't change in the walk's box: the module, how many locals there are. -/
def sF (p : P) (m : M) (lo : Int) (j : Nat) : Value := if j = 0 then .slice p.a0 m.sigs.length p.c0 else if j = 1 then .slice p.a1 m.imps.length p.c1 else if j = 2 then .slice p.a2 m.fns.length p.c2 else if j = 3 then .int .i64 m.pages else if j = 4 then .int .i64 m.most else if j = 5 then .slice p.a3 m.gls.length p.c3 else if j = 6 then .slice p.a4 m.exs.length p.c4 else if j = 7 then .slice p.a5 m.dat.length p.c5 else .int .i64 lo
theorem sfixed {B : Nat} {w : World} {q : Nat} {p : P} {m : M} {lo h : Int} {v : Value} {bad : Bool} {st : List Fr} (b : SV B w q (sF p m lo) h v bad st) :
    w.cell? ⟨q, 0, none⟩ = some (.slice p.a0 m.sigs.length p.c0) ∧ w.cell? ⟨q, 1, none⟩ = some (.slice p.a1 m.imps.length p.c1) ∧ w.cell? ⟨q, 2, none⟩ = some (.slice p.a2 m.fns.length p.c2) ∧ w.cell? ⟨q, 3, none⟩ = some (.int .i64 m.pages) ∧ w.cell? ⟨q, 4, none⟩ = some (.int .i64 m.most) ∧ w.cell? ⟨q, 5, none⟩ = some (.slice p.a3 m.gls.length p.c3) ∧ w.cell? ⟨q, 6, none⟩ = some (.slice p.a4 m.exs.length p.c4) ∧ w.cell? ⟨q, 7, none⟩ = some (.slice p.a5 m.dat.length p.c5) ∧ w.cell? ⟨q, 8, none⟩ = some (.int .i64 lo) :=
  ⟨b.fix 0 (by omega), b.fix 1 (by omega), b.fix 2 (by omega), b.fix 3 (by omega), b.fix 4 (by omega), b.fix 5 (by omega), b.fix 6 (by omega), b.fix 7 (by omega), b.fix 8 (by omega)⟩
set_option maxRecDepth 20000 in
set_option maxHeartbeats 8000000 in
theorem sigYes (p : P) (m : M) (w : World) (k : Nat) (h : Rd w p m) (f : Facts m) (hk : k < m.imps.length + m.fns.length) :
    Calls Tryz.prog 112 #[val p m, .int .i64 (k : Int)] w fun e w' => e = .returned (.tuple #[.agg #[.int .i64 (MemSig.f0At m.sigs (sgI m k).toNat), .int .i64 (MemSig.f1At m.sigs (sgI m k).toNat)], .bool true]) ∧ Below w.heap.size w w' := by
  obtain ⟨s0, s1⟩ := sgI_lt f hk
  have hco := f.co
  obtain ⟨z, hz⟩ : ∃ z : Nat, sgI m k = z := ⟨(sgI m k).toNat, by omega⟩
  rw [hz] at s1
  obtain ⟨h0, h1, h2, _, _, _⟩ := h
  obtain ⟨a0, c0, a1, c1, a2, c2, a3, c3, a4, c4, a5, c5⟩ := p
  have hd0 : decide ((k : Int) < 0) = false := decide_eq_false (by omega)
  have hd1 : ¬ (k : Int) < 0 := by omega
  have hd2 : decide ((m.imps.length : Int) + (m.fns.length : Int) ≤ (k : Int)) = false := decide_eq_false (by omega)
  have hd3 : ¬ (m.imps.length : Int) + (m.fns.length : Int) ≤ (k : Int) := by omega
  rcases h0 with h0 | ⟨b0, o0, ha0, hc0⟩
  · omega
  · obtain ⟨x0, x1⟩ := hc0 z (by omega)
    have hb0 : b0 < w.heap.size := World.block_lt_of_cell? w _ x0
    have hz' : (z : Int) < (m.sigs.length : Int) := s1
    rw [hz, Int.toNat_natCast]
    simp only [val] at ha0 ⊢
    subst ha0
    generalize MemSig.f0At m.sigs z = X0 at *
    generalize MemSig.f1At m.sigs z = X1 at *
    by_cases hlt : k < m.imps.length
    · have hlt' : (k : Int) < (m.imps.length : Int) := by omega
      rcases h1 with h1 | ⟨b1, o1, ha1, hc1⟩
      · omega
      · obtain ⟨_, _, y⟩ := hc1 k hlt
        have hb1 : b1 < w.heap.size := World.block_lt_of_cell? w _ y
        have e : MemImport.f2At m.imps k = (z : Int) := by rw [← hz]; unfold sgI; rw [if_pos hlt]
        rw [e] at y
        dsimp only at ha1
        subst ha1
        clear hc0 hc1 h2 f hz e s0 s1 hlt
        generalize m.sigs.length = N0 at *
        generalize m.imps.length = N1 at *
        generalize m.fns.length = N2 at *
        generalize m.gls.length = N3 at *
        generalize m.exs.length = N4 at *
        generalize m.dat.length = N5 at *
        go_enter Tryz.func112, Tryz.ntmps112
        go_wp2_with fail
        go_region
        go_wp2_with fail
        refine bodyPost_ret ?_ rfl ⟨rfl, ?_⟩
        · simp [results, go_sem]
        · exact (((Below.refl _ _).alloc (Nat.le_refl _) _).alloc (by simp) _).drew
    · have hlt' : ¬ (k : Int) < (m.imps.length : Int) := by omega
      have hdl : decide ((k : Int) < (m.imps.length : Int)) = false := decide_eq_false hlt'
      obtain ⟨j, rfl⟩ : ∃ j, k = m.imps.length + j := ⟨k - m.imps.length, by omega⟩
      rcases h2 with h2 | ⟨b2, o2, ha2, hc2⟩
      · omega
      · obtain ⟨y, _, _, _⟩ := hc2 j (by omega)
        have hb2 : b2 < w.heap.size := World.block_lt_of_cell? w _ y
        have e : (MemFunc.at1 m.fns j).sig = (z : Int) := by
          rw [← hz]; unfold sgI; rw [if_neg hlt, show m.imps.length + j - m.imps.length = j by omega]
        rw [e] at y
        dsimp only at ha2
        subst ha2
        have hj : (j : Int) < (m.fns.length : Int) := by omega
        clear hc0 hc2 h1 f hz e s0 s1 hlt
        generalize m.sigs.length = N0 at *
        generalize m.imps.length = N1 at *
        generalize m.fns.length = N2 at *
        generalize m.gls.length = N3 at *
        generalize m.exs.length = N4 at *
        generalize m.dat.length = N5 at *
        go_enter Tryz.func112, Tryz.ntmps112
        go_wp2_with fail
        go_region
        go_wp2_with fail
        refine bodyPost_ret ?_ rfl ⟨rfl, ?_⟩
        · simp [results, go_sem]
        · exact (((Below.refl _ _).alloc (Nat.le_refl _) _).alloc (by simp) _).drew
set_option maxRecDepth 20000 in
set_option maxHeartbeats 8000000 in
theorem sigNo (p : P) (m : M) (w : World) (i : Int) (hco : m.imps.length + m.fns.length ≤ 60) (hi : i < 0 ∨ (m.imps.length : Int) + (m.fns.length : Int) ≤ i) :
    Calls Tryz.prog 112 #[val p m, .int .i64 i] w fun e w' => e = .returned (.tuple #[.agg #[.int .i64 0, .int .i64 0], .bool false]) ∧ Below w.heap.size w w' := by
  simp only [val]
  by_cases h0 : i < 0
  · clear hi
    generalize m.sigs.length = N0 at *
    generalize m.imps.length = N1 at *
    generalize m.fns.length = N2 at *
    generalize m.gls.length = N3 at *
    generalize m.exs.length = N4 at *
    generalize m.dat.length = N5 at *
    go_enter Tryz.func112, Tryz.ntmps112
    go_wp2_with fail
    refine bodyPost_ret ?_ rfl ⟨rfl, ?_⟩
    · simp [results, go_sem]
    · first
        | exact ((((Below.refl _ _).alloc (Nat.le_refl _) _).alloc (by simp) _).setCell (p := ⟨w.heap.size + 1, 0, none⟩) (by simp) _).setCell (p := ⟨w.heap.size + 1, 1, none⟩) (by simp) _
        | exact (((Below.refl _ _).alloc (Nat.le_refl _) _).alloc (by simp) _)
  · have h1 : (m.imps.length : Int) + (m.fns.length : Int) ≤ i := by omega
    have hd0 : decide (i < 0) = false := decide_eq_false h0
    clear hi
    generalize m.sigs.length = N0 at *
    generalize m.imps.length = N1 at *
    generalize m.fns.length = N2 at *
    generalize m.gls.length = N3 at *
    generalize m.exs.length = N4 at *
    generalize m.dat.length = N5 at *
    go_enter Tryz.func112, Tryz.ntmps112
    go_wp2_with fail
    refine bodyPost_ret ?_ rfl ⟨rfl, ?_⟩
    · simp [results, go_sem]
    · first
        | exact ((((Below.refl _ _).alloc (Nat.le_refl _) _).alloc (by simp) _).setCell (p := ⟨w.heap.size + 1, 0, none⟩) (by simp) _).setCell (p := ⟨w.heap.size + 1, 1, none⟩) (by simp) _
        | exact (((Below.refl _ _).alloc (Nat.le_refl _) _).alloc (by simp) _)
end Go.Proofs.YtdaffcbamnpjfaaGreatDoor.SIns
