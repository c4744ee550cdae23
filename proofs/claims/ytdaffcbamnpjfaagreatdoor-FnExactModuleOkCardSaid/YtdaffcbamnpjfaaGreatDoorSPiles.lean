/-
  The specification's walk over a body: its box, the row of what is open, its small functions. (Written by my specwalk.py.)
-/
import Derived.Test.YtdaffcbamnpjfaaGreatDoorPiles
namespace Go.Proofs.YtdaffcbamnpjfaaGreatDoor.SPiles
open Go.RowKit PlainShape PlainValid InsMem Piles

/-- What is open, in a row of its own from block B on. -/
def OwnG (B : Nat) (w : World) (v : Value) (l : List Fr) : Prop := w.ownsRow B 93 4 v l.length (cellsF l)
theorem infoG : (Tryz.prog.info? 93).map (fun i => (i.zero, i.size, i.bytes)) = some (some (.agg #[.int .i64 0, .int .i64 0, .int .i64 0, .bool false]), 4, 32) := by kernel_rfl
def svC (F : Nat → Value) (h : Int) (v : Value) (bad : Bool) (j : Nat) : Value := if j = 9 then .int .i64 h else if j = 10 then v else if j = 11 then .bool bad else F j
/-- The walk in box q: what doesn't change (F), the height, what is open (v, it holds st), whether it is bad. -/
structure SV (B : Nat) (w : World) (q : Nat) (F : Nat → Value) (h : Int) (v : Value) (bad : Bool) (st : List Fr) : Prop where
  box : w.rowIs q 66 12 (svC F h v bad)
  own : OwnG B w v st
  ne : some q ≠ v.ownBlock
  le : B ≤ q
theorem SV.hgt {B : Nat} {w : World} {q : Nat} {F : Nat → Value} {h : Int} {v : Value} {bad : Bool} {st : List Fr} (b : SV B w q F h v bad st) : w.cell? ⟨q, 9, none⟩ = some (.int .i64 h) := b.box.cell (by omega)
theorem SV.pile {B : Nat} {w : World} {q : Nat} {F : Nat → Value} {h : Int} {v : Value} {bad : Bool} {st : List Fr} (b : SV B w q F h v bad st) : w.cell? ⟨q, 10, none⟩ = some v := b.box.cell (by omega)
theorem SV.isBad {B : Nat} {w : World} {q : Nat} {F : Nat → Value} {h : Int} {v : Value} {bad : Bool} {st : List Fr} (b : SV B w q F h v bad st) : w.cell? ⟨q, 11, none⟩ = some (.bool bad) := b.box.cell (by omega)
theorem SV.fix {B : Nat} {w : World} {q : Nat} {F : Nat → Value} {h : Int} {v : Value} {bad : Bool} {st : List Fr} (b : SV B w q F h v bad st) (j : Nat) (hj : j < 9) : w.cell? ⟨q, j, none⟩ = some (F j) := by
  rw [b.box.cell (by omega)]
  unfold svC
  rw [if_neg (by omega), if_neg (by omega), if_neg (by omega)]
theorem SV.frozen {B : Nat} {w : World} {q : Nat} {F : Nat → Value} {h : Int} {v : Value} {bad : Bool} {st : List Fr} (b : SV B w q F h v bad st) (j : Nat) : w.frozen? ⟨q, j, none⟩ = false := b.box.frozen j
theorem SV.lt {B : Nat} {w : World} {q : Nat} {F : Nat → Value} {h : Int} {v : Value} {bad : Bool} {st : List Fr} (b : SV B w q F h v bad st) : q < w.heap.size := b.box.lt
theorem SV.past {B : Nat} {w : World} {q : Nat} {F : Nat → Value} {h : Int} {v : Value} {bad : Bool} {st : List Fr} (b : SV B w q F h v bad st) {k : Nat} (hk : w.heap.size ≤ k) : k ≠ q ∧ some k ≠ v.ownBlock :=
  ⟨fun e => by have := b.lt; omega, fun e => by have := (World.ownsRow.lt b.own k e.symm).2; omega⟩
theorem SV.later {B : Nat} {w : World} {q : Nat} {F : Nat → Value} {h : Int} {v : Value} {bad : Bool} {st : List Fr} {w' : World} (b : SV B w q F h v bad st) (hb : Below w.heap.size w w') : SV B w' q F h v bad st := by
  refine ⟨row_later b.box hb, ⟨b.own.1, ?_⟩, b.ne, b.le⟩
  rcases b.own.2 with h0 | ⟨g, cap, cur, hv, hg, hh, r⟩
  · exact .inl h0
  · exact .inr ⟨g, cap, cur, hv, hg, (hb.block g (Array.getElem?_eq_some_iff.1 hh).1).trans hh, r⟩
theorem SV.alloc {B : Nat} {w : World} {q : Nat} {F : Nat → Value} {h : Int} {v : Value} {bad : Bool} {st : List Fr} (b : SV B w q F h v bad st) (o : Obj) : SV B (w.alloc o) q F h v bad st := b.later ((Below.refl _ _).alloc (Nat.le_refl _) _)
theorem SV.drew {B : Nat} {w : World} {q : Nat} {F : Nat → Value} {h : Int} {v : Value} {bad : Bool} {st : List Fr} (b : SV B w q F h v bad st) : SV B w.drew q F h v bad st := b.later (Below.refl _ _).drew
theorem SV.drewN {B : Nat} {w : World} {q : Nat} {F : Nat → Value} {h : Int} {v : Value} {bad : Bool} {st : List Fr} (b : SV B w q F h v bad st) (m : Nat) : SV B (w.drewN m) q F h v bad st := b.later (below_dn w m)
theorem own_other {B q : Nat} {w : World} {v x : Value} {j : Nat} {l : List Fr} (h : OwnG B w v l) (hne : some q ≠ v.ownBlock) : OwnG B (w.setCell ⟨q, j, none⟩ x) v l := by
  refine ⟨h.1, ?_⟩
  rcases h.2 with h0 | ⟨g, cap, cur, hv, hg, hh, r⟩
  · exact .inl h0
  · exact .inr ⟨g, cap, cur, hv, hg, (Below.heap_setCell _ _ _ _ (fun e => hne (by rw [hv, ← show g = q from e]; rfl))).trans hh, r⟩
theorem SV.seth {B : Nat} {w : World} {q : Nat} {F : Nat → Value} {h : Int} {v : Value} {bad : Bool} {st : List Fr} (b : SV B w q F h v bad st) (h' : Int) : SV B (w.setCell ⟨q, 9, none⟩ (.int .i64 h')) q F h' v bad st := by
  refine ⟨(b.box.set 9 (.int .i64 h')).congr (fun j _ => ?_), own_other b.own b.ne, b.ne, b.le⟩
  unfold svC
  split <;> rfl
theorem SV.setbad {B : Nat} {w : World} {q : Nat} {F : Nat → Value} {h : Int} {v : Value} {bad : Bool} {st : List Fr} (b : SV B w q F h v bad st) (d : Bool) : SV B (w.setCell ⟨q, 11, none⟩ (.bool d)) q F h v d st := by
  refine ⟨(b.box.set 11 (.bool d)).congr (fun j _ => ?_), own_other b.own b.ne, b.ne, b.le⟩
  unfold svC
  split
  · rename_i e; subst e; rfl
  · rfl
theorem SV.form {B : Nat} {w : World} {q : Nat} {F : Nat → Value} {h : Int} {v : Value} {bad : Bool} {st : List Fr} (b : SV B w q F h v bad st) (hn : st.length ≠ 0) : ∃ g cap, v = .slice (some ⟨g, 0, none⟩) st.length cap ∧ B ≤ g ∧ g < w.heap.size ∧ st.length ≤ cap := by
  rcases b.own.2 with ⟨_, h0⟩ | ⟨g, cap, cur, hv, hg, hb, hn', _, _, _⟩
  · exact absurd h0 hn
  · exact ⟨g, cap, hv, hg, (Array.getElem?_eq_some_iff.1 hb).1, hn'⟩
theorem SV.len {B : Nat} {w : World} {q g n cap : Nat} {F : Nat → Value} {h : Int} {bad : Bool} {st : List Fr} (b : SV B w q F h (.slice (some ⟨g, 0, none⟩) n cap) bad st) : n = st.length := by
  rcases b.own.2 with ⟨hv, _⟩ | ⟨g', cap', cur, hv, _⟩
  · cases hv
  · injection hv
theorem SV.cells {B : Nat} {w : World} {q g n cap : Nat} {F : Nat → Value} {h : Int} {bad : Bool} {st : List Fr} (b : SV B w q F h (.slice (some ⟨g, 0, none⟩) n cap) bad st) (j : Nat) (hj : j < st.length) :
    w.cell? ⟨g, j * 4, none⟩ = some (.int .i64 (st.getD j dF).op) ∧ w.cell? ⟨g, j * 4 + 1, none⟩ = some (.int .i64 (st.getD j dF).res) ∧ w.cell? ⟨g, j * 4 + 2, none⟩ = some (.int .i64 (st.getD j dF).base) ∧ w.cell? ⟨g, j * 4 + 3, none⟩ = some (.bool (st.getD j dF).dead) := by
  have hn := b.len
  subst hn
  have k : ∀ r, r < 4 → w.cell? ⟨g, j * 4 + r, none⟩ = some (cvF (st.getD j dF) r) := fun r hr => by
    have := cellsF_at st j r hj hr
    rw [World.ownsRow.cellAt b.own (j * 4 + r) (by omega), this]
  exact ⟨k 0 (by omega), k 1 (by omega), k 2 (by omega), k 3 (by omega)⟩
theorem SV.rowFrozen {B : Nat} {w : World} {q g n cap : Nat} {F : Nat → Value} {h : Int} {bad : Bool} {st : List Fr} (b : SV B w q F h (.slice (some ⟨g, 0, none⟩) n cap) bad st) (j : Nat) : w.frozen? ⟨g, j, none⟩ = false := by
  have hn := b.len
  subst hn
  exact World.ownsRow.frozenAt b.own j
theorem ownG_snoc {B : Nat} {w : World} {v : Value} {st : List Fr} {x : Fr} (h : w.ownsRow B 93 4 v (st.length + 1) (cellsF st ++ cellsF [x])) : OwnG B w v (st ++ [x]) := by
  unfold OwnG
  rw [List.length_append, List.length_singleton, cellsF_append]
  exact h
theorem SV.stored {B : Nat} {w : World} {q : Nat} {F : Nat → Value} {h : Int} {v : Value} {bad : Bool} {st : List Fr} {w1 : World} {v' : Value} {st' : List Fr} (b : SV B w q F h v bad st) (ho : OwnG B w1 v' st') (hg : w.grownBy w1 v.ownBlock) (hl : Lies w.heap.size v.ownBlock v') :
    SV B (w1.setCell ⟨q, 10, none⟩ v') q F h v' bad st' ∧ Kp q w (w1.setCell ⟨q, 10, none⟩ v') v v' := by
  have hbox : w1.rowIs q 66 12 (svC F h v bad) := b.box.of_block (hg.block q b.lt b.ne)
  have hne : some q ≠ v'.ownBlock := fun e => by
    rcases hl with a | a
    · exact b.ne (e.trans a)
    · have := a q e.symm
      have := b.lt
      omega
  refine ⟨⟨(hbox.set 10 v').congr (fun j _ => ?_), own_other ho hne, hne, b.le⟩, hg.os, hg.tape, hg.output, ?_, fun k hk hp hne => ?_, hl⟩
  · unfold svC
    split
    · rename_i e; subst e; rfl
    · rfl
  · rw [World.size_setCell]; exact hg.size
  · rw [Below.heap_setCell _ _ _ _ (by exact hp)]; exact hg.block k hk hne
theorem SV.popped {B : Nat} {w : World} {q g n cap : Nat} {F : Nat → Value} {h : Int} {bad : Bool} {st : List Fr} (b : SV B w q F h (.slice (some ⟨g, 0, none⟩) (n + 1) cap) bad st) : SV B (w.setCell ⟨q, 10, none⟩ (.slice (some ⟨g, 0, none⟩) n cap)) q F h (.slice (some ⟨g, 0, none⟩) n cap) bad (st.take n) ∧ Kp q w (w.setCell ⟨q, 10, none⟩ (.slice (some ⟨g, 0, none⟩) n cap)) (.slice (some ⟨g, 0, none⟩) (n + 1) cap) (.slice (some ⟨g, 0, none⟩) n cap) := by
  have hn := b.len
  have hne : some q ≠ (Value.slice (some ⟨g, 0, none⟩) n cap).ownBlock := b.ne
  refine ⟨⟨(b.box.set 10 _).congr (fun j _ => ?_), own_other ?_ hne, hne, b.le⟩, rfl, rfl, rfl, by simp, fun k _ hk _ => Below.heap_setCell _ _ _ _ hk, .inl rfl⟩
  · unfold svC
    split
    · rename_i e; subst e; rfl
    · rfl
  · have ho := b.own
    rcases ho.2 with ⟨hv, _⟩ | ⟨g', cap', cur, hv, hg, hb, hn', hc, hs, ht⟩
    · cases hv
    · simp only [Value.slice.injEq, Option.some.injEq, Addr.mk.injEq, and_true] at hv
      obtain ⟨rfl, _, rfl⟩ := hv
      have hl : (st.take n).length = n := by rw [List.length_take]; omega
      refine ⟨by rw [cellsF_len], .inr ⟨g, cap, cur, by rw [hl], hg, hb, by omega, hc, hs, ?_⟩⟩
      have h4 : cellsF (st.take n) = (cellsF st).take (n * 4) := by
        have := cellsF_append (st.take n) (st.drop n)
        rw [List.take_append_drop] at this
        rw [this, List.take_left' (by rw [cellsF_len, hl])]
      rw [hl, h4, ← ht, List.take_take, Nat.min_eq_left (by omega)]
theorem svRow {B : Nat} {w : World} {q g n cap : Nat} {F : Nat → Value} {h : Int} {bad : Bool} {st st' : List Fr} (b : SV B w q F h (.slice (some ⟨g, 0, none⟩) n cap) bad st) (i : Nat) (x : Value) (hl : st'.length = st.length) (hc : (cellsF st).set i x = cellsF st') : SV B (w.setCell ⟨g, i, none⟩ x) q F h (.slice (some ⟨g, 0, none⟩) n cap) bad st' := by
  have hn := b.len
  subst hn
  have hne : g ≠ q := fun e => b.ne (by rw [e]; rfl)
  refine ⟨b.box.of_block (Below.heap_setCell _ _ _ _ (Ne.symm hne)), ?_, b.ne, b.le⟩
  have := (World.ownsRow.stored b.own i x).1
  unfold OwnG
  rw [hl, ← hc]
  exact this
theorem SV.other {B : Nat} {w : World} {q : Nat} {F : Nat → Value} {h : Int} {v : Value} {bad : Bool} {st : List Fr} (b : SV B w q F h v bad st) {r j : Nat} (hr : r ≠ q ∧ some r ≠ v.ownBlock) (x : Value) : SV B (w.setCell ⟨r, j, none⟩ x) q F h v bad st :=
  ⟨b.box.of_block (Below.heap_setCell _ _ _ _ (Ne.symm hr.1)), own_other b.own hr.2, b.ne, b.le⟩
set_option maxRecDepth 20000 in
set_option maxHeartbeats 4000000 in
theorem take (B q g n cap : Nat) (w : World) (F : Nat → Value) (h : Int) (bad : Bool) (st : List Fr) (k : Nat) (b : SV B w q F h (.slice (some ⟨g, 0, none⟩) (n + 1) cap) bad st) (hl : n + 1 ≤ 1048576) (h0 : -100000 ≤ h) (h1 : h ≤ 1000000) (h2 : -100000 ≤ (st.getD n dF).base) (h3 : (st.getD n dF).base ≤ 1000000) (hk : k ≤ 1000) :
    Calls Tryz.prog 70 #[.pointer (some ⟨q, 0, none⟩), .int .i64 (k : Int)] w fun e w' => e = .returned (.tuple #[]) ∧ SV B w' q F (tk k h (st.getD n dF).base (st.getD n dF).dead).1 (.slice (some ⟨g, 0, none⟩) (n + 1) cap) (bad || !(tk k h (st.getD n dF).base (st.getD n dF).dead).2) st ∧ Kp q w w' (.slice (some ⟨g, 0, none⟩) (n + 1) cap) (.slice (some ⟨g, 0, none⟩) (n + 1) cap) := by
  have hn := b.len
  have hp := b.pile
  have hlt := b.lt
  have b' : Hid (SV B w q F h (.slice (some ⟨g, 0, none⟩) (n + 1) cap) bad st) := b
  obtain ⟨c0, c1, c2, c3⟩ := b.cells n (by omega)
  have hgw : g < w.heap.size := World.block_lt_of_cell? w _ c0
  have hap : Hid (w.heap.size ≠ q ∧ some w.heap.size ≠ (Value.slice (some ⟨g, 0, none⟩) (n + 1) cap).ownBlock) := b.past (Nat.le_refl _)
  have hcs : Hid (∀ (u : World) (h' : Int) (d : Bool), SV B u q F h' (.slice (some ⟨g, 0, none⟩) (n + 1) cap) d st → u.cell? ⟨q, 9, none⟩ = some (.int .i64 h') ∧ u.frozen? ⟨q, 9, none⟩ = false ∧ u.cell? ⟨q, 11, none⟩ = some (.bool d) ∧ u.frozen? ⟨q, 11, none⟩ = false) := fun u h' d bu => ⟨bu.hgt, bu.frozen 9, bu.isBad, bu.frozen 11⟩
  clear b hn
  generalize st.getD n dF = f at *
  obtain ⟨fo, fr, fb, fd⟩ := f
  dsimp only at *
  have hbox : Hid (∀ u : World, Kp q (w.alloc (.cells #[.int .i64 fo, .int .i64 fr, .int .i64 fb, .bool fd] 93)) u (.slice (some ⟨g, 0, none⟩) (n + 1) cap) (.slice (some ⟨g, 0, none⟩) (n + 1) cap) → u.cell? ⟨w.heap.size, 2, none⟩ = some (.int .i64 fb) ∧ u.cell? ⟨w.heap.size, 3, none⟩ = some (.bool fd)) := fun u hu => ⟨hu.cell (by simp) hap.out.1 hap.out.2, hu.cell (by simp) hap.out.1 hap.out.2⟩
  obtain ⟨R, hR⟩ : ∃ R, tk k h fb fd = R := ⟨_, rfl⟩
  have hF : Hid (tk k h fb fd = R) := hR
  rw [hR]
  clear hR
  go_enter Tryz.func70, Tryz.ntmps70
  go_wp2_with fail
  go_region
  go_wp2_with fail
  go_loopw [5] (fun vi wr => ∃ (j f : Nat) (h' : Int) (d : Bool), j + f = k ∧ vi = .int .i64 j ∧ ((d = bad ∧ tk f h' fb fd = R) ∨ (d = true ∧ R = (h', false) ∧ ¬ fb < h' ∧ fd = false)) ∧ -1000000 ≤ h' ∧ h' ≤ 1000000 ∧ SV B wr q F h' (.slice (some ⟨g, 0, none⟩) (n + 1) cap) d st ∧ Kp q (w.alloc (.cells #[.int .i64 fo, .int .i64 fr, .int .i64 fb, .bool fd] 93)) wr (.slice (some ⟨g, 0, none⟩) (n + 1) cap) (.slice (some ⟨g, 0, none⟩) (n + 1) cap)) (fun vi _ => k - (intOf vi).toNat)
  case atStart => exact ⟨0, k, h, bad, by omega, rfl, .inl ⟨rfl, hF.out⟩, by omega, by omega, (b'.out.alloc _).drew, (Kp.refl _ _ _).drew⟩
  case round =>
    obtain ⟨j, f, h', d, hj, rfl, hr, l0, l1, bw, kp⟩ := hrel
    have hr' : Hid ((d = bad ∧ tk f h' fb fd = R) ∨ (d = true ∧ R = (h', false) ∧ ¬ fb < h' ∧ fd = false)) := hr
    have bw' : Hid (SV B wr q F h' (.slice (some ⟨g, 0, none⟩) (n + 1) cap) d st) := bw
    have kp' : Hid (Kp q (w.alloc (.cells #[.int .i64 fo, .int .i64 fr, .int .i64 fb, .bool fd] 93)) wr (.slice (some ⟨g, 0, none⟩) (n + 1) cap) (.slice (some ⟨g, 0, none⟩) (n + 1) cap)) := kp
    obtain ⟨e0, e1, e2, e3⟩ := hcs.out wr h' d bw
    obtain ⟨y0, y1⟩ := hbox.out wr kp
    clear hr bw kp hF
    by_cases hlt : j < k
    · have hlt' : (j : Int) < (k : Int) := by omega
      obtain ⟨f, rfl⟩ : ∃ i, f = i + 1 := ⟨f - 1, by omega⟩
      by_cases hb : fb < h'
      · have x1 : Hid (d = bad ∧ tk f (h' - 1) fb fd = R) := by
          rcases hr'.out with ⟨z1, z2⟩ | ⟨_, _, z3, _⟩
          · exact ⟨z1, by rw [← tk_down hb]; exact z2⟩
          · exact absurd hb z3
        go_wp2_with fail
        go_quiet (fail)
        go_wp2_with fail
        go_roundw
        case rel => exact ⟨j + 1, f, h' - 1, d, by omega, by go_num, .inl x1.out, by omega, by omega, (bw'.out.drewN _).seth (h' - 1), (kp'.out.drewN _).trans (Kp.set _ _ _)⟩
        case measure => simp [intOf]; omega
      · cases fd with
        | true =>
          have x1 : Hid (d = bad ∧ tk f h' fb true = R) := by
            rcases hr'.out with ⟨z1, z2⟩ | ⟨_, _, _, z4⟩
            · exact ⟨z1, by rw [← tk_dead hb]; exact z2⟩
            · cases z4
          go_wp2_with fail
          go_quiet (fail)
          go_wp2_with fail
          go_roundw
          case rel => exact ⟨j + 1, f, h', d, by omega, by go_num, .inl x1.out, by omega, by omega, bw'.out.drewN _, kp'.out.drewN _⟩
          case measure => simp [intOf]; omega
        | false =>
          have x1 : Hid (R = (h', false)) := by
            rcases hr'.out with ⟨_, z2⟩ | ⟨_, z2, _, _⟩
            · rw [← z2]; exact tk_no hb
            · exact z2
          have hb' : Hid (¬ fb < h') := hb
          go_wp2_with fail
          go_quiet (fail)
          go_wp2_with fail
          go_roundw
          case rel => exact ⟨j + 1, f, h', true, by omega, by go_num, .inr ⟨rfl, x1.out, (by have := hb'.out; omega), (by first | rfl | trivial | simp)⟩, by omega, by omega, (bw'.out.drewN _).setbad true, (kp'.out.drewN _).trans (Kp.set _ _ _)⟩
          case measure => simp [intOf]; omega
    · obtain rfl : j = k := by omega
      obtain rfl : f = 0 := by omega
      go_wp2_with fail
      go_end0
      refine ⟨rfl, ?_, (Kp.alloc q w _ _).trans kp'.out⟩
      rcases hr'.out with ⟨z1, z2⟩ | ⟨z1, z2, _, _⟩
      · rw [← z2, ← z1]
        simpa [tk] using bw'.out
      · rw [z2]
        rw [z1] at bw'
        simpa using bw'.out
end Go.Proofs.YtdaffcbamnpjfaaGreatDoor.SPiles
