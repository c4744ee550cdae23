/-
  What ShapeOk answers when it is called, the specification's and the program's, and the walk of its exact law.
-/
import Derived.Test.YtffngjgjhialnaaGreatDoorInsMem
import Derived.OwnWalk
import Derived.Laws.OwnMore
import Derived.Maps.AppendAt
namespace Go.Proofs.YtffngjgjhialnaaGreatDoor.ShapeCalls
open Go.RowKit PlainShape InsMem

/-- From k on, with what is open (the innermost last). -/
def shpF (l : List I3) : Nat → Nat → List Int → Bool
  | 0, _, st => decide (st.length = 0)
  | f + 1, k, st =>
    if bg (oAt l k) = true then shpF l f (k + 1) (st ++ [oAt l k])
    else if oAt l k = 5 then (if st.length = 0 then false else if st.getD (st.length - 1) 0 = 4 then shpF l f (k + 1) (st.set (st.length - 1) 5) else false)
    else if oAt l k = 11 then (if st.length = 0 then false else shpF l f (k + 1) (st.take (st.length - 1)))
    else shpF l f (k + 1) st
def shapeOk (l : List I3) : Bool := shpF l l.length 0 []
theorem shp_bg {l : List I3} {f k : Nat} {st : List Int} {o : Int} (ho : oAt l k = o) (h : bg o = true) : shpF l (f + 1) k st = shpF l f (k + 1) (st ++ [o]) := by
  rw [shpF, ho, if_pos h]
theorem shp_else0 {l : List I3} {f k : Nat} {st : List Int} (ho : oAt l k = 5) (h : st.length = 0 ∨ st.getD (st.length - 1) 0 ≠ 4) : shpF l (f + 1) k st = false := by
  rw [shpF, ho, if_neg (by decide), if_pos rfl]
  rcases h with h | h
  · rw [if_pos h]
  · rw [if_neg h]; split <;> rfl
theorem shp_else {l : List I3} {f k : Nat} {st : List Int} (ho : oAt l k = 5) (h : st.length ≠ 0) (h4 : st.getD (st.length - 1) 0 = 4) : shpF l (f + 1) k st = shpF l f (k + 1) (st.set (st.length - 1) 5) := by
  rw [shpF, ho, if_neg (by decide), if_pos rfl, if_neg h, if_pos h4]
theorem shp_end0 {l : List I3} {f k : Nat} {st : List Int} (ho : oAt l k = 11) (h : st.length = 0) : shpF l (f + 1) k st = false := by
  rw [shpF, ho, if_neg (by decide), if_neg (by decide), if_pos rfl, if_pos h]
theorem shp_end {l : List I3} {f k : Nat} {st : List Int} (ho : oAt l k = 11) (h : st.length ≠ 0) : shpF l (f + 1) k st = shpF l f (k + 1) (st.take (st.length - 1)) := by
  rw [shpF, ho, if_neg (by decide), if_neg (by decide), if_pos rfl, if_neg h]
theorem shp_no {l : List I3} {f k : Nat} {st : List Int} {o : Int} (ho : oAt l k = o) (h : bg o = false) (h5 : o ≠ 5) (h11 : o ≠ 11) : shpF l (f + 1) k st = shpF l f (k + 1) st := by
  rw [shpF, ho, if_neg (by rw [h]; decide), if_neg h5, if_neg h11]
/-- A stack of numbers in new memory. -/
def OwnS (B : Nat) (w : World) (v : Value) (st : List Int) : Prop := w.ownsRow B 3 1 v st.length (st.map fun z => .int .i64 z)
theorem info3 : (Tryz.prog.info? 3).map (fun i => (i.zero, i.size, i.bytes)) = some (some (.int .i64 0), 1, 8) := by kernel_rfl
theorem OwnS.form {B : Nat} {w : World} {v : Value} {st : List Int} (h : OwnS B w v st) (hn : st.length ≠ 0) : ∃ g cap, v = .slice (some ⟨g, 0, none⟩) st.length cap ∧ B ≤ g ∧ g < w.heap.size ∧ st.length ≤ cap := by
  rcases h.2 with ⟨_, h0⟩ | ⟨g, cap, cur, hv, hg, hb, hn', _, _, _⟩
  · exact absurd h0 hn
  · exact ⟨g, cap, hv, hg, (Array.getElem?_eq_some_iff.1 hb).1, hn'⟩
theorem OwnS.form0 {B : Nat} {w : World} {v : Value} {st : List Int} (h : OwnS B w v st) : ∃ a cap, v = .slice a st.length cap := by
  rcases h.2 with ⟨hv, h0⟩ | ⟨g, cap, cur, hv, _⟩
  · exact ⟨none, 0, by rw [hv, h0]⟩
  · exact ⟨_, _, hv⟩
theorem OwnS.cell {B : Nat} {w : World} {g cap : Nat} {st : List Int} (h : OwnS B w (.slice (some ⟨g, 0, none⟩) st.length cap) st) (j : Nat) (hj : j < st.length) : w.cell? ⟨g, j, none⟩ = some (.int .i64 (st.getD j 0)) := by
  rw [World.ownsRow.cellAt h j (by omega)]
  simp [hj]
theorem OwnS.set {B : Nat} {w : World} {g cap : Nat} {st : List Int} (h : OwnS B w (.slice (some ⟨g, 0, none⟩) st.length cap) st) (j : Nat) (x : Int) : OwnS B (w.setCell ⟨g, j, none⟩ (.int .i64 x)) (.slice (some ⟨g, 0, none⟩) st.length cap) (st.set j x) := by
  have := World.ownsRow.stored h j (.int .i64 x)
  unfold OwnS
  rw [List.length_set, List.map_set]
  exact this.1
theorem OwnS.pop {B : Nat} {w : World} {g cap m : Nat} {st : List Int} (h : OwnS B w (.slice (some ⟨g, 0, none⟩) st.length cap) st) (hm : m ≤ st.length) : OwnS B w (.slice (some ⟨g, 0, none⟩) m cap) (st.take m) := by
  rcases h.2 with ⟨hv, _⟩ | ⟨g', cap', cur, hv, hg, hb, hn, hc, hs, ht⟩
  · cases hv
  · simp only [Value.slice.injEq, Option.some.injEq, Addr.mk.injEq, and_true, true_and] at hv
    obtain ⟨rfl, rfl⟩ := hv
    have hl : (st.take m).length = m := by rw [List.length_take]; omega
    refine ⟨by simp, .inr ⟨g, cap, cur, by rw [hl], hg, hb, by omega, hc, hs, ?_⟩⟩
    rw [hl, List.map_take, ← ht, Nat.mul_one, Nat.mul_one, List.take_take, Nat.min_eq_left hm]
/-- A block that lies aside keeps its cells. -/
theorem grown_cell {w w' : World} {r : Option Nat} (h : w.grownBy w' r) {b j : Nat} (hb : b < w.heap.size) (hne : r ≠ some b) : w'.cell? ⟨b, j, none⟩ = w.cell? ⟨b, j, none⟩ := by
  simp only [World.cell?, h.block b hb (fun e => hne e.symm)]
theorem own_snoc {B : Nat} {w : World} {v : Value} {st : List Int} {o : Int} (h : w.ownsRow B 3 1 v (st.length + 1) ((st.map fun z => .int .i64 z) ++ [.int .i64 o])) : OwnS B w v (st ++ [o]) := by
  unfold OwnS
  rw [List.length_append, List.length_singleton, List.map_append]
  exact h
set_option maxRecDepth 20000 in
set_option maxHeartbeats 16000000 in
theorem spec_shapeOk (w : World) (a : Option Addr) (cap : Nat) (l : List I3) (h : RdI w a l) (hn : l.length ≤ 1048576) :
    Calls Tryz.prog 135 #[.slice a l.length cap] w fun e w' => e = .returned (.bool (shapeOk l)) ∧ Below w.heap.size w w' := by
  obtain ⟨i0, hi, hz0, hz1, hz2⟩ := info_parts info3
  obtain ⟨R, hR⟩ : ∃ R, shapeOk l = R := ⟨_, rfl⟩
  have hF : Hid (shpF l l.length 0 [] = R) := hR
  rw [hR]
  have h' : Hid (RdI w a l) := h
  clear hR h
  go_enter Tryz.func135, Tryz.ntmps135
  go_wp2_with fail
  go_loopw [3, 10] (fun vo vk wr => ∃ (k f : Nat) (st : List Int), k + f = l.length ∧ vk = .int .i64 k ∧ shpF l f k st = R ∧ st.length ≤ k ∧ OwnS w.heap.size wr vo st ∧ Below w.heap.size w wr) (fun _ vk _ => l.length - (intOf vk).toNat)
  case atStart => exact ⟨0, l.length, [], by omega, rfl, hF.out, by simp, World.ownsRow_made w #[] 0 (Nat.le_refl _) (by decide) rfl, (Below.refl _ _).alloc (Nat.le_refl _) _⟩
  case round =>
    obtain ⟨k, f, st, hk, rfl, hr, hst, hown, hbel⟩ := hrel
    have hr' : Hid (shpF l f k st = R) := hr
    have hown' : Hid _ := hown
    have hbel' : Hid (Below w.heap.size w wr) := hbel
    have hsz := hbel.size
    clear hr hF
    by_cases hlt : k < l.length
    · have hlt' : (k : Int) < (l.length : Int) := by omega
      obtain ⟨f, rfl⟩ : ∃ j, f = j + 1 := ⟨f - 1, by omega⟩
      rcases h'.out.later hbel with h0 | ⟨b, off, ha, hc⟩
      · omega
      · obtain ⟨c0, c1, c2⟩ := hc k hlt
        subst ha
        clear hc hbel
        obtain ⟨o, ho⟩ : ∃ o, oAt l k = o := ⟨_, rfl⟩
        have ho' : Hid (oAt l k = o) := ho
        rw [ho] at c0
        generalize aAt l k = x1 at c1
        generalize bAt l k = x2 at c2
        clear ho
        have hbc : Hid _ := fun u => spec_begins o u
        cases hb : bg o with
        | true =>
          obtain ⟨av, cv', hv⟩ := hown.form0
          subst hv
          have e1 : Hid (shpF l (f + 1) k st = shpF l f (k + 1) (st ++ [o])) := shp_bg ho'.out hb
          have n11 : o ≠ 11 := bg_ne hb
          have n5 : o ≠ 5 := by intro e'; subst e'; cases hb
          have hob : o = 2 ∨ o = 3 ∨ o = 4 := (bg_cases o).1 hb
          rw [hb] at hbc
          clear hb hown
          go_wp2_with (first | (go_at_call 151; refine (hbc.out _).mono ?_; rintro e w' ⟨rfl, rfl⟩) | (at_builtin; refine wpList_append_own _ rfl _ _ 182 rfl w.heap.size 3 i0 (.int .i64 0) 1 8 Tryz.underlying182 hi hz0 hz1 hz2 rfl (by decide) _ _ _ rfl ((World.ownsRow.alloc hown'.out _).alloc _) ⟨wr.heap.size + 1, 0, none⟩ 1 1 [Value.int .i64 o] rfl rfl ?c1 ?c2 ?c3 ?c4 ?c5 ?_))
          case c1 =>
            intro j u hj
            match j, hj with
            | 0, hj => simp at hj; subst hj; simp [Addr.add]
          case c2 => intro u hu; simp at hu; subst hu; rfl
          case c3 => unfold maxLen; omega
          case c4 => omega
          case c5 => simp; omega
          intro v' w1 hown1 hgrow _
          have hlt1 := World.ownsRow.lt hown'.out
          have hb1 : Hid (Below w.heap.size w w1) := ((hbel'.out.alloc hsz _).alloc (by simp; omega) _).grown hgrow (by simp; omega) (fun k hk => (hlt1 k hk).1)
          have own2 : Hid (OwnS w.heap.size w1 v' (st ++ [o])) := own_snoc hown1
          have ci : w1.cell? ⟨wr.heap.size, 0, none⟩ = some (.int .i64 o) := by
            rw [grown_cell hgrow (by simp; omega) (fun e => by have := (hlt1 _ e).2; omega)]
            simp
          clear hown1 hgrow hlt1
          go_wp2_with fail
          go_roundw
          case rel => exact ⟨k + 1, f, st ++ [o], by omega, by go_num, by rw [← e1.out]; exact hr'.out, by rw [List.length_append, List.length_singleton]; omega, own2.out, hb1.out⟩
          case measure => simp [intOf]; omega
        | false =>
          rw [hb] at hbc
          by_cases h0 : st.length = 0
          · obtain rfl : st = [] := List.length_eq_zero_iff.1 h0
            obtain ⟨av, cv', hv⟩ := hown.form0
            rw [List.length_nil] at hv
            subst hv
            clear h0 hown
            by_cases h5 : o = 5
            · have e1 : Hid (shpF l (f + 1) k [] = false) := shp_else0 (ho'.out.trans h5) (.inl rfl)
              subst h5
              clear hb
              go_wp2_with (first | (go_at_call 151; refine (hbc.out _).mono ?_; rintro e w' ⟨rfl, rfl⟩))
              go_ret
              exact ⟨by rw [← hr'.out, e1.out]; rfl, hbel'.out.alloc hsz _⟩
            · by_cases h11 : o = 11
              · have e1 : Hid (shpF l (f + 1) k [] = false) := shp_end0 (ho'.out.trans h11) rfl
                subst h11
                clear hb
                go_wp2_with (first | (go_at_call 151; refine (hbc.out _).mono ?_; rintro e w' ⟨rfl, rfl⟩))
                go_ret
                exact ⟨by rw [← hr'.out, e1.out]; rfl, hbel'.out.alloc hsz _⟩
              · have e1 : Hid (shpF l (f + 1) k [] = shpF l f (k + 1) []) := shp_no ho'.out hb h5 h11
                clear hb
                go_wp2_with (first | (go_at_call 151; refine (hbc.out _).mono ?_; rintro e w' ⟨rfl, rfl⟩))
                go_roundw
                case rel => exact ⟨k + 1, f, [], by omega, by go_num, by rw [← e1.out]; exact hr'.out, by rw [List.length_nil]; omega, World.ownsRow.alloc hown'.out _, hbel'.out.alloc hsz _⟩
                case measure => simp [intOf]; omega
          · obtain ⟨g, cap', hv, hgB, hgw, hcap⟩ := hown.form h0
            subst hv
            obtain ⟨m, hm⟩ : ∃ m, st.length = m + 1 := ⟨st.length - 1, by omega⟩
            have hne : g ≠ wr.heap.size := by omega
            by_cases h5 : o = 5
            · have ct := (OwnS.cell hown m (by omega))
              have ft := World.ownsRow.frozenAt hown'.out m
              by_cases h4 : st.getD m 0 = 4
              · have e1 : Hid (shpF l (f + 1) k st = shpF l f (k + 1) (st.set m 5)) := by
                  have := shp_else (f := f) (ho'.out.trans h5) h0 (by rw [hm]; exact h4)
                  rw [hm] at this
                  exact this
                rw [h4] at ct
                have hset : Hid (OwnS w.heap.size ((wr.setCell ⟨g, m, none⟩ (.int .i64 5)).alloc (.cells #[.int .i64 5, .int .i64 x1, .int .i64 x2] 174)) (.slice (some ⟨g, 0, none⟩) st.length cap') (st.set m 5)) := World.ownsRow.alloc (OwnS.set hown'.out m 5) _
                have hls : (st.set m 5).length = st.length := List.length_set
                rw [hm] at hset
                have hset' : Hid _ := hset.out
                subst h5
                clear hb hown h4 hset
                rw [hm]
                go_wp2_with (first | (go_at_call 151; refine (hbc.out _).mono ?_; rintro e w' ⟨rfl, rfl⟩))
                go_roundw
                case rel => exact ⟨k + 1, f, st.set m 5, by omega, by go_num, by rw [← e1.out]; exact hr'.out, by omega, hset'.out, (hbel'.out.setCell hgB _).alloc (by simp; omega) _⟩
                case measure => simp [intOf]; omega
              · have e1 : Hid (shpF l (f + 1) k st = false) := shp_else0 (ho'.out.trans h5) (.inr (by rw [hm]; exact h4))
                generalize st.getD m 0 = top at *
                have h4' : (top != 4) = true := by simp [h4]
                subst h5
                clear hb hown h4
                rw [hm]
                go_wp2_with (first | (go_at_call 151; refine (hbc.out _).mono ?_; rintro e w' ⟨rfl, rfl⟩))
                go_ret
                exact ⟨by rw [← hr'.out, e1.out]; rfl, hbel'.out.alloc hsz _⟩
            · by_cases h11 : o = 11
              · have e1 : Hid (shpF l (f + 1) k st = shpF l f (k + 1) (st.take m)) := by
                  have := shp_end (f := f) (ho'.out.trans h11) h0
                  rw [hm] at this
                  exact this
                have hpop : Hid (OwnS w.heap.size (wr.alloc (.cells #[.int .i64 11, .int .i64 x1, .int .i64 x2] 174)) (.slice (some ⟨g, 0, none⟩) m cap') (st.take m)) := OwnS.pop (World.ownsRow.alloc hown'.out _) (by omega)
                have hlt2 : (st.take m).length = m := by rw [List.length_take]; omega
                subst h11
                clear hb hown
                rw [hm] at hcap
                rw [hm]
                go_wp2_with (first | (go_at_call 151; refine (hbc.out _).mono ?_; rintro e w' ⟨rfl, rfl⟩))
                go_roundw
                case rel => exact ⟨k + 1, f, st.take m, by omega, by go_num, by rw [← e1.out]; exact hr'.out, by omega, hpop.out, hbel'.out.alloc hsz _⟩
                case measure => simp [intOf]; omega
              · have e1 : Hid (shpF l (f + 1) k st = shpF l f (k + 1) st) := shp_no ho'.out hb h5 h11
                clear hb hown
                go_wp2_with (first | (go_at_call 151; refine (hbc.out _).mono ?_; rintro e w' ⟨rfl, rfl⟩))
                go_roundw
                case rel => exact ⟨k + 1, f, st, by omega, by go_num, by rw [← e1.out]; exact hr'.out, by omega, by first | (rw [← hm]; exact World.ownsRow.alloc hown'.out _) | exact World.ownsRow.alloc hown'.out _, hbel'.out.alloc hsz _⟩
                case measure => simp [intOf]; omega
    · obtain rfl : k = l.length := by omega
      obtain rfl : f = 0 := by omega
      obtain ⟨av, cv', hv⟩ := hown.form0
      subst hv
      clear hown hbel
      go_wp2_with fail
      go_ret
      refine ⟨?_, hbel'.out⟩
      rw [← hr'.out]
      refine congrArg (fun x => Ending.returned (.bool x)) (?_ : (_ : Bool) = _)
      unfold shpF
      rw [Bool.eq_iff_iff]
      simp
end Go.Proofs.YtffngjgjhialnaaGreatDoor.ShapeCalls
