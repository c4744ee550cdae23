/-
  What the specification's cut of a text answers when it is called.
-/
import Derived.Test.YtjbhelcdakhjbaaDoorPlainCut
import Derived.Test.YtjbhelcdakhjbaaDoorInsMem
import Derived.Deep.OwnRows
import Derived.OwnWalk
namespace Go.Proofs.YtjbhelcdakhjbaaDoor.CutCalls
open Go.RowKit PlainOps PlainCut InsMem

/-- A row of texts of one's own. -/
abbrev OwnT (B : Nat) (w : World) (v : Value) (ls : List (List UInt8)) : Prop := w.ownsRow B 9 1 v ls.length (ls.map fun l => .string (tx l))
theorem info9 : (Tryd.prog.info? 9).map (fun i => (i.zero, i.size, i.bytes)) = some (some (.string ⟨#[]⟩), 1, 16) := by kernel_rfl
theorem ownT_snoc {B : Nat} {w : World} {v : Value} {ls : List (List UInt8)} {t : List UInt8} (h : w.ownsRow B 9 1 v (ls.length + 1) ((ls.map fun l => .string (tx l)) ++ [.string (tx t)])) : OwnT B w v (ls ++ [t]) := by
  unfold OwnT
  rw [List.length_append, List.map_append]
  exact h
theorem ownT_form {B : Nat} {w : World} {v : Value} {ls : List (List UInt8)} (h : OwnT B w v ls) : ∃ a cap, v = .slice a ls.length cap := by
  rcases h.2 with ⟨hv, h0⟩ | ⟨g, cap, _, hv, _⟩
  · exact ⟨none, 0, by rw [hv, h0]⟩
  · exact ⟨_, cap, hv⟩
theorem one_new (w : World) (v : Value) (t : TypeId) : ∀ j u, [v][j]? = some u → (w.alloc (.cells #[v] t)).cell? ((⟨w.heap.size, 0, none⟩ : Addr).add j) = some u := by
  intro j u hj
  match j, hj with
  | 0, hj => simp at hj; subst hj; simp [Addr.add]
theorem one_cell {s : ByteArray} : ∀ u ∈ [Value.string s], u.oneCell' = true := by intro u hu; simp at hu; subst hu; rfl
theorem ext_tx (s : ByteArray) (a b : Nat) (_ : a ≤ b) (_ : b ≤ s.size) : s.extract a b = tx ((s.data.toList.drop a).take (b - a)) := by
  unfold tx
  apply ByteArray.ext
  apply Array.ext'
  rw [ByteArray.data_extract, Array.toList_extract]
/-- How far a cut has come: what is done, what is begun at 'from', what is still to be cut. -/
def Cut (c : UInt8) (l : List UInt8) (done : List (List UInt8)) (fr i : Nat) : Prop := ∃ h t, cutL c (l.drop i) = h :: t ∧ cutL c l = done ++ ((((l.drop fr).take (i - fr)) ++ h) :: t)
theorem cut_start (c : UInt8) (l : List UInt8) : Cut c l [] 0 0 := by
  cases hc : cutL c l with
  | nil => exact absurd hc (cutL_ne c l)
  | cons a t => exact ⟨a, t, by simpa using hc, by simpa using hc⟩
theorem cut_yes {c : UInt8} {l : List UInt8} {done : List (List UInt8)} {fr i : Nat} (h : Cut c l done fr i) (hc : l[i]? = some c) : Cut c l (done ++ [(l.drop fr).take (i - fr)]) (i + 1) (i + 1) := by
  obtain ⟨a, t, e1, e2⟩ := h
  have hi : i < l.length := (List.getElem?_eq_some_iff.1 hc).1
  have hx : l[i] = c := (List.getElem?_eq_some_iff.1 hc).2
  rw [List.drop_eq_getElem_cons hi, hx, cutL_sep] at e1
  injection e1 with e3 e4
  cases hr : cutL c (l.drop (i + 1)) with
  | nil => exact absurd hr (cutL_ne c _)
  | cons b q =>
    refine ⟨b, q, hr, ?_⟩
    rw [e2, ← e3, ← e4, hr]
    simp
theorem cut_no {c x : UInt8} {l : List UInt8} {done : List (List UInt8)} {fr i : Nat} (h : Cut c l done fr i) (hf : fr ≤ i) (hc : l[i]? = some x) (hx : x ≠ c) : Cut c l done fr (i + 1) := by
  obtain ⟨a, t, e1, e2⟩ := h
  have hi : i < l.length := (List.getElem?_eq_some_iff.1 hc).1
  have hxx : l[i] = x := (List.getElem?_eq_some_iff.1 hc).2
  rw [List.drop_eq_getElem_cons hi, hxx] at e1
  obtain ⟨b, q, e3, e4⟩ := cutL_other hx (l.drop (i + 1))
  rw [e4] at e1
  injection e1 with e5 e6
  refine ⟨b, q, e3, ?_⟩
  rw [e2, ← e5, ← e6]
  have hd : (l.drop fr).take (i + 1 - fr) = (l.drop fr).take (i - fr) ++ [x] := by
    rw [show i + 1 - fr = (i - fr) + 1 by omega, List.take_add_one]
    rw [List.getElem?_drop, show fr + (i - fr) = i by omega, hc]
    rfl
  rw [hd]
  simp
theorem cut_end {c : UInt8} {l : List UInt8} {done : List (List UInt8)} {fr : Nat} (h : Cut c l done fr l.length) : cutL c l = done ++ [l.drop fr] := by
  obtain ⟨a, t, e1, e2⟩ := h
  rw [List.drop_length] at e1
  simp [cutL] at e1
  obtain ⟨rfl, rfl⟩ := e1
  rw [e2, List.append_nil, List.take_of_length_le (by simp)]
set_option maxHeartbeats 4000000 in
theorem spec_cut (s : ByteArray) (c : UInt8) (w : World) (hs : s.size ≤ 1048576) :
    Calls Tryd.prog 9 #[.string s, .int .u8 (c.toNat : Int)] w fun e w' => ∃ v, e = .returned v ∧ OwnT w.heap.size w' v (cutL c s.data.toList) ∧ Below w.heap.size w w' := by
  obtain ⟨i0, hi, hz0, hz1, hz2⟩ := info_parts info9
  obtain ⟨l, hl⟩ : ∃ l, s.data.toList = l := ⟨_, rfl⟩
  have hsz : l.length = s.size := by rw [← hl]; rfl
  have hl' : Hid (s.data.toList = l) := hl
  rw [hl]
  clear hl
  go_enter Tryd.func9, Tryd.ntmps9
  go_wp2_with fail
  go_loopw [5, 6, 7] (fun vo vf vi wr => ∃ (done : List (List UInt8)) (fr i : Nat), fr ≤ i ∧ i ≤ l.length ∧ done.length ≤ i ∧ vf = .int .i64 fr ∧ vi = .int .i64 i ∧ Cut c l done fr i ∧ OwnT w.heap.size wr vo done ∧ Below w.heap.size w wr) (fun _ _ vi _ => l.length - (intOf vi).toNat)
  case atStart => exact ⟨[], 0, 0, Nat.le_refl _, Nat.zero_le _, Nat.le_refl _, rfl, rfl, cut_start c l, World.ownsRow_made w #[] 0 (Nat.le_refl _) (by decide) rfl, (Below.refl _ _).alloc (Nat.le_refl _) _⟩
  case round =>
    obtain ⟨done, fr, i, hfi, hil, hdl, rfl, rfl, hcut, hown, hbel⟩ := hrel
    have hcut' : Hid (Cut c l done fr i) := hcut
    obtain ⟨av, cv, rfl⟩ := ownT_form hown
    have hown' : Hid (OwnT w.heap.size wr (.slice av done.length cv) done) := hown
    have hbel' : Hid (Below w.heap.size w wr) := hbel
    have hwz := hbel.size
    clear hcut hbel hown
    by_cases hlt : i < l.length
    · have hlt' : (i : Int) < (s.size : Int) := by omega
      have hlt2 : i < s.size := by omega
      obtain ⟨x, hx, hxi⟩ : ∃ x : UInt8, l[i]? = some x ∧ s[i]'hlt2 = x := ⟨l[i], List.getElem?_eq_getElem hlt, by simp only [← hl'.out]; rfl⟩
      by_cases hxc : x = c
      · subst hxc
        have hstep : Hid (Cut x l (done ++ [(l.drop fr).take (i - fr)]) (i + 1) (i + 1)) := cut_yes hcut'.out hx
        have he : s.extract fr i = tx ((l.drop fr).take (i - fr)) := by rw [← hl'.out]; exact ext_tx s fr i hfi (by omega)
        generalize (l.drop fr).take (i - fr) = t at *
        clear hcut' hx
        have f1 : (fr : Int) ≤ (i : Int) := by omega
        go_wp2_with (at_builtin; refine wpList_append_own _ rfl _ _ 28 rfl w.heap.size 9 i0 (.string ⟨#[]⟩) 1 16 Tryd.underlying28 hi hz0 hz1 hz2 rfl (by decide) _ _ _ rfl (World.ownsRow.alloc hown'.out _) ⟨wr.heap.size, 0, none⟩ 1 1 [Value.string (tx t)] rfl rfl (one_new _ _ _) one_cell (by unfold maxLen; omega) (by omega) (by simp; omega) ?_)
        intro v' w1 hown1 hgrow _
        have hlt1 := World.ownsRow.lt hown'.out
        have hb1 : Hid (Below w.heap.size w w1) := (hbel'.out.alloc hwz _).grown hgrow (by simp; omega) (fun k hk => (hlt1 k hk).1)
        have own2 : Hid (OwnT w.heap.size w1 v' (done ++ [t])) := ownT_snoc hown1
        clear hown1 hgrow hlt1
        go_wp2_with fail
        go_roundw
        case rel => exact ⟨done ++ [t], i + 1, i + 1, Nat.le_refl _, by omega, by simp; omega, by go_num, by go_num, hstep.out, own2.out, hb1.out⟩
        case measure => simp [intOf]; omega
      · have hstep : Hid (Cut c l done fr (i + 1)) := cut_no hcut'.out hfi hx hxc
        have hne : ((x.toNat : Int) == (c.toNat : Int)) = false := beq_eq_false_iff_ne.2 (fun e => hxc (UInt8.toNat_inj.1 (by omega)))
        clear hcut' hx hxc
        go_wp2_with fail
        go_roundw
        case rel => exact ⟨done, fr, i + 1, by omega, by omega, by omega, rfl, by go_num, hstep.out, hown'.out, hbel'.out⟩
        case measure => simp [intOf]; omega
    · obtain rfl : i = l.length := by omega
      have hend : Hid (cutL c l = done ++ [l.drop fr]) := cut_end hcut'.out
      have he : s.extract fr s.size = tx (l.drop fr) := by
        rw [← hl'.out, ext_tx s fr s.size (by omega) (Nat.le_refl _), List.take_of_length_le (by rw [List.length_drop]; exact Nat.le_refl _)]
      have hnl : ¬ ((l.length : Int) < (s.size : Int)) := by omega
      generalize l.drop fr = t at *
      have f1 : (fr : Int) ≤ (s.size : Int) := by omega
      clear hcut'
      go_wp2_with (at_builtin; refine wpList_append_own _ rfl _ _ 28 rfl w.heap.size 9 i0 (.string ⟨#[]⟩) 1 16 Tryd.underlying28 hi hz0 hz1 hz2 rfl (by decide) _ _ _ rfl (World.ownsRow.alloc hown'.out _) ⟨wr.heap.size, 0, none⟩ 1 1 [Value.string (tx t)] rfl rfl (one_new _ _ _) one_cell (by unfold maxLen; omega) (by omega) (by simp; omega) ?_)
      intro v' w1 hown1 hgrow _
      have hlt1 := World.ownsRow.lt hown'.out
      have hb1 : Hid (Below w.heap.size w w1) := (hbel'.out.alloc hwz _).grown hgrow (by simp; omega) (fun k hk => (hlt1 k hk).1)
      have own2 : Hid (OwnT w.heap.size w1 v' (done ++ [t])) := ownT_snoc hown1
      clear hown1 hgrow hlt1
      go_wp2_with fail
      go_ret
      exact ⟨v', rfl, by rw [hend.out]; exact own2.out, hb1.out⟩
end Go.Proofs.YtjbhelcdakhjbaaDoor.CutCalls
