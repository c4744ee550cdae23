/-
  What the program's Sections answers when it is called.
-/
import Derived.Test.YthjgmjhgpjgdlabSecRead
import Derived.Test.YthjgmjhgpjgdlabAttemptSec
namespace Go.Proofs.Ythjgmjhgpjgdlab.SecImpl
open Go.RowKit PlainNum PlainLeb PlainGet PlainRd PlainSec NumCalls ByteMem PutU Reader ReadNum SecRd SecAll SecRead AttemptSec

set_option maxRecDepth 20000 in
theorem sections1 (q : Nat) (u : World) (b off cap : Nat) (bs : List UInt8) (hs : Src u b off cap bs) (hq : u.cell? ⟨q, 0, none⟩ = some (.slice (some ⟨b, off, none⟩) bs.length cap)) (hl : bs.length ≤ 1048576) :
    Calls Try.prog 14 #[.pointer (some ⟨q, 0, none⟩)] u fun e w' => ((∃ l v, ansSec bs = some (l.map (·.1)) ∧ e = .returned v ∧ OwnS u.heap.size w' v l) ∨ (ansSec bs = none ∧ e = gave (if bs.take 8 = hd then 2 else 1))) ∧ Below u.heap.size u w' := by
  have hI : Hid (Calls Try.prog 15 #[.slice (some ⟨b, off, none⟩) bs.length cap] u fun e w' => ((∃ l v, ansSec bs = some (l.map (·.1)) ∧ e = .returned v ∧ OwnS u.heap.size w' v l) ∨ (ansSec bs = none ∧ e = gave (if bs.take 8 = hd then 2 else 1))) ∧ Below u.heap.size u w') := readSections u b off cap bs hs hl
  generalize (if bs.take 8 = hd then (2 : Int) else 1) = c at *
  clear hs
  go_enter Try.func14, Try.ntmps14
  go_wp2_with (go_at_call 15; refine hI.out.mono ?_; rintro e w1 ⟨hp, b1⟩; have hp' : Hid ((∃ l v, ansSec bs = some (l.map (·.1)) ∧ e = .returned v ∧ OwnS u.heap.size w1 v l) ∨ (ansSec bs = none ∧ e = gave c)) := hp; clear hp; rcases hp'.out with ⟨l, v, hR, rfl, ho⟩ | ⟨hR, rfl⟩)
  · go_ret
    exact ⟨.inl ⟨l, v, hR, rfl, ho⟩, b1⟩
  · exact ⟨rfl, .inr ⟨hR, rfl⟩, b1⟩
theorem sec_attempt (q : Nat) (w : World) (b off cap : Nat) (bs : List UInt8) (hs : Src w b off cap bs) (hq : w.cell? ⟨q, 0, none⟩ = some (.slice (some ⟨b, off, none⟩) bs.length cap)) (hl : bs.length ≤ 1048576) :
    Calls Try.prog 13 #[.func (.func 14) #[] #[.pointer (some ⟨q, 0, none⟩)]] w fun e w' => ((∃ l v, ansSec bs = some (l.map (·.1)) ∧ e = .returned (.tuple #[v, .int .i64 0]) ∧ OwnS w.heap.size w' v l) ∨ (ansSec bs = none ∧ e = .returned (.tuple #[.slice none 0 0, .int .i64 (if bs.take 8 = hd then 2 else 1)]))) ∧ Below w.heap.size w w' := by
  have hb : Below w.heap.size w (w.alloc (.cells #[.int .i64 0] 3)) := (Below.refl _ _).alloc (Nat.le_refl _) _
  have h1 := sections1 q (w.alloc (.cells #[.int .i64 0] 3)) b off cap bs (hs.later hb) (by rw [hb.cell (World.block_lt_of_cell? w _ hq)]; exact hq) hl
  rw [World.size_alloc] at h1
  cases hR : ansSec bs with
  | none =>
    rw [hR] at h1
    refine (attempt_no q w (if bs.take 8 = hd then 2 else 1) (h1.mono ?_)).mono ?_
    · rintro e w' ⟨⟨_, _, h, _⟩ | ⟨_, rfl⟩, hb'⟩
      · cases h
      · exact ⟨rfl, hb'⟩
    · rintro e w' ⟨rfl, hb'⟩
      exact ⟨.inr ⟨rfl, rfl⟩, hb'⟩
  | some ids =>
    rw [hR] at h1
    refine (attempt_yes q w (fun v w' => ∃ l, ids = l.map (·.1) ∧ OwnS (w.heap.size + 1) w' v l) (h1.mono ?_)).mono ?_
    · rintro e w' ⟨⟨l', v, h, rfl, ho⟩ | ⟨h, _⟩, hb'⟩
      · exact ⟨v, rfl, ⟨l', Option.some.inj h, ho⟩, hb'⟩
      · cases h
    · rintro e w' ⟨v, w1, rfl, ⟨l, hl', ho⟩, hb', rfl⟩
      exact ⟨.inl ⟨l, v, by rw [hl'], rfl, OwnS.lower (ownsRow_setCell_below ho (a := ⟨w.heap.size, 0, none⟩) (by show w.heap.size < w.heap.size + 1; omega) _) (by omega)⟩, hb.trans ((hb'.mono (B' := w.heap.size) (by omega)).setCell (p := ⟨w.heap.size, 0, none⟩) (Nat.le_refl _) _)⟩
/-- Numbers of one's own. -/
def OwnN (B : Nat) (w : World) (v : Value) (l : List Int) : Prop := w.ownsRow B 3 1 v l.length (l.map fun z => .int .i64 z)
theorem infoN : (Try.prog.info? 3).map (fun i => (i.zero, i.size, i.bytes)) = some (some (.int .i64 0), 1, 8) := by kernel_rfl
theorem OwnN.form {B : Nat} {w : World} {v : Value} {l : List Int} (h : OwnN B w v l) : ∃ a cap N, v = .slice a N cap ∧ Hid (N = l.length) := by
  rcases h.2 with ⟨hv, h0⟩ | ⟨g, cap, cur, hv, _⟩
  · exact ⟨none, 0, 0, hv, h0.symm⟩
  · exact ⟨_, _, _, hv, rfl⟩
theorem OwnN.lower {B B' : Nat} {w : World} {v : Value} {l : List Int} (h : OwnN B w v l) (hB : B' ≤ B) : OwnN B' w v l := by
  refine ⟨h.1, ?_⟩
  rcases h.2 with h0 | ⟨g, cap, cur, hv, hg, r⟩
  · exact .inl h0
  · exact .inr ⟨g, cap, cur, hv, Nat.le_trans hB hg, r⟩
theorem OwnN.below {B : Nat} {w w' : World} {v : Value} {l : List Int} (h : OwnN B w v l) (hb : Below w.heap.size w w') : OwnN B w' v l := by
  refine ⟨h.1, ?_⟩
  rcases h.2 with h0 | ⟨g, cap, cur, hv, hg, hh, r⟩
  · exact .inl h0
  · exact .inr ⟨g, cap, cur, hv, hg, (hb.block g (Array.getElem?_eq_some_iff.1 hh).1).trans hh, r⟩
theorem wp_appN {ops : Array Oper} {rest : List Oper} {o : Oper} {a : Act} {Q : Exit → Act → World → Prop} {B : Nat} {w : World} {v : Value} {l : List Int} (hg : o.guard = none) (s x : Operand)
    (ho : o.op = .call { callee := .builtin .append, args := #[s, x], argTypes := #[23, 23] }) (D : OwnN B w v l) (hB : B ≤ w.heap.size) (z : Int) (hl : l.length ≤ 10000000) (hs : a.eval s = v) (t : TypeId) (g : Nat) (hgs : g = w.heap.size)
    (hx : a.eval x = .slice (some ⟨g, 0, none⟩) 1 1)
    (h : ∀ g' cap' N w', N = (l ++ [z]).length → OwnN B w' (.slice (some ⟨g', 0, none⟩) N cap') (l ++ [z]) → (w.alloc (.cells #[.int .i64 z] t)).grownBy w' v.ownBlock → wpList Try.prog ops Q rest (a.put o.dst (.slice (some ⟨g', 0, none⟩) N cap')) w') :
    wpList Try.prog ops Q (o :: rest) a (w.alloc (.cells #[.int .i64 z] t)) := by
  obtain ⟨i0, hi, hz0, hz1, hz2⟩ := info_parts infoN
  subst hgs
  refine wpList_append_own _ hg s x 23 ho B 3 i0 _ 1 8 Try.underlying23 hi hz0 hz1 hz2 rfl (by decide) v l.length _ hs (World.ownsRow.alloc D _) ⟨w.heap.size, 0, none⟩ 1 1 [.int .i64 z] hx rfl (cell_one_new _ _ _) (by simp [Value.oneCell']) (by unfold maxLen; omega) (by omega) (by simp; omega) ?_
  intro v' w' ho' hgr _
  have hown : OwnN B w' v' (l ++ [z]) := by
    unfold OwnN
    rw [List.length_append, List.map_append]
    exact ho'
  rcases hown.2 with ⟨_, h0⟩ | ⟨g', cap', cur, hv, _⟩
  · simp at h0
  · subst hv
    exact h g' cap' _ w' rfl hown hgr
theorem cellsS_at : ∀ (l : List S2) (j : Nat) (x : S2), l[j]? = some x → (cellsS l)[j * 2]? = some (.int .i64 x.1) ∧ (cellsS l)[j * 2 + 1]? = some (.pointer (some ⟨x.2, 0, none⟩))
  | [], j, x, h => by simp at h
  | y :: l, 0, x, h => by
    simp at h
    subst h
    exact ⟨rfl, rfl⟩
  | y :: l, j + 1, x, h => by
    have := cellsS_at l j x (by simpa using h)
    have e : cellsS (y :: l) = [.int .i64 y.1, .pointer (some ⟨y.2, 0, none⟩)] ++ cellsS l := rfl
    rw [e]
    refine ⟨?_, ?_⟩
    · rw [List.getElem?_append_right (by simp; omega), show (j + 1) * 2 - [Value.int .i64 y.1, .pointer (some ⟨y.2, 0, none⟩)].length = j * 2 by simp; omega]; exact this.1
    · rw [List.getElem?_append_right (by simp; omega), show (j + 1) * 2 + 1 - [Value.int .i64 y.1, .pointer (some ⟨y.2, 0, none⟩)].length = j * 2 + 1 by simp; omega]; exact this.2
set_option maxHeartbeats 2000000 in
set_option maxRecDepth 20000 in
theorem impl_sections (w : World) (b off cap : Nat) (bs : List UInt8) (hs : Src w b off cap bs) (hl : bs.length ≤ 1048576) (hids : ∀ ids, ansSec bs = some ids → ids.length ≤ 1048576) :
    Calls Try.prog 6 #[.slice (some ⟨b, off, none⟩) bs.length cap] w fun e w' => ((∃ ids v, ansSec bs = some ids ∧ e = .returned (.tuple #[v, .bool true]) ∧ OwnN w.heap.size w' v ids) ∨ (ansSec bs = none ∧ e = .returned (.tuple #[.slice none 0 0, .bool false]))) ∧ Below w.heap.size w w' := by
  have hb : Below w.heap.size w (w.alloc (.cells #[.slice (some ⟨b, off, none⟩) bs.length cap] 22)) := (Below.refl _ _).alloc (Nat.le_refl _) _
  have h1 := sec_attempt w.heap.size (w.alloc (.cells #[.slice (some ⟨b, off, none⟩) bs.length cap] 22)) b off cap bs (hs.later hb) (by simp) hl
  have hmf : ∀ (fn : Fn) (first cap : Array Value) (w : World), (Instr.makeFunc fn first cap).run Try.prog w = .ok (.func fn first cap) w := fun _ _ _ _ => rfl
  cases hR : ansSec bs with
  | none =>
    rw [hR] at h1
    have hc : (if bs.take 8 = hd then (2 : Int) else 1) = 2 ∨ (if bs.take 8 = hd then (2 : Int) else 1) = 1 := by split <;> simp
    generalize (if bs.take 8 = hd then (2 : Int) else 1) = c at *
    have hC : Hid (Calls Try.prog 13 #[.func (.func 14) #[] #[.pointer (some ⟨w.heap.size, 0, none⟩)]] (w.alloc (.cells #[.slice (some ⟨b, off, none⟩) bs.length cap] 22)) fun e w' => e = .returned (.tuple #[.slice none 0 0, .int .i64 c]) ∧ Below w.heap.size w w') := h1.mono (by
      rintro e w' ⟨⟨_, _, h, _⟩ | ⟨_, rfl⟩, hb2⟩
      · cases h
      · exact ⟨rfl, hb.trans (hb2.mono (by simp))⟩)
    clear h1 hs hb hids
    rcases hc with rfl | rfl
    all_goals
      go_enter Try.func6, Try.ntmps6
      go_wp2_with (go_at_call 13; refine hC.out.mono ?_; rintro e w1 ⟨rfl, b1⟩)
      go_ret2
      refine ⟨.inr ?_, b1⟩
      first
        | exact ⟨trivial, rfl⟩
        | exact ⟨rfl, rfl⟩
  | some ids =>
    rw [hR] at h1
    have hil := hids ids hR
    have hC : Hid (Calls Try.prog 13 #[.func (.func 14) #[] #[.pointer (some ⟨w.heap.size, 0, none⟩)]] (w.alloc (.cells #[.slice (some ⟨b, off, none⟩) bs.length cap] 22)) fun e w' => ∃ (l : List S2) (a : Option Addr) (c : Nat), e = .returned (.tuple #[.slice a ids.length c, .int .i64 0]) ∧ (l.length = ids.length ∧ l.map (·.1) = ids ∧ (ids.length = 0 ∨ ∃ g, a = some ⟨g, 0, none⟩ ∧ ∀ j x, l[j]? = some x → w'.cell? ⟨g, j * 2, none⟩ = some (.int .i64 x.1) ∧ w'.cell? ⟨g, j * 2 + 1, none⟩ = some (.pointer (some ⟨x.2, 0, none⟩)))) ∧ Below w.heap.size w w') := h1.mono (by
      rintro e w' ⟨⟨l, v, h, rfl, ho⟩ | ⟨h, _⟩, hb2⟩
      · have hi := Option.some.inj h
        have hlen : l.length = ids.length := by rw [hi, List.length_map]
        rcases ho.2 with ⟨hv, h0⟩ | ⟨g, cp, cur, hv, hg, hh, r⟩
        · exact ⟨l, none, 0, by rw [hv, ← hlen, h0], ⟨hlen, hi.symm, .inl (by omega)⟩, hb.trans (hb2.mono (by simp))⟩
        · refine ⟨l, some ⟨g, 0, none⟩, cp, by rw [hv, hlen], ⟨hlen, hi.symm, .inr ⟨g, rfl, fun j x hx => ?_⟩⟩, hb.trans (hb2.mono (by simp))⟩
          have hc := World.ownsRow.cells ho (g := g) (by rw [hv]; rfl)
          obtain ⟨c0, c1⟩ := cellsS_at l j x hx
          have d0 := hc _ _ c0
          have d1 := hc _ _ c1
          rw [add_n, Nat.zero_add] at d0 d1
          exact ⟨d0, d1⟩
      · cases h)
    clear h1 hs hb hids hR
    go_enter Try.func6, Try.ntmps6
    go_wp2_with (go_at_call 13; refine hC.out.mono ?_; rintro e w1 ⟨l, a1, c1, rfl, hq, b1⟩; have hq' : Hid (l.length = ids.length ∧ l.map (·.1) = ids ∧ (ids.length = 0 ∨ ∃ g, a1 = some ⟨g, 0, none⟩ ∧ ∀ j x, l[j]? = some x → w1.cell? ⟨g, j * 2, none⟩ = some (.int .i64 x.1) ∧ w1.cell? ⟨g, j * 2 + 1, none⟩ = some (.pointer (some ⟨x.2, 0, none⟩)))) := hq; have b1' : Hid (Below w.heap.size w w1) := b1; clear hq b1 hC)
    go_loopw [6, 18] (fun vn vk wr => ∃ k : Nat, k ≤ ids.length ∧ vk = .int .i64 k ∧ OwnN w1.heap.size wr vn (ids.take k) ∧ Below w1.heap.size w1 wr) (fun _ vk _ => ids.length - (intOf vk).toNat)
    case atStart => exact ⟨0, Nat.zero_le _, rfl, World.ownsRow_nil _ _ _ _, Below.refl _ _⟩
    case round =>
      obtain ⟨k, hk, rfl, hown, hbel⟩ := hrel
      obtain ⟨an, capn, N, rfl, hN⟩ := hown.form
      have hown' : Hid (OwnN w1.heap.size wr (.slice an N capn) (ids.take k)) := hown
      have hbel' : Hid (Below w1.heap.size w1 wr) := hbel
      have hsz := hbel.size
      by_cases hlt : k < ids.length
      · have hlt' : (k : Int) < (ids.length : Int) := by omega
        obtain ⟨hl1, hm1, hcell⟩ := hq'.out
        rcases hcell with h0 | ⟨g, ha, hc⟩
        · omega
        · obtain ⟨x, hx⟩ : ∃ x, l[k]? = some x := ⟨_, List.getElem?_eq_getElem (by omega)⟩
          obtain ⟨c0, d0⟩ := hc k x hx
          have hgl : g < w1.heap.size := World.block_lt_of_cell? w1 _ c0
          rw [← hbel.cell hgl] at c0 d0
          have hz : Hid (ids.take k ++ [x.1] = ids.take (k + 1)) := by
            show _ = _
            have e : ids[k]? = some x.1 := by rw [← hm1, List.getElem?_map, hx]; rfl
            rw [List.take_add_one, e]
            rfl
          subst ha
          obtain ⟨z, pz⟩ := x
          simp only at c0 d0 hz
          clear hc hx hown hbel hl1 hm1
          go_wp2_with (at_builtin; refine wp_appN rfl _ _ rfl (hown'.out.below ((Below.refl _ _).alloc (Nat.le_refl _) _)) (by simp; omega) z (by simp; omega) rfl _ _ (by simp) rfl ?_; intro g3 cap3 N3 w3 hN3 o3 q3; have hrow : ∀ k, (Value.slice an N capn).ownBlock = some k → w1.heap.size ≤ k := fun k e => (World.ownsRow.lt hown'.out k e).1; have b3 : Hid (Below w1.heap.size w1 w3) := ((hbel'.out.alloc hsz _).alloc (by simp; omega) _).grown q3 (by simp; omega) hrow; have o3' : Hid (OwnN w1.heap.size w3 (.slice (some ⟨g3, 0, none⟩) N3 cap3) (ids.take k ++ [z])) := o3; clear o3 q3 hrow hN3)
          go_roundw
          case rel => exact ⟨k + 1, by omega, by go_num, by rw [← hz.out]; exact o3'.out, b3.out⟩
          case measure => simp [intOf]; omega
      · obtain rfl : k = ids.length := by omega
        clear hown hbel
        go_wp2_with fail
        go_ret2
        have hO := hown'.out
        rw [List.take_length] at hO
        have hO2 := hO.lower (B' := w.heap.size) b1'.out.size
        have hB2 := b1'.out.trans (hbel'.out.mono b1'.out.size)
        refine ⟨.inl ?_, hB2⟩
        first
          | exact ⟨ids, _, rfl, rfl, hO2⟩
          | exact ⟨_, rfl, hO2⟩
          | (refine ⟨ids, rfl, ?_⟩; simpa using hO2)
end Go.Proofs.Ythjgmjhgpjgdlab.SecImpl
