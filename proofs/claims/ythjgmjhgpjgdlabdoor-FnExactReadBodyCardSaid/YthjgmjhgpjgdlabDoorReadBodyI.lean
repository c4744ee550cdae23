/-
  What the program's ReadBody answers when it is called.
-/
import Derived.Test.YthjgmjhgpjgdlabDoorRdAllI
import Derived.Test.YthjgmjhgpjgdlabDoorAttempt
import Derived.Test.YthjgmjhgpjgdlabDoorEveryIns
namespace Go.Proofs.YthjgmjhgpjgdlabDoor.ReadBodyI
open Go.RowKit PlainOps NameCalls PlainNum PlainLeb PlainGet PlainRd PlainIns NumCalls ByteMem PutU Reader ReadNum InsCalls PlainShape InsMem RdOne OwnIns RdAllI Attempt PlainAll EveryIns

/-- The instructions that bytes make, where they are right and not too many. -/
def ansB (bs : List UInt8) : Option (List I3) :=
  match rdAll bs.length bs with
  | none => none
  | some l => if l.length ≤ 1500 ∧ allF l l.length 0 = true then some l else none
/-- A slice that holds the bytes bs. -/
structure Src (w : World) (b off cap : Nat) (bs : List UInt8) : Prop where
  rd : ∀ j, j < bs.length → w.cell? ⟨b, off + j, none⟩ = some (.int .u8 ((bs[j]?.getD 0).toNat : Int))
  le : bs.length ≤ cap
  lt : b < w.heap.size
theorem Src.later {w w' : World} {b off cap : Nat} {bs : List UInt8} (h : Src w b off cap bs) (hb : Below w.heap.size w w') : Src w' b off cap bs :=
  ⟨fun j hj => by rw [hb.cell h.lt]; exact h.rd j hj, h.le, Nat.lt_of_lt_of_le h.lt hb.size⟩
theorem Src.reader {w : World} {b off cap : Nat} {bs : List UInt8} (h : Src w b off cap bs) (c : Int) : RdX (w.alloc (.cells #[.slice (some ⟨b, off, none⟩) bs.length cap, .int .i64 c] 59)) w.heap.size c b bs :=
  ⟨off, cap, World.alloc_heap_new w _, fun j hj => by rw [((Below.refl w.heap.size w).alloc (Nat.le_refl _) _).cell h.lt]; exact h.rd j hj, h.le, h.lt⟩
theorem cells_at : ∀ (l : List I3) (j : Nat), j < l.length → (cellsI l)[j * 3]? = some (.int .i64 (oAt l j)) ∧ (cellsI l)[j * 3 + 1]? = some (.int .i64 (aAt l j)) ∧ (cellsI l)[j * 3 + 2]? = some (.int .i64 (bAt l j))
  | [], j, h => by simp at h
  | x :: l, 0, _ => ⟨rfl, rfl, rfl⟩
  | x :: l, j + 1, h => by
    have := cells_at l j (by simpa using h)
    have e : cellsI (x :: l) = [.int .i64 x.1, .int .i64 x.2.1, .int .i64 x.2.2] ++ cellsI l := rfl
    rw [e]
    refine ⟨?_, ?_, ?_⟩
    · rw [List.getElem?_append_right (by simp; omega), show (j + 1) * 3 - [Value.int .i64 x.1, .int .i64 x.2.1, .int .i64 x.2.2].length = j * 3 by simp; omega]; exact this.1
    · rw [List.getElem?_append_right (by simp; omega), show (j + 1) * 3 + 1 - [Value.int .i64 x.1, .int .i64 x.2.1, .int .i64 x.2.2].length = j * 3 + 1 by simp; omega]; exact this.2.1
    · rw [List.getElem?_append_right (by simp; omega), show (j + 1) * 3 + 2 - [Value.int .i64 x.1, .int .i64 x.2.1, .int .i64 x.2.2].length = j * 3 + 2 by simp; omega]; exact this.2.2
/-- Such a list can be read. -/
theorem own_rdI {B : Nat} {w : World} {v : Value} {l : List I3} (h : OwnI B w v l) : ∃ a cap, v = .slice a l.length cap ∧ RdI w a l := by
  rcases h.2 with ⟨hv, h0⟩ | ⟨g, cap, cur, hv, hg, hh, r⟩
  · exact ⟨none, 0, by rw [hv, h0], .inl h0⟩
  · refine ⟨some ⟨g, 0, none⟩, cap, hv, .inr ⟨g, 0, rfl, fun j hj => ?_⟩⟩
    have hc := World.ownsRow.cells h (g := g) (by rw [hv]; rfl)
    obtain ⟨c0, c1, c2⟩ := cells_at l j hj
    have d0 := hc _ _ c0
    have d1 := hc _ _ c1
    have d2 := hc _ _ c2
    rw [add_n] at d0 d1 d2
    exact ⟨d0, d1, d2⟩
theorem rdAll_len : ∀ (f : Nat) (bs : List UInt8) (l : List I3), rdAll f bs = some l → l.length ≤ bs.length := by
  intro f
  induction f with
  | zero =>
    intro bs l h
    cases bs with
    | nil => rw [rdAll_nil] at h; simp at h; subst h; simp
    | cons u r => cases h
  | succ f ih =>
    intro bs l h
    by_cases h0 : bs = []
    · subst h0; rw [rdAll_nil] at h; simp at h; subst h; simp
    · cases hi : rdIns bs with
      | none => rw [rdAll_no h0 hi] at h; cases h
      | some p =>
        obtain ⟨i, k⟩ := p
        have hle := rdIns_le hi
        rw [rdAll_yes hi] at h
        cases hr : rdAll f (bs.drop k) with
        | none => rw [hr] at h; cases h
        | some l2 =>
          rw [hr] at h
          simp only [Option.map_some, Option.some.injEq] at h
          have := ih _ _ hr
          rw [List.length_drop] at this
          rw [← h, List.length_cons]
          omega
set_option maxRecDepth 20000 in
theorem readBody1 (q : Nat) (u : World) (b off cap : Nat) (bs : List UInt8) (hs : Src u b off cap bs) (hq : u.cell? ⟨q, 0, none⟩ = some (.slice (some ⟨b, off, none⟩) bs.length cap)) (hl : bs.length ≤ 1048576) (ht : Tab u) (hgs : 0 < u.heap.size) :
    Calls Tryd.prog 27 #[.pointer (some ⟨q, 0, none⟩)] u fun e w' => ((∃ l v, rdAll bs.length bs = some l ∧ e = .returned v ∧ OwnI u.heap.size w' v l) ∨ (rdAll bs.length bs = none ∧ e = gave 3)) ∧ Below u.heap.size u w' := by
  have hI : Hid (Calls Tryd.prog 28 #[.pointer (some ⟨u.heap.size, 0, none⟩)] (u.alloc (.cells #[.slice (some ⟨b, off, none⟩) bs.length cap, .int .i64 3] 59)) fun e w' => AllPost (u.heap.size + 1) (u.alloc (.cells #[.slice (some ⟨b, off, none⟩) bs.length cap, .int .i64 3] 59)) u.heap.size 3 b (rdAll bs.length bs) e w') := by
    have := readIns u.heap.size 3 b bs _ (hs.reader 3) hl (Tab.later ht ((Below.refl _ _).alloc (Nat.le_refl _) _)) (by omega) bs.length (Nat.le_refl _)
    rw [World.size_alloc] at this
    exact this
  generalize rdAll bs.length bs = R at *
  clear hs ht
  go_enter Tryd.func27, Tryd.ntmps27
  go_wp2_with (go_at_call 28; refine hI.out.mono ?_; rintro e w1 ⟨hp, hg⟩; have b1 : Hid (Below u.heap.size u w1) := ((Below.refl _ _).alloc (Nat.le_refl _) _).trans (gone hg (by simp) (Nat.le_refl _)); have hp' : Hid ((∃ l v, R = some l ∧ e = .returned v ∧ OwnI (u.heap.size + 1) w1 v l ∧ RdX w1 u.heap.size 3 b []) ∨ (R = none ∧ e = gave 3)) := hp; clear hp hg; rcases hp'.out with ⟨l, v, hR, rfl, ho, _⟩ | ⟨hR, rfl⟩)
  · go_ret
    exact ⟨.inl ⟨l, v, hR, rfl, own_lower ho (by omega)⟩, b1.out⟩
  · exact ⟨rfl, .inr ⟨hR, rfl⟩, b1.out⟩
theorem body_attempt (q : Nat) (w : World) (b off cap : Nat) (bs : List UInt8) (hs : Src w b off cap bs) (hq : w.cell? ⟨q, 0, none⟩ = some (.slice (some ⟨b, off, none⟩) bs.length cap)) (hl : bs.length ≤ 1048576) (ht : Tab w) (hgs : 0 < w.heap.size) :
    Calls Tryd.prog 26 #[.func (.func 27) #[] #[.pointer (some ⟨q, 0, none⟩)]] w fun e w' => ((∃ l v, rdAll bs.length bs = some l ∧ e = .returned (.tuple #[v, .int .i64 0]) ∧ OwnI w.heap.size w' v l) ∨ (rdAll bs.length bs = none ∧ e = .returned (.tuple #[.slice none 0 0, .int .i64 3]))) ∧ Below w.heap.size w w' := by
  have hb : Below w.heap.size w (w.alloc (.cells #[.int .i64 0] 3)) := (Below.refl _ _).alloc (Nat.le_refl _) _
  have h1 := readBody1 q (w.alloc (.cells #[.int .i64 0] 3)) b off cap bs (hs.later hb) (by rw [hb.cell (World.block_lt_of_cell? w _ hq)]; exact hq) hl (Tab.later ht hb) (Nat.lt_of_lt_of_le hgs (by simp))
  rw [World.size_alloc] at h1
  cases hR : rdAll bs.length bs with
  | none =>
    rw [hR] at h1
    refine (attempt_no q w 3 (h1.mono ?_)).mono ?_
    · rintro e w' ⟨⟨_, _, h, _⟩ | ⟨_, rfl⟩, hb'⟩
      · cases h
      · exact ⟨rfl, hb'⟩
    · rintro e w' ⟨rfl, hb'⟩
      exact ⟨.inr ⟨rfl, rfl⟩, hb'⟩
  | some l =>
    rw [hR] at h1
    refine (attempt_yes q w (fun v w' => OwnI (w.heap.size + 1) w' v l) (h1.mono ?_)).mono ?_
    · rintro e w' ⟨⟨l', v, h, rfl, ho⟩ | ⟨h, _⟩, hb'⟩
      · cases h
        exact ⟨v, rfl, ho, hb'⟩
      · cases h
    · rintro e w' ⟨v, w1, rfl, ho, hb', rfl⟩
      exact ⟨.inl ⟨l, v, rfl, rfl, own_lower (ownsRow_setCell_below ho (a := ⟨w.heap.size, 0, none⟩) (by show w.heap.size < w.heap.size + 1; omega) _) (by omega)⟩, hb.trans ((hb'.mono (B' := w.heap.size) (by omega)).setCell (p := ⟨w.heap.size, 0, none⟩) (Nat.le_refl _) _)⟩
set_option maxHeartbeats 4000000 in
set_option maxRecDepth 20000 in
theorem impl_readBody (w : World) (b off cap : Nat) (bs : List UInt8) (hs : Src w b off cap bs) (hl : bs.length ≤ 1048576) (ht : Tab w) (hgs : 0 < w.heap.size) :
    Calls Tryd.prog 16 #[.slice (some ⟨b, off, none⟩) bs.length cap] w fun e w' => ((∃ l v, ansB bs = some l ∧ e = .returned (.tuple #[v, .bool true]) ∧ OwnI w.heap.size w' v l) ∨ (ansB bs = none ∧ e = .returned (.tuple #[.slice none 0 0, .bool false]))) ∧ Below w.heap.size w w' := by
  have hb : Below w.heap.size w (w.alloc (.cells #[.slice (some ⟨b, off, none⟩) bs.length cap] 24)) := (Below.refl _ _).alloc (Nat.le_refl _) _
  have h1 := body_attempt w.heap.size (w.alloc (.cells #[.slice (some ⟨b, off, none⟩) bs.length cap] 24)) b off cap bs (hs.later hb) (by simp) hl (Tab.later ht hb) (Nat.lt_of_lt_of_le hgs (by simp))
  have hmf : ∀ (fn : Fn) (first cap : Array Value) (w : World), (Instr.makeFunc fn first cap).run Tryd.prog w = .ok (.func fn first cap) w := fun _ _ _ _ => rfl
  have ht' : Hid (Tab w) := ht
  have hb' : Hid (Below w.heap.size w (w.alloc (.cells #[.slice (some ⟨b, off, none⟩) bs.length cap] 24))) := hb
  cases hR : rdAll bs.length bs with
  | none =>
    have hA : Hid (ansB bs = none) := by
      show ansB bs = none
      unfold ansB
      rw [hR]
    rw [hR] at h1
    have hC : Hid (Calls Tryd.prog 26 #[.func (.func 27) #[] #[.pointer (some ⟨w.heap.size, 0, none⟩)]] (w.alloc (.cells #[.slice (some ⟨b, off, none⟩) bs.length cap] 24)) fun e w' => e = .returned (.tuple #[.slice none 0 0, .int .i64 3]) ∧ Below w.heap.size w w') := h1.mono (by
      rintro e w' ⟨⟨_, _, h, _⟩ | ⟨_, rfl⟩, hb2⟩
      · cases h
      · exact ⟨rfl, hb.trans (hb2.mono (by simp))⟩)
    clear h1 hs hR ht hb
    go_enter Tryd.func16, Tryd.ntmps16
    go_wp2_with (go_at_call 26; refine hC.out.mono ?_; rintro e w1 ⟨rfl, b1⟩)
    go_ret2
    exact ⟨.inr ⟨hA.out, rfl⟩, b1⟩
  | some l =>
    have hll := rdAll_len _ _ _ hR
    rw [hR] at h1
    have hC : Hid (Calls Tryd.prog 26 #[.func (.func 27) #[] #[.pointer (some ⟨w.heap.size, 0, none⟩)]] (w.alloc (.cells #[.slice (some ⟨b, off, none⟩) bs.length cap] 24)) fun e w' => ∃ a c, e = .returned (.tuple #[.slice a l.length c, .int .i64 0]) ∧ OwnI w.heap.size w' (.slice a l.length c) l ∧ RdI w' a l ∧ Below w.heap.size w w') := h1.mono (by
      rintro e w' ⟨⟨l', v, h, rfl, ho⟩ | ⟨h, _⟩, hb2⟩
      · cases h
        obtain ⟨a, c, rfl, hr⟩ := own_rdI ho
        exact ⟨a, c, rfl, own_lower ho (by simp), hr, hb.trans (hb2.mono (by simp))⟩
      · cases h)
    clear h1 hs ht hb
    by_cases hbig : l.length ≤ 1500
    · have hbig' : ¬ (1500 : Int) < (l.length : Int) := by omega
      have hE : Hid (∀ (u : World) (a : Option Addr) (c : Nat), RdI u a l → Tab u → Calls Tryd.prog 21 #[.slice a l.length c, .func (.func 22) #[] #[]] u fun e w' => e = .returned (.bool (allF l l.length 0)) ∧ Below u.heap.size u w') := fun u a c hr hu => every_ins u a c l hr (by omega) hu
      cases hall : allF l l.length 0 with
      | false =>
        have hA : Hid (ansB bs = none) := by
          show ansB bs = none
          unfold ansB
          rw [hR]
          exact if_neg (fun e => by rw [hall] at e; exact absurd e.2 (by decide))
        rw [hall] at hE
        clear hR hall
        go_enter Tryd.func16, Tryd.ntmps16
        go_wp2_with (first | (go_at_call 26; refine hC.out.mono ?_; rintro e w1 ⟨a1, c1, rfl, o1, r1, b1⟩; have o1' : Hid (OwnI w.heap.size w1 (.slice a1 l.length c1) l) := o1; have r1' : Hid (RdI w1 a1 l) := r1; clear o1 r1) | (go_at_call 21; refine (hE.out _ _ _ r1'.out (Tab.later ht'.out b1)).mono ?_; rintro e w2 ⟨rfl, b2⟩))
        go_ret2
        exact ⟨.inr ⟨hA.out, rfl⟩, b1.trans (b2.mono b1.size)⟩
      | true =>
        have hA : Hid (ansB bs = some l) := by
          show ansB bs = some l
          unfold ansB
          rw [hR]
          exact if_pos ⟨hbig, hall⟩
        rw [hall] at hE
        clear hR hall
        go_enter Tryd.func16, Tryd.ntmps16
        go_wp2_with (first | (go_at_call 26; refine hC.out.mono ?_; rintro e w1 ⟨a1, c1, rfl, o1, r1, b1⟩; have o1' : Hid (OwnI w.heap.size w1 (.slice a1 l.length c1) l) := o1; have r1' : Hid (RdI w1 a1 l) := r1; clear o1 r1) | (go_at_call 21; refine (hE.out _ _ _ r1'.out (Tab.later ht'.out b1)).mono ?_; rintro e w2 ⟨rfl, b2⟩))
        go_ret2
        exact ⟨.inl ⟨l, _, hA.out, rfl, own_belowI o1'.out b2⟩, b1.trans (b2.mono b1.size)⟩
    · have hbig' : (1500 : Int) < (l.length : Int) := by omega
      have hA : Hid (ansB bs = none) := by
        show ansB bs = none
        unfold ansB
        rw [hR]
        exact if_neg (fun e => hbig e.1)
      clear hR hbig
      go_enter Tryd.func16, Tryd.ntmps16
      go_wp2_with (go_at_call 26; refine hC.out.mono ?_; rintro e w1 ⟨a1, c1, rfl, o1, r1, b1⟩; clear o1 r1)
      go_ret2
      exact ⟨.inr ⟨hA.out, rfl⟩, b1⟩
end Go.Proofs.YthjgmjhgpjgdlabDoor.ReadBodyI
