/-
  The specification's reader of bytes: a byte, a byte that must be, numbers.
-/
import Derived.Test.YthjgmjhgpjgdlabDoorPlainRd
import Derived.Test.YthjgmjhgpjgdlabDoorSpecGets
import Derived.Maps.AppendAt
import Derived.RangeFuncBox
namespace Go.Proofs.YthjgmjhgpjgdlabDoor.SpecRd
open Go.RowKit PlainNum PlainLeb PlainGet PlainRd NumCalls ByteMem PutU

/-- The reader in block r stands at place p of the bytes bs; bad: something was wrong. -/
structure SR (w : World) (r b off cap : Nat) (bs : List UInt8) (p : Nat) (bad : Bool) : Prop where
  box : w.heap[r]? = some (.cells #[.slice (some ⟨b, off, none⟩) bs.length cap, .int .i64 (p : Int), .bool bad] 51 (0, 0))
  rd : ∀ j, j < bs.length → w.cell? ⟨b, off + j, none⟩ = some (.int .u8 ((bs[j]?.getD 0).toNat : Int))
  le : p ≤ bs.length
  lt : b < r
theorem SR.isLt {w : World} {r b off cap : Nat} {bs : List UInt8} {p : Nat} {bad : Bool} (h : SR w r b off cap bs p bad) : r < w.heap.size := (Array.getElem?_eq_some_iff.1 h.box).1
theorem SR.facts {w : World} {r b off cap : Nat} {bs : List UInt8} {p : Nat} {bad : Bool} (h : SR w r b off cap bs p bad) :
    w.cell? ⟨r, 0, none⟩ = some (.slice (some ⟨b, off, none⟩) bs.length cap) ∧ w.cell? ⟨r, 1, none⟩ = some (.int .i64 (p : Int)) ∧ w.cell? ⟨r, 2, none⟩ = some (.bool bad) ∧ w.frozen? ⟨r, 1, none⟩ = false ∧ w.frozen? ⟨r, 2, none⟩ = false := by
  refine ⟨?_, ?_, ?_, ?_, ?_⟩ <;> simp [World.cell?, World.frozen?, h.box]
theorem SR.of {w w' : World} {r b off cap : Nat} {bs : List UInt8} {p : Nat} {bad : Bool} (h : SR w r b off cap bs p bad) (h1 : w'.heap[r]? = w.heap[r]?) (h2 : w'.heap[b]? = w.heap[b]?) : SR w' r b off cap bs p bad :=
  ⟨h1.trans h.box, fun j hj => (World.cell?_of_block (a := ⟨b, off + j, none⟩) h2).trans (h.rd j hj), h.le, h.lt⟩
theorem SR.kept {w w' : World} {q : Option Nat} {r b off cap : Nat} {bs : List UInt8} {p : Nat} {bad : Bool} (h : SR w r b off cap bs p bad) (hg : w.grownBy w' q) (h1 : some r ≠ q) (h2 : some b ≠ q) : SR w' r b off cap bs p bad :=
  h.of (hg.block r h.isLt h1) (hg.block b (Nat.lt_trans h.lt h.isLt) h2)
theorem SR.below {w w' : World} {r b off cap : Nat} {bs : List UInt8} {p : Nat} {bad : Bool} (h : SR w r b off cap bs p bad) (hb : Below w.heap.size w w') : SR w' r b off cap bs p bad :=
  h.of (hb.block r h.isLt) (hb.block b (Nat.lt_trans h.lt h.isLt))
theorem SR.alloc {w : World} {r b off cap : Nat} {bs : List UInt8} {p : Nat} {bad : Bool} (h : SR w r b off cap bs p bad) (o : Obj) : SR (w.alloc o) r b off cap bs p bad := h.below ((Below.refl _ _).alloc (Nat.le_refl _) _)
theorem SR.draws {w : World} {r b off cap : Nat} {bs : List UInt8} {p : Nat} {bad : Bool} (h : SR w r b off cap bs p bad) (m : Nat) : SR (w.drewN m) r b off cap bs p bad := ⟨h.box, h.rd, h.le, h.lt⟩
theorem SR.set {w : World} {r b off cap : Nat} {bs : List UInt8} {p : Nat} {bad : Bool} (h : SR w r b off cap bs p bad) {q j : Nat} {v : Value} (h1 : q ≠ r) (h2 : q ≠ b) : SR (w.setCell ⟨q, j, none⟩ v) r b off cap bs p bad :=
  h.of (Below.heap_setCell _ _ _ _ (by exact h1.symm)) (Below.heap_setCell _ _ _ _ (by exact h2.symm))
theorem SR.to {w : World} {r b off cap : Nat} {bs : List UInt8} {p : Nat} {bad : Bool} (h : SR w r b off cap bs p bad) (q : Nat) (hq : q ≤ bs.length) : SR (w.setCell ⟨r, 1, none⟩ (.int .i64 (q : Int))) r b off cap bs q bad := by
  have hlt := h.lt
  refine ⟨?_, fun j hj => ?_, hq, hlt⟩
  · obtain ⟨h1, h2⟩ := Array.getElem?_eq_some_iff.1 h.box
    show (w.heap.modify r _)[r]? = _
    rw [Array.getElem?_eq_getElem (by rw [Array.size_modify]; exact h1), Array.getElem_modify_self, h2]
    rfl
  · rw [World.cell?_of_block (w := w) (a := ⟨b, off + j, none⟩) (Below.heap_setCell _ _ _ _ (by show b ≠ r; omega))]; exact h.rd j hj
theorem SR.spoil {w : World} {r b off cap : Nat} {bs : List UInt8} {p : Nat} {bad : Bool} (h : SR w r b off cap bs p bad) : SR (w.setCell ⟨r, 2, none⟩ (.bool true)) r b off cap bs p true := by
  have hlt := h.lt
  refine ⟨?_, fun j hj => ?_, h.le, hlt⟩
  · obtain ⟨h1, h2⟩ := Array.getElem?_eq_some_iff.1 h.box
    show (w.heap.modify r _)[r]? = _
    rw [Array.getElem?_eq_getElem (by rw [Array.size_modify]; exact h1), Array.getElem_modify_self, h2]
    rfl
  · rw [World.cell?_of_block (w := w) (a := ⟨b, off + j, none⟩) (Below.heap_setCell _ _ _ _ (by show b ≠ r; omega))]; exact h.rd j hj
theorem grown_setr {w W : World} {r j : Nat} (h : w.grownBy W (some r)) (v : Value) : w.grownBy (W.setCell ⟨r, j, none⟩ v) (some r) :=
  ⟨h.os, h.tape, h.output, by rw [World.size_setCell]; exact h.size, fun k hk hne => (Below.heap_setCell _ _ _ _ (by show k ≠ r; exact fun e => hne (by rw [e]))).trans (h.block k hk hne)⟩
theorem grown_draws {w W : World} {q : Option Nat} (h : w.grownBy W q) (m : Nat) : w.grownBy (W.drewN m) q := ⟨h.os, h.tape, h.output, h.size, h.block⟩
theorem grown_id (w : World) (q : Option Nat) : w.grownBy w q := ⟨rfl, rfl, rfl, Nat.le_refl _, fun _ _ _ => rfl⟩
/-- The byte at place p. -/
def byAt (bs : List UInt8) (p : Nat) : UInt8 := bs[p]?.getD 0
theorem byAt_drop {bs : List UInt8} {p : Nat} {u : UInt8} {rest : List UInt8} (h : bs.drop p = u :: rest) : p < bs.length ∧ byAt bs p = u ∧ bs.drop (p + 1) = rest := by
  have hl : p < bs.length := by
    have := congrArg List.length h
    rw [List.length_drop, List.length_cons] at this
    omega
  rw [drop_cons hl] at h
  injection h with h1 h2
  exact ⟨hl, h1, h2⟩
set_option maxHeartbeats 1000000 in
theorem byte_yes (r b off cap : Nat) (bs : List UInt8) (p : Nat) (bad : Bool) (w : World) (h : SR w r b off cap bs p bad) (hp : p < bs.length) (hl : bs.length ≤ 4611686018427387904) :
    Calls Tryd.prog 38 #[.pointer (some ⟨r, 0, none⟩)] w fun e w' => e = .returned (.int .i64 ((byAt bs p).toNat : Int)) ∧ SR w' r b off cap bs (p + 1) bad ∧ w.grownBy w' (some r) := by
  obtain ⟨c0, c1, c2, f1, f2⟩ := h.facts
  have hne : b ≠ r := by have := h.lt; omega
  have cb : w.cell? ⟨b, off + p, none⟩ = some (.int .u8 ((byAt bs p).toNat : Int)) := h.rd p hp
  have h' : Hid (SR w r b off cap bs p bad) := h
  have hp' : ¬ (bs.length : Int) ≤ (p : Int) := by omega
  have hp2 : (p : Int) < (bs.length : Int) := by omega
  have hu := (byAt bs p).toNat_lt
  have hN : Hid (∀ m, SR ((w.drewN m).setCell ⟨r, 1, none⟩ (.int .i64 ((p : Int) + 1))) r b off cap bs (p + 1) bad) := fun m => by
    have := (h.draws m).to (p + 1) (by omega)
    rw [show (((p + 1 : Nat)) : Int) = (p : Int) + 1 by omega] at this
    exact this
  clear h
  obtain ⟨X, hX⟩ : ∃ X, byAt bs p = X := ⟨_, rfl⟩
  rw [hX] at cb hu
  rw [hX]
  go_enter Tryd.func38, Tryd.ntmps38
  go_wp2_with fail
  go_quiet (fail)
  go_wp2_with fail
  have hS := hN.out nq
  obtain ⟨d0, d1, d2, _, _⟩ := hS.facts
  rw [show (((p + 1 : Nat)) : Int) = (p : Int) + 1 by omega] at d1
  have db := hS.rd p hp
  rw [show bs[p]?.getD 0 = X from hX] at db
  clear hX
  clear hS c0 c1 c2 cb
  generalize hW : (w.drewN nq).setCell ⟨r, 1, none⟩ (.int .i64 ((p : Int) + 1)) = W at *
  have hW' : Hid ((w.drewN nq).setCell ⟨r, 1, none⟩ (.int .i64 ((p : Int) + 1)) = W) := hW
  clear hW
  go_quiet (fail)
  go_wp2_with fail
  go_ret
  refine ⟨rfl, ?_, ?_⟩
  · rw [← hW'.out]; exact (hN.out _).draws _
  · rw [← hW'.out]; exact grown_draws (grown_setr (grown_draws (grown_id w _) _) _) _
set_option maxHeartbeats 1000000 in
theorem byte_no (r b off cap : Nat) (bs : List UInt8) (p : Nat) (bad : Bool) (w : World) (h : SR w r b off cap bs p bad) (hp : p = bs.length) :
    Calls Tryd.prog 38 #[.pointer (some ⟨r, 0, none⟩)] w fun e w' => e = .returned (.int .i64 0) ∧ SR w' r b off cap bs p true ∧ w.grownBy w' (some r) := by
  obtain ⟨c0, c1, c2, f1, f2⟩ := h.facts
  have hp' : (bs.length : Int) ≤ (p : Int) := by omega
  have hp2 : bs.length ≤ p := by omega
  have hN : Hid (∀ m, SR ((w.drewN m).setCell ⟨r, 2, none⟩ (.bool true)) r b off cap bs p true) := fun m => (h.draws m).spoil
  clear h hp
  go_enter Tryd.func38, Tryd.ntmps38
  go_wp2_with fail
  go_quiet (fail)
  go_wp2_with fail
  go_ret
  exact ⟨rfl, hN.out _, grown_setr (grown_draws (grown_id w _) _) _⟩
set_option maxHeartbeats 1000000 in
theorem u_yes (r b off cap : Nat) (bs : List UInt8) (p : Nat) (bad : Bool) (w : World) (h : SR w r b off cap bs p bad) (n : Nat) (k : Nat) (hg : gU (bs.drop p) = some (n, k)) (hl : bs.length ≤ 4611686018427387904) :
    Calls Tryd.prog 39 #[.pointer (some ⟨r, 0, none⟩)] w fun e w' => e = .returned (.int .i64 (n : Int)) ∧ SR w' r b off cap bs (p + k) bad ∧ w.grownBy w' (some r) := by
  obtain ⟨c0, c1, c2, f1, f2⟩ := h.facts
  have hG : Hid (∀ m, Calls Tryd.prog 56 #[.slice (some ⟨b, off, none⟩) bs.length cap, .int .i64 (p : Int)] (w.drewN m) fun e w' => e = .returned (.tuple #[.int .i64 (n : Int), .int .i64 ((p : Int) + (k : Int)), .bool true]) ∧ w.drewN m = w') := fun m => by
    have := SpecGets.spec_getU (w.drewN m) b off cap bs (p : Int) h.rd hl
    rw [ansU_at h.le hg] at this
    exact this
  have hle := gU_le hg
  rw [List.length_drop] at hle
  have hN : Hid (∀ m, SR ((w.drewN m).setCell ⟨r, 1, none⟩ (.int .i64 ((p : Int) + (k : Int)))) r b off cap bs (p + k) bad) := fun m => by
    have := (h.draws m).to (p + k) (by have := h.le; omega)
    rw [show (((p + k : Nat)) : Int) = (p : Int) + (k : Int) by omega] at this
    exact this
  clear h hg
  go_enter Tryd.func39, Tryd.ntmps39
  go_wp2_with fail
  go_quiet (first | (go_at_call 56; refine Calls.quiet_of_same ((hG.out _).mono fun _ _ ⟨h1, h2⟩ => ⟨h1, h2.symm⟩)))
  go_wp2_with fail
  go_ret
  exact ⟨rfl, hN.out _, grown_setr (grown_draws (grown_id w _) _) _⟩
set_option maxHeartbeats 1000000 in
theorem u_no (r b off cap : Nat) (bs : List UInt8) (p : Nat) (bad : Bool) (w : World) (h : SR w r b off cap bs p bad) (hg : gU (bs.drop p) = none) (hl : bs.length ≤ 4611686018427387904) :
    Calls Tryd.prog 39 #[.pointer (some ⟨r, 0, none⟩)] w fun e w' => e = .returned (.int .i64 0) ∧ SR w' r b off cap bs p true ∧ w.grownBy w' (some r) := by
  obtain ⟨c0, c1, c2, f1, f2⟩ := h.facts
  have hG : Hid (∀ m, Calls Tryd.prog 56 #[.slice (some ⟨b, off, none⟩) bs.length cap, .int .i64 (p : Int)] (w.drewN m) fun e w' => e = .returned (.tuple #[.int .i64 0, .int .i64 0, .bool false]) ∧ w.drewN m = w') := fun m => by
    have := SpecGets.spec_getU (w.drewN m) b off cap bs (p : Int) h.rd hl
    rw [ansU_at_no hg] at this
    exact this
  have hN : Hid (∀ m, SR ((w.drewN m).setCell ⟨r, 2, none⟩ (.bool true)) r b off cap bs p true) := fun m => (h.draws m).spoil
  clear h hg
  go_enter Tryd.func39, Tryd.ntmps39
  go_wp2_with fail
  go_quiet (first | (go_at_call 56; refine Calls.quiet_of_same ((hG.out _).mono fun _ _ ⟨h1, h2⟩ => ⟨h1, h2.symm⟩)))
  go_wp2_with fail
  go_ret
  exact ⟨rfl, hN.out _, grown_setr (grown_draws (grown_id w _) _) _⟩
set_option maxHeartbeats 1000000 in
theorem s_yes (r b off cap : Nat) (bs : List UInt8) (p : Nat) (bad : Bool) (w : World) (h : SR w r b off cap bs p bad) (n : Int) (k : Nat) (hg : gS (bs.drop p) = some (n, k)) (hl : bs.length ≤ 4611686018427387904) :
    Calls Tryd.prog 40 #[.pointer (some ⟨r, 0, none⟩)] w fun e w' => e = .returned (.int .i64 (n : Int)) ∧ SR w' r b off cap bs (p + k) bad ∧ w.grownBy w' (some r) := by
  obtain ⟨c0, c1, c2, f1, f2⟩ := h.facts
  have hG : Hid (∀ m, Calls Tryd.prog 57 #[.slice (some ⟨b, off, none⟩) bs.length cap, .int .i64 (p : Int)] (w.drewN m) fun e w' => e = .returned (.tuple #[.int .i64 (n : Int), .int .i64 ((p : Int) + (k : Int)), .bool true]) ∧ w.drewN m = w') := fun m => by
    have := SpecGets.spec_getS (w.drewN m) b off cap bs (p : Int) h.rd hl
    rw [ansS_at h.le hg] at this
    exact this
  have hle := gS_le hg
  rw [List.length_drop] at hle
  have hN : Hid (∀ m, SR ((w.drewN m).setCell ⟨r, 1, none⟩ (.int .i64 ((p : Int) + (k : Int)))) r b off cap bs (p + k) bad) := fun m => by
    have := (h.draws m).to (p + k) (by have := h.le; omega)
    rw [show (((p + k : Nat)) : Int) = (p : Int) + (k : Int) by omega] at this
    exact this
  clear h hg
  go_enter Tryd.func40, Tryd.ntmps40
  go_wp2_with fail
  go_quiet (first | (go_at_call 57; refine Calls.quiet_of_same ((hG.out _).mono fun _ _ ⟨h1, h2⟩ => ⟨h1, h2.symm⟩)))
  go_wp2_with fail
  go_ret
  exact ⟨rfl, hN.out _, grown_setr (grown_draws (grown_id w _) _) _⟩
set_option maxHeartbeats 1000000 in
theorem s_no (r b off cap : Nat) (bs : List UInt8) (p : Nat) (bad : Bool) (w : World) (h : SR w r b off cap bs p bad) (hg : gS (bs.drop p) = none) (hl : bs.length ≤ 4611686018427387904) :
    Calls Tryd.prog 40 #[.pointer (some ⟨r, 0, none⟩)] w fun e w' => e = .returned (.int .i64 0) ∧ SR w' r b off cap bs p true ∧ w.grownBy w' (some r) := by
  obtain ⟨c0, c1, c2, f1, f2⟩ := h.facts
  have hG : Hid (∀ m, Calls Tryd.prog 57 #[.slice (some ⟨b, off, none⟩) bs.length cap, .int .i64 (p : Int)] (w.drewN m) fun e w' => e = .returned (.tuple #[.int .i64 0, .int .i64 0, .bool false]) ∧ w.drewN m = w') := fun m => by
    have := SpecGets.spec_getS (w.drewN m) b off cap bs (p : Int) h.rd hl
    rw [ansS_at_no hg] at this
    exact this
  have hN : Hid (∀ m, SR ((w.drewN m).setCell ⟨r, 2, none⟩ (.bool true)) r b off cap bs p true) := fun m => (h.draws m).spoil
  clear h hg
  go_enter Tryd.func40, Tryd.ntmps40
  go_wp2_with fail
  go_quiet (first | (go_at_call 57; refine Calls.quiet_of_same ((hG.out _).mono fun _ _ ⟨h1, h2⟩ => ⟨h1, h2.symm⟩)))
  go_wp2_with fail
  go_ret
  exact ⟨rfl, hN.out _, grown_setr (grown_draws (grown_id w _) _) _⟩
theorem must_yes (r b off cap : Nat) (bs : List UInt8) (p : Nat) (bad : Bool) (x : Int) (w : World) (h : SR w r b off cap bs p bad) (hp : p < bs.length) (hx : ((byAt bs p).toNat : Int) = x) (hl : bs.length ≤ 4611686018427387904) :
    Calls Tryd.prog 41 #[.pointer (some ⟨r, 0, none⟩), .int .i64 x] w fun e w' => e = .returned (.tuple #[]) ∧ SR w' r b off cap bs (p + 1) bad ∧ w.grownBy w' (some r) := by
  have hB : Hid (Calls Tryd.prog 38 #[.pointer (some ⟨r, 0, none⟩)] w fun e w' => e = .returned (.int .i64 x) ∧ SR w' r b off cap bs (p + 1) bad ∧ w.grownBy w' (some r)) := by rw [← hx]; exact byte_yes r b off cap bs p bad w h hp hl
  clear h hx
  go_enter Tryd.func41, Tryd.ntmps41
  go_wp2_with (go_at_call 38; refine hB.out.mono ?_; rintro e w1 ⟨rfl, k1, g1⟩; have k1' : Hid (SR w1 r b off cap bs (p + 1) bad) := k1; clear k1)
  go_end0
  exact ⟨rfl, k1'.out, g1⟩
theorem must_no (r b off cap : Nat) (bs : List UInt8) (p : Nat) (bad : Bool) (x : Int) (w : World) (h : SR w r b off cap bs p bad) (hx : p < bs.length → ((byAt bs p).toNat : Int) ≠ x) (hl : bs.length ≤ 4611686018427387904) :
    Calls Tryd.prog 41 #[.pointer (some ⟨r, 0, none⟩), .int .i64 x] w fun e w' => e = .returned (.tuple #[]) ∧ (∃ p', SR w' r b off cap bs p' true) ∧ w.grownBy w' (some r) := by
  by_cases hp : p < bs.length
  · have hne := hx hp
    have hB : Hid (Calls Tryd.prog 38 #[.pointer (some ⟨r, 0, none⟩)] w fun e w' => e = .returned (.int .i64 ((byAt bs p).toNat : Int)) ∧ SR w' r b off cap bs (p + 1) bad ∧ w.grownBy w' (some r)) := byte_yes r b off cap bs p bad w h hp hl
    clear h hx
    generalize ((byAt bs p).toNat : Int) = y at *
    go_enter Tryd.func41, Tryd.ntmps41
    go_wp2_with (go_at_call 38; refine hB.out.mono ?_; rintro e w1 ⟨rfl, k1, g1⟩; obtain ⟨c0, c1, c2, f1, f2⟩ := k1.facts; have k1' : Hid (SR w1 r b off cap bs (p + 1) bad) := k1; clear k1)
    go_end0
    exact ⟨rfl, ⟨_, k1'.out.spoil⟩, grown_setr g1 _⟩
  · have hB : Hid (Calls Tryd.prog 38 #[.pointer (some ⟨r, 0, none⟩)] w fun e w' => e = .returned (.int .i64 0) ∧ SR w' r b off cap bs p true ∧ w.grownBy w' (some r)) := byte_no r b off cap bs p bad w h (by have := h.le; omega)
    clear h hx
    by_cases h0 : (0 : Int) = x
    · subst h0
      go_enter Tryd.func41, Tryd.ntmps41
      go_wp2_with (go_at_call 38; refine hB.out.mono ?_; rintro e w1 ⟨rfl, k1, g1⟩; have k1' : Hid (SR w1 r b off cap bs p true) := k1; clear k1)
      go_end0
      exact ⟨rfl, ⟨_, k1'.out⟩, g1⟩
    · go_enter Tryd.func41, Tryd.ntmps41
      go_wp2_with (go_at_call 38; refine hB.out.mono ?_; rintro e w1 ⟨rfl, k1, g1⟩; obtain ⟨c0, c1, c2, f1, f2⟩ := k1.facts; have k1' : Hid (SR w1 r b off cap bs p true) := k1; clear k1)
      go_end0
      exact ⟨rfl, ⟨_, k1'.out.spoil⟩, grown_setr g1 _⟩
/-- A number, or nothing: whatever was bad stays so. -/
theorem u_any (r b off cap : Nat) (bs : List UInt8) (p : Nat) (w : World) (h : SR w r b off cap bs p true) (hl : bs.length ≤ 4611686018427387904) :
    Calls Tryd.prog 39 #[.pointer (some ⟨r, 0, none⟩)] w fun e w' => (∃ n : Int, e = .returned (.int .i64 n)) ∧ (∃ p', SR w' r b off cap bs p' true) ∧ w.grownBy w' (some r) := by
  cases hg : gU (bs.drop p) with
  | none => exact (u_no r b off cap bs p true w h hg hl).mono fun _ _ ⟨h1, h2, h3⟩ => ⟨⟨_, h1⟩, ⟨_, h2⟩, h3⟩
  | some x =>
    obtain ⟨n, k⟩ := x
    exact (u_yes r b off cap bs p true w h n k hg hl).mono fun _ _ ⟨h1, h2, h3⟩ => ⟨⟨_, h1⟩, ⟨_, h2⟩, h3⟩
end Go.Proofs.YthjgmjhgpjgdlabDoor.SpecRd
