/-
  The program's reader of bytes: a variable that holds what isn't read yet, and the code with which it gives up.
-/
import Derived.Test.YthjgmjhgpjgdlabByteMem
import Derived.Test.YthjgmjhgpjgdlabPutU
import Derived.Maps.AppendAt
import Derived.RangeFuncBox
namespace Go.Proofs.Ythjgmjhgpjgdlab.Reader
open Go.RowKit PlainNum NumCalls ByteMem PutU

/-- It gives up with code c. -/
abbrev gave (c : Int) : Ending := .panicked [{ v := .iface 48 (.int .i64 c), recovered := false }]
theorem must_yes (r : Nat) (w : World) :
    Calls Try.prog 22 #[.pointer (some ⟨r, 0, none⟩), .bool true] w fun e w' => e = .returned (.tuple #[]) ∧ w = w' := by
  go_enter Try.func22, Try.ntmps22
  go_wp2_with fail
  go_end0
  exact ⟨rfl, rfl⟩
theorem must_no (r : Nat) (c : Int) (w : World) (hc : w.cell? ⟨r, 1, none⟩ = some (.int .i64 c)) :
    Calls Try.prog 22 #[.pointer (some ⟨r, 0, none⟩), .bool false] w fun e w' => e = gave c ∧ w = w' := by
  go_enter Try.func22, Try.ntmps22
  go_wp2_with fail
  exact ⟨rfl, rfl, rfl⟩
/-- The reader in block r has the bytes bs to read; they lie in an older block. -/
structure Rdr (w : World) (r : Nat) (c : Int) (b off cap : Nat) (bs : List UInt8) : Prop where
  box : w.heap[r]? = some (.cells #[.slice (some ⟨b, off, none⟩) bs.length cap, .int .i64 c] 51 (0, 0))
  rd : ∀ j, j < bs.length → w.cell? ⟨b, off + j, none⟩ = some (.int .u8 ((bs[j]?.getD 0).toNat : Int))
  le : bs.length ≤ cap
  lt : b < r
theorem Rdr.isLt {w : World} {r : Nat} {c : Int} {b off cap : Nat} {bs : List UInt8} (h : Rdr w r c b off cap bs) : r < w.heap.size := (Array.getElem?_eq_some_iff.1 h.box).1
theorem Rdr.cell0 {w : World} {r : Nat} {c : Int} {b off cap : Nat} {bs : List UInt8} (h : Rdr w r c b off cap bs) : w.cell? ⟨r, 0, none⟩ = some (.slice (some ⟨b, off, none⟩) bs.length cap) := by simp [World.cell?, h.box]
theorem Rdr.cell1 {w : World} {r : Nat} {c : Int} {b off cap : Nat} {bs : List UInt8} (h : Rdr w r c b off cap bs) : w.cell? ⟨r, 1, none⟩ = some (.int .i64 c) := by simp [World.cell?, h.box]
theorem Rdr.frozen {w : World} {r : Nat} {c : Int} {b off cap : Nat} {bs : List UInt8} (h : Rdr w r c b off cap bs) (j : Nat) : w.frozen? ⟨r, j, none⟩ = false := by simp [World.frozen?, h.box]
theorem Rdr.of {w w' : World} {r : Nat} {c : Int} {b off cap : Nat} {bs : List UInt8} (h : Rdr w r c b off cap bs) (h1 : w'.heap[r]? = w.heap[r]?) (h2 : w'.heap[b]? = w.heap[b]?) : Rdr w' r c b off cap bs :=
  ⟨h1.trans h.box, fun j hj => (World.cell?_of_block (a := ⟨b, off + j, none⟩) h2).trans (h.rd j hj), h.le, h.lt⟩
theorem Rdr.below {w w' : World} {r : Nat} {c : Int} {b off cap : Nat} {bs : List UInt8} (h : Rdr w r c b off cap bs) (hb : Below w.heap.size w w') : Rdr w' r c b off cap bs :=
  h.of (hb.block r h.isLt) (hb.block b (Nat.lt_trans h.lt h.isLt))
theorem Rdr.kept {w w' : World} {q : Option Nat} {r : Nat} {c : Int} {b off cap : Nat} {bs : List UInt8} (h : Rdr w r c b off cap bs) (hg : w.grownBy w' q) (h1 : some r ≠ q) (h2 : some b ≠ q) : Rdr w' r c b off cap bs :=
  h.of (hg.block r h.isLt h1) (hg.block b (Nat.lt_trans h.lt h.isLt) h2)
theorem Rdr.alloc {w : World} {r : Nat} {c : Int} {b off cap : Nat} {bs : List UInt8} (h : Rdr w r c b off cap bs) (o : Obj) : Rdr (w.alloc o) r c b off cap bs := h.below ((Below.refl _ _).alloc (Nat.le_refl _) _)
/-- k bytes have been read (the place stays where nothing is left). -/
theorem Rdr.took {w : World} {r : Nat} {c : Int} {b off cap : Nat} {bs : List UInt8} (h : Rdr w r c b off cap bs) (k off' : Nat) (hk : k ≤ bs.length) (ho : k < bs.length → off' = off + k) : Rdr (w.setCell ⟨r, 0, none⟩ (.slice (some ⟨b, off', none⟩) (bs.length - k) (cap - k))) r c b off' (cap - k) (bs.drop k) := by
  have hl := h.le
  have hlt := h.lt
  refine ⟨?_, fun j hj => ?_, by simp; omega, hlt⟩
  · obtain ⟨h1, h2⟩ := Array.getElem?_eq_some_iff.1 h.box
    show (w.heap.modify r _)[r]? = _
    rw [Array.getElem?_eq_getElem (by rw [Array.size_modify]; exact h1), Array.getElem_modify_self, h2, List.length_drop]
    rfl
  · have hj' : k + j < bs.length := by simp at hj; omega
    rw [ho (by omega), World.cell?_of_block (w := w) (a := ⟨b, off + k + j, none⟩) (Below.heap_setCell _ _ _ _ (by show b ≠ r; omega)), Nat.add_assoc, h.rd (k + j) hj', List.getElem?_drop]
theorem set_grown (w : World) (r : Nat) (v : Value) : w.grownBy (w.setCell ⟨r, 0, none⟩ v) (some r) := grownBy_setCell' w r v
theorem add_n (b off k : Nat) : (⟨b, off, none⟩ : Addr).add k = ⟨b, off + k, none⟩ := by cases k <;> simp [Addr.add]
theorem filled (r : Nat) (c : Int) (b off cap : Nat) (bs : List UInt8) (w : World) (h : Rdr w r c b off cap bs) :
    Calls Try.prog 20 #[.pointer (some ⟨r, 0, none⟩)] w fun e w' => e = .returned (.bool (decide (bs.length = 0))) ∧ w = w' := by
  have hc := h.cell0
  have h' : Hid (Rdr w r c b off cap bs) := h
  clear h
  go_enter Try.func20, Try.ntmps20
  go_wp2_with fail
  go_ret
  refine ⟨?_, rfl⟩
  refine congrArg (fun x => Ending.returned (.bool x)) (?_ : (_ : Bool) = _)
  rw [Bool.eq_iff_iff]
  simp
set_option maxHeartbeats 1000000 in
theorem take_yes (r : Nat) (c : Int) (b off cap : Nat) (bs : List UInt8) (w : World) (h : Rdr w r c b off cap bs) (k : Nat) (hk : k ≤ bs.length) :
    Calls Try.prog 27 #[.pointer (some ⟨r, 0, none⟩), .int .i64 k] w fun e w' => e = .returned (.slice (some ⟨b, off, none⟩) k cap) ∧ (∃ off', Rdr w' r c b off' (cap - k) (bs.drop k)) ∧ w.grownBy w' (some r) := by
  have hc := h.cell0
  have hf := h.frozen 0
  have hle := h.le
  have hk' : (k : Int) ≤ (bs.length : Int) := by omega
  have h' : Hid (Rdr w r c b off cap bs) := h
  clear h
  have hd : decide ((k : Int) ≤ (bs.length : Int)) = true := decide_eq_true hk'
  by_cases hck : cap = k
  · subst hck
    go_enter Try.func27, Try.ntmps27
    go_wp2_with (go_at_call 22; refine (must_yes _ _).mono ?_; rintro e w1 ⟨rfl, rfl⟩)
    go_ret
    exact ⟨rfl, ⟨off, by have e0 : bs.length - cap = 0 := by omega
                         have := h'.out.took cap off hk (by omega)
                         simpa [e0] using this⟩, set_grown _ _ _⟩
  · go_enter Try.func27, Try.ntmps27
    go_wp2_with (go_at_call 22; refine (must_yes _ _).mono ?_; rintro e w1 ⟨rfl, rfl⟩)
    go_ret
    exact ⟨rfl, ⟨off + k, h'.out.took k (off + k) hk (fun _ => rfl)⟩, set_grown _ _ _⟩
theorem take_no (r : Nat) (c : Int) (b off cap : Nat) (bs : List UInt8) (w : World) (h : Rdr w r c b off cap bs) (k : Int) (hk : (bs.length : Int) < k) :
    Calls Try.prog 27 #[.pointer (some ⟨r, 0, none⟩), .int .i64 k] w fun e w' => e = gave c ∧ w = w' := by
  have hc := h.cell0
  have hn : Hid (∀ u : World, u.cell? ⟨r, 1, none⟩ = some (.int .i64 c) → Calls Try.prog 22 #[.pointer (some ⟨r, 0, none⟩), .bool false] u fun e w' => e = gave c ∧ u = w') := fun u hu => must_no r c u hu
  have h1 : Hid (w.cell? ⟨r, 1, none⟩ = some (.int .i64 c)) := h.cell1
  have hd : decide (k ≤ (bs.length : Int)) = false := decide_eq_false (by omega)
  have hd' : ¬ k ≤ (bs.length : Int) := by omega
  clear h
  go_enter Try.func27, Try.ntmps27
  go_wp2_with (go_at_call 22; refine (hn.out _ h1.out).mono ?_; rintro e w1 ⟨rfl, rfl⟩)
  exact ⟨rfl, rfl, rfl⟩
theorem next_yes (r : Nat) (c : Int) (b off cap : Nat) (u : UInt8) (bs : List UInt8) (w : World) (h : Rdr w r c b off cap (u :: bs)) :
    Calls Try.prog 21 #[.pointer (some ⟨r, 0, none⟩)] w fun e w' => e = .returned (.int .u8 (u.toNat : Int)) ∧ (∃ off', Rdr w' r c b off' (cap - 1) bs) ∧ w.grownBy w' (some r) := by
  have hT : Hid (Calls Try.prog 27 #[.pointer (some ⟨r, 0, none⟩), .int .i64 1] w fun e w' => e = .returned (.slice (some ⟨b, off, none⟩) 1 cap) ∧ (∃ off', Rdr w' r c b off' (cap - 1) bs) ∧ w.grownBy w' (some r)) := take_yes r c b off cap (u :: bs) w h 1 (by simp)
  have h0 : w.cell? ⟨b, off, none⟩ = some (.int .u8 (u.toNat : Int)) := by have := h.rd 0 (by simp); simpa using this
  have hne : Hid (some b ≠ some r) := fun e => by have := h.lt; injection e; omega
  clear h
  go_enter Try.func21, Try.ntmps21
  go_wp2_with (go_at_call 27; refine hT.out.mono ?_; rintro e w1 ⟨rfl, ⟨off1, k1⟩, g1⟩; have c1 := g1.cell h0 hne.out; have k1' : Hid (Rdr w1 r c b off1 (cap - 1) bs) := k1; clear k1 h0)
  go_ret
  exact ⟨rfl, ⟨off1, k1'.out⟩, g1⟩
theorem next_no (r : Nat) (c : Int) (b off cap : Nat) (w : World) (h : Rdr w r c b off cap []) :
    Calls Try.prog 21 #[.pointer (some ⟨r, 0, none⟩)] w fun e w' => e = gave c ∧ w = w' := by
  have hT : Hid (Calls Try.prog 27 #[.pointer (some ⟨r, 0, none⟩), .int .i64 1] w fun e w' => e = gave c ∧ w = w') := take_no r c b off cap [] w h 1 (by simp)
  clear h
  go_enter Try.func21, Try.ntmps21
  go_wp2_with (go_at_call 27; refine hT.out.mono ?_; rintro e w1 ⟨rfl, rfl⟩)
  exact ⟨rfl, rfl, rfl⟩
end Go.Proofs.Ythjgmjhgpjgdlab.Reader
