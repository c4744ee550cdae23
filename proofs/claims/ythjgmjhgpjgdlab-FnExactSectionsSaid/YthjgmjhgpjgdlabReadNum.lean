/-
  The program's reader: numbers, and bytes that must be one of some.
-/
import Derived.Test.YthjgmjhgpjgdlabReader
import Derived.Test.YthjgmjhgpjgdlabPlainRd
import Derived.Test.YthjgmjhgpjgdlabImplGets
import Derived.Test.YthjgmjhgpjgdlabShelf
namespace Go.Proofs.Ythjgmjhgpjgdlab.ReadNum
open Go.RowKit PlainNum PlainLeb PlainGet PlainRd NumCalls ByteMem PutU Reader

/-- The reader in block r has the bytes bs to read, which lie in block b. -/
def RdX (w : World) (r : Nat) (c : Int) (b : Nat) (bs : List UInt8) : Prop := ∃ off cap, Rdr w r c b off cap bs
theorem RdX.isLt {w : World} {r : Nat} {c : Int} {b : Nat} {bs : List UInt8} (h : RdX w r c b bs) : r < w.heap.size := h.choose_spec.choose_spec.isLt
theorem RdX.lt {w : World} {r : Nat} {c : Int} {b : Nat} {bs : List UInt8} (h : RdX w r c b bs) : b < r := h.choose_spec.choose_spec.lt
theorem RdX.below {w w' : World} {r : Nat} {c : Int} {b : Nat} {bs : List UInt8} (h : RdX w r c b bs) (hb : Below w.heap.size w w') : RdX w' r c b bs := let ⟨o, k, x⟩ := h; ⟨o, k, x.below hb⟩
theorem RdX.kept {w w' : World} {q : Option Nat} {r : Nat} {c : Int} {b : Nat} {bs : List UInt8} (h : RdX w r c b bs) (hg : w.grownBy w' q) (h1 : some r ≠ q) (h2 : some b ≠ q) : RdX w' r c b bs := let ⟨o, k, x⟩ := h; ⟨o, k, x.kept hg h1 h2⟩
theorem RdX.alloc {w : World} {r : Nat} {c : Int} {b : Nat} {bs : List UInt8} (h : RdX w r c b bs) (o : Obj) : RdX (w.alloc o) r c b bs := let ⟨p, k, x⟩ := h; ⟨p, k, x.alloc o⟩
theorem grown_below {w w' : World} {q : Option Nat} (h : Below w.heap.size w w') : w.grownBy w' q := ⟨h.os, h.tape, h.output, h.size, fun k hk _ => h.block k hk⟩
theorem grown_none {w w' : World} {q : Option Nat} (h : w.grownBy w' none) : w.grownBy w' q := ⟨h.os, h.tape, h.output, h.size, fun k hk _ => h.block k hk (by simp)⟩
theorem grown_refl (w : World) (q : Option Nat) : w.grownBy w q := ⟨rfl, rfl, rfl, Nat.le_refl _, fun _ _ _ => rfl⟩
theorem gone {B : Nat} {w w' : World} {r : Nat} (h : w.grownBy w' (some r)) (hB : B ≤ w.heap.size) (hr : B ≤ r) : Below B w w' := (Below.refl B w).grown h hB (fun k hk => by injection hk; omega)
set_option maxHeartbeats 1000000 in
theorem number_yes (r : Nat) (c : Int) (b : Nat) (bs : List UInt8) (w : World) (h : RdX w r c b bs) (n k : Nat) (hg : gU bs = some (n, k)) (hl : bs.length ≤ 1048576) :
    Calls Try.prog 28 #[.pointer (some ⟨r, 0, none⟩)] w fun e w' => e = .returned (.int .i64 (n : Int)) ∧ RdX w' r c b (bs.drop k) ∧ w.grownBy w' (some r) := by
  obtain ⟨off, cap, h⟩ := h
  have hc := h.cell0
  have hG : Hid (Calls Try.prog 29 #[.slice (some ⟨b, off, none⟩) bs.length cap, .int .i64 0] w fun e w' => e = .returned (.tuple #[.int .i64 (n : Int), .int .i64 (k : Int), .bool true]) ∧ Below w.heap.size w w') := by
    have := ImplGets.impl_getU w b off cap bs 0 h.le (by omega) (Nat.lt_trans h.lt h.isLt) h.rd
    rw [ansU_0 hg] at this
    exact this
  have hle := gU_le hg
  have hT : Hid (∀ u, Below w.heap.size w u → Calls Try.prog 27 #[.pointer (some ⟨r, 0, none⟩), .int .i64 k] u fun e w' => e = .returned (.slice (some ⟨b, off, none⟩) k cap) ∧ (∃ off', Rdr w' r c b off' (cap - k) (bs.drop k)) ∧ u.grownBy w' (some r)) := fun u hu => take_yes r c b off cap bs u (h.below hu) k hle.2.1
  clear h hg
  go_enter Try.func28, Try.ntmps28
  go_wp2_with (first | (go_at_call 29; refine hG.out.mono ?_; rintro e w1 ⟨rfl, b1⟩) | (go_at_call 22; refine (must_yes _ _).mono ?_; rintro e w2 ⟨rfl, rfl⟩) | (go_at_call 27; refine (hT.out _ b1).mono ?_; rintro e w3 ⟨rfl, ⟨off3, k3⟩, g3⟩; have k3' : Hid (Rdr w3 r c b off3 (cap - k) (bs.drop k)) := k3; clear k3))
  go_ret
  exact ⟨rfl, ⟨_, _, k3'.out⟩, (grown_below b1).trans g3⟩
set_option maxHeartbeats 1000000 in
theorem number_no (r : Nat) (c : Int) (b : Nat) (bs : List UInt8) (w : World) (h : RdX w r c b bs) (hg : gU bs = none) (hl : bs.length ≤ 1048576) :
    Calls Try.prog 28 #[.pointer (some ⟨r, 0, none⟩)] w fun e w' => e = gave c ∧ w.grownBy w' (some r) := by
  obtain ⟨off, cap, h⟩ := h
  have hc := h.cell0
  have hG : Hid (Calls Try.prog 29 #[.slice (some ⟨b, off, none⟩) bs.length cap, .int .i64 0] w fun e w' => e = .returned (.tuple #[.int .i64 0, .int .i64 0, .bool false]) ∧ Below w.heap.size w w') := by
    have := ImplGets.impl_getU w b off cap bs 0 h.le (by omega) (Nat.lt_trans h.lt h.isLt) h.rd
    rw [ansU_0_no hg] at this
    exact this
  have hM : Hid (∀ u, Below w.heap.size w u → Calls Try.prog 22 #[.pointer (some ⟨r, 0, none⟩), .bool false] u fun e w' => e = gave c ∧ u = w') := fun u hu => must_no r c u (h.below hu).cell1
  clear h hg
  go_enter Try.func28, Try.ntmps28
  go_wp2_with (first | (go_at_call 29; refine hG.out.mono ?_; rintro e w1 ⟨rfl, b1⟩) | (go_at_call 22; refine (hM.out _ b1).mono ?_; rintro e w2 ⟨rfl, rfl⟩))
  exact ⟨rfl, rfl, grown_below b1⟩
end Go.Proofs.Ythjgmjhgpjgdlab.ReadNum
