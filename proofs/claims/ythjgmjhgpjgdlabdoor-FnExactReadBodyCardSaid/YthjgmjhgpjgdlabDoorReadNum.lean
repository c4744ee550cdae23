/-
  The program's reader: numbers, and bytes that must be one of some.
-/
import Derived.Test.YthjgmjhgpjgdlabDoorReader
import Derived.Test.YthjgmjhgpjgdlabDoorPlainRd
import Derived.Test.YthjgmjhgpjgdlabDoorImplGets
import Derived.Test.YthjgmjhgpjgdlabDoorShelf
namespace Go.Proofs.YthjgmjhgpjgdlabDoor.ReadNum
open Go.RowKit PlainNum PlainLeb PlainGet PlainRd NumCalls ByteMem PutU Reader

/-- The reader in block r has the bytes bs to read, which lie in block b. -/
def RdX (w : World) (r : Nat) (c : Int) (b : Nat) (bs : List UInt8) : Prop := ∃ off cap, Rdr w r c b off cap bs
theorem RdX.isLt {w : World} {r : Nat} {c : Int} {b : Nat} {bs : List UInt8} (h : RdX w r c b bs) : r < w.heap.size := h.choose_spec.choose_spec.isLt
theorem RdX.lt {w : World} {r : Nat} {c : Int} {b : Nat} {bs : List UInt8} (h : RdX w r c b bs) : b < r := h.choose_spec.choose_spec.lt
theorem RdX.below {w w' : World} {r : Nat} {c : Int} {b : Nat} {bs : List UInt8} (h : RdX w r c b bs) (hb : Below w.heap.size w w') : RdX w' r c b bs := let ⟨o, k, x⟩ := h; ⟨o, k, x.below hb⟩
theorem RdX.kept {w w' : World} {q : Option Nat} {r : Nat} {c : Int} {b : Nat} {bs : List UInt8} (h : RdX w r c b bs) (hg : w.grownBy w' q) (h1 : some r ≠ q) (h2 : some b ≠ q) : RdX w' r c b bs := let ⟨o, k, x⟩ := h; ⟨o, k, x.kept hg h1 h2⟩
theorem RdX.alloc {w : World} {r : Nat} {c : Int} {b : Nat} {bs : List UInt8} (h : RdX w r c b bs) (o : Obj) : RdX (w.alloc o) r c b bs := let ⟨p, k, x⟩ := h; ⟨p, k, x.alloc o⟩
theorem grown_below {w w' : World} {q : Option Nat} (h : Below w.heap.size w w') : w.grownBy w' q := ⟨h.os, h.tape, h.output, h.size, fun k hk _ => h.block k hk⟩
theorem grown_none {w w' : World} {q : Option Nat} (h : w.grownBy w' none) : w.grownBy w' q := ⟨h.os, h.tape, h.output, h.size, fun k hk _ => h.block k hk (by simp)⟩
theorem grown_refl (w : World) (q : Option Nat) : w.grownBy w q := ⟨rfl, rfl, rfl, Nat.le_refl _, fun _ _ _ => rfl⟩
theorem gone {B : Nat} {w w' : World} {r : Nat} (h : w.grownBy w' (some r)) (hB : B ≤ w.heap.size) (hr : B ≤ r) : Below B w w' := (Below.refl B w).grown h hB (fun k hk => by injection hk; omega)
set_option maxHeartbeats 1000000 in
theorem number_yes (r : Nat) (c : Int) (b : Nat) (bs : List UInt8) (w : World) (h : RdX w r c b bs) (n k : Nat) (hg : gU bs = some (n, k)) (hl : bs.length ≤ 1048576) :
    Calls Tryd.prog 61 #[.pointer (some ⟨r, 0, none⟩)] w fun e w' => e = .returned (.int .i64 (n : Int)) ∧ RdX w' r c b (bs.drop k) ∧ w.grownBy w' (some r) := by
  obtain ⟨off, cap, h⟩ := h
  have hc := h.cell0
  have hG : Hid (Calls Tryd.prog 68 #[.slice (some ⟨b, off, none⟩) bs.length cap, .int .i64 0] w fun e w' => e = .returned (.tuple #[.int .i64 (n : Int), .int .i64 (k : Int), .bool true]) ∧ Below w.heap.size w w') := by
    have := ImplGets.impl_getU w b off cap bs 0 h.le (by omega) (Nat.lt_trans h.lt h.isLt) h.rd
    rw [ansU_0 hg] at this
    exact this
  have hle := gU_le hg
  have hT : Hid (∀ u, Below w.heap.size w u → Calls Tryd.prog 66 #[.pointer (some ⟨r, 0, none⟩), .int .i64 k] u fun e w' => e = .returned (.slice (some ⟨b, off, none⟩) k cap) ∧ (∃ off', Rdr w' r c b off' (cap - k) (bs.drop k)) ∧ u.grownBy w' (some r)) := fun u hu => take_yes r c b off cap bs u (h.below hu) k hle.2.1
  clear h hg
  go_enter Tryd.func61, Tryd.ntmps61
  go_wp2_with (first | (go_at_call 68; refine hG.out.mono ?_; rintro e w1 ⟨rfl, b1⟩) | (go_at_call 59; refine (must_yes _ _).mono ?_; rintro e w2 ⟨rfl, rfl⟩) | (go_at_call 66; refine (hT.out _ b1).mono ?_; rintro e w3 ⟨rfl, ⟨off3, k3⟩, g3⟩; have k3' : Hid (Rdr w3 r c b off3 (cap - k) (bs.drop k)) := k3; clear k3))
  go_ret
  exact ⟨rfl, ⟨_, _, k3'.out⟩, (grown_below b1).trans g3⟩
set_option maxHeartbeats 1000000 in
theorem number_no (r : Nat) (c : Int) (b : Nat) (bs : List UInt8) (w : World) (h : RdX w r c b bs) (hg : gU bs = none) (hl : bs.length ≤ 1048576) :
    Calls Tryd.prog 61 #[.pointer (some ⟨r, 0, none⟩)] w fun e w' => e = gave c ∧ w.grownBy w' (some r) := by
  obtain ⟨off, cap, h⟩ := h
  have hc := h.cell0
  have hG : Hid (Calls Tryd.prog 68 #[.slice (some ⟨b, off, none⟩) bs.length cap, .int .i64 0] w fun e w' => e = .returned (.tuple #[.int .i64 0, .int .i64 0, .bool false]) ∧ Below w.heap.size w w') := by
    have := ImplGets.impl_getU w b off cap bs 0 h.le (by omega) (Nat.lt_trans h.lt h.isLt) h.rd
    rw [ansU_0_no hg] at this
    exact this
  have hM : Hid (∀ u, Below w.heap.size w u → Calls Tryd.prog 59 #[.pointer (some ⟨r, 0, none⟩), .bool false] u fun e w' => e = gave c ∧ u = w') := fun u hu => must_no r c u (h.below hu).cell1
  clear h hg
  go_enter Tryd.func61, Tryd.ntmps61
  go_wp2_with (first | (go_at_call 68; refine hG.out.mono ?_; rintro e w1 ⟨rfl, b1⟩) | (go_at_call 59; refine (hM.out _ b1).mono ?_; rintro e w2 ⟨rfl, rfl⟩))
  exact ⟨rfl, rfl, grown_below b1⟩
set_option maxHeartbeats 1000000 in
theorem signed_yes (r : Nat) (c : Int) (b : Nat) (bs : List UInt8) (w : World) (h : RdX w r c b bs) (n : Int) (k : Nat) (hg : gS bs = some (n, k)) (hl : bs.length ≤ 1048576) :
    Calls Tryd.prog 62 #[.pointer (some ⟨r, 0, none⟩)] w fun e w' => e = .returned (.int .i64 n) ∧ RdX w' r c b (bs.drop k) ∧ w.grownBy w' (some r) := by
  obtain ⟨off, cap, h⟩ := h
  have hc := h.cell0
  have hG : Hid (Calls Tryd.prog 69 #[.slice (some ⟨b, off, none⟩) bs.length cap, .int .i64 0] w fun e w' => e = .returned (.tuple #[.int .i64 n, .int .i64 (k : Int), .bool true]) ∧ Below w.heap.size w w') := by
    have := ImplGets.impl_getS w b off cap bs 0 h.le (by omega) (Nat.lt_trans h.lt h.isLt) h.rd
    rw [ansS_0 hg] at this
    exact this
  have hle := gS_le hg
  have hT : Hid (∀ u, Below w.heap.size w u → Calls Tryd.prog 66 #[.pointer (some ⟨r, 0, none⟩), .int .i64 k] u fun e w' => e = .returned (.slice (some ⟨b, off, none⟩) k cap) ∧ (∃ off', Rdr w' r c b off' (cap - k) (bs.drop k)) ∧ u.grownBy w' (some r)) := fun u hu => take_yes r c b off cap bs u (h.below hu) k hle.2.1
  clear h hg
  go_enter Tryd.func62, Tryd.ntmps62
  go_wp2_with (first | (go_at_call 69; refine hG.out.mono ?_; rintro e w1 ⟨rfl, b1⟩) | (go_at_call 59; refine (must_yes _ _).mono ?_; rintro e w2 ⟨rfl, rfl⟩) | (go_at_call 66; refine (hT.out _ b1).mono ?_; rintro e w3 ⟨rfl, ⟨off3, k3⟩, g3⟩; have k3' : Hid (Rdr w3 r c b off3 (cap - k) (bs.drop k)) := k3; clear k3))
  go_ret
  exact ⟨rfl, ⟨_, _, k3'.out⟩, (grown_below b1).trans g3⟩
set_option maxHeartbeats 1000000 in
theorem signed_no (r : Nat) (c : Int) (b : Nat) (bs : List UInt8) (w : World) (h : RdX w r c b bs) (hg : gS bs = none) (hl : bs.length ≤ 1048576) :
    Calls Tryd.prog 62 #[.pointer (some ⟨r, 0, none⟩)] w fun e w' => e = gave c ∧ w.grownBy w' (some r) := by
  obtain ⟨off, cap, h⟩ := h
  have hc := h.cell0
  have hG : Hid (Calls Tryd.prog 69 #[.slice (some ⟨b, off, none⟩) bs.length cap, .int .i64 0] w fun e w' => e = .returned (.tuple #[.int .i64 0, .int .i64 0, .bool false]) ∧ Below w.heap.size w w') := by
    have := ImplGets.impl_getS w b off cap bs 0 h.le (by omega) (Nat.lt_trans h.lt h.isLt) h.rd
    rw [ansS_0_no hg] at this
    exact this
  have hM : Hid (∀ u, Below w.heap.size w u → Calls Tryd.prog 59 #[.pointer (some ⟨r, 0, none⟩), .bool false] u fun e w' => e = gave c ∧ u = w') := fun u hu => must_no r c u (h.below hu).cell1
  clear h hg
  go_enter Tryd.func62, Tryd.ntmps62
  go_wp2_with (first | (go_at_call 69; refine hG.out.mono ?_; rintro e w1 ⟨rfl, b1⟩) | (go_at_call 59; refine (hM.out _ b1).mono ?_; rintro e w2 ⟨rfl, rfl⟩))
  exact ⟨rfl, rfl, grown_below b1⟩
/-- Which of the bytes ds is u; -1 where none is. -/
def which (ds : List UInt8) (u : UInt8) : Int := Lib.indexByte ds u
theorem which_call (ds : List UInt8) (g : Nat) (cp : Nat) (u : UInt8) (w : World) (h : ∀ j, j < ds.length → w.cell? ⟨g, j, none⟩ = some (.int .u8 ((ds[j]?.getD 0).toNat : Int))) :
    Calls Tryd.prog 67 #[.slice (some ⟨g, 0, none⟩) ds.length cp, .int .u8 (u.toNat : Int)] w fun e w' => e = .returned (.int .i64 (which ds u)) ∧ w' = w := by
  have hx : Lib.bytesOf (ds.map fun x => (x.toNat : Int)) = ds := by
    unfold Lib.bytesOf
    rw [List.map_map]
    exact (List.map_congr_left (g := id) fun x _ => by simp).trans (List.map_id ds)
  have := Tryd.bytes_IndexByte g 0 ds.length cp (ds.map fun x => (x.toNat : Int)) (u.toNat : Int) w (by simp) (fun i hi => by
    rw [Nat.zero_add, h i hi]
    simp [hi])
  rw [hx] at this
  have e : ((u.toNat : Int)).toNat.toUInt8 = u := by simp
  rw [e] at this
  exact this
set_option maxHeartbeats 1000000 in
theorem oneOf_yes (r : Nat) (c : Int) (b : Nat) (u : UInt8) (bs : List UInt8) (w : World) (ds : List UInt8) (g cp : Nat) (h : RdX w r c b (u :: bs)) (hd : ∀ j, j < ds.length → w.cell? ⟨g, j, none⟩ = some (.int .u8 ((ds[j]?.getD 0).toNat : Int))) (hgr : g ≠ r) (hw : 0 ≤ which ds u) :
    Calls Tryd.prog 60 #[.pointer (some ⟨r, 0, none⟩), .slice (some ⟨g, 0, none⟩) ds.length cp] w fun e w' => e = .returned (.int .i64 (which ds u)) ∧ RdX w' r c b bs ∧ w.grownBy w' (some r) := by
  obtain ⟨off, cap, h⟩ := h
  have hN : Hid (Calls Tryd.prog 58 #[.pointer (some ⟨r, 0, none⟩)] w fun e w' => e = .returned (.int .u8 (u.toNat : Int)) ∧ (∃ off', Rdr w' r c b off' (cap - 1) bs) ∧ w.grownBy w' (some r)) := next_yes r c b off cap u bs w h
  have hI : Hid (∀ x, w.grownBy x (some r) → Calls Tryd.prog 67 #[.slice (some ⟨g, 0, none⟩) ds.length cp, .int .u8 (u.toNat : Int)] x fun e w' => e = .returned (.int .i64 (which ds u)) ∧ w' = x) := fun x hx => which_call ds g cp u x fun j hj => hx.cell (hd j hj) (fun e => by injection e; exact absurd (by assumption) hgr)
  clear h hd
  generalize which ds u = I at *
  go_enter Tryd.func60, Tryd.ntmps60
  go_wp2_with (first | (go_at_call 58; refine hN.out.mono ?_; rintro e w1 ⟨rfl, ⟨off1, k1⟩, g1⟩; have k1' : Hid (Rdr w1 r c b off1 (cap - 1) bs) := k1; clear k1) | (go_at_call 67; refine (hI.out _ g1).mono ?_; rintro e w2 ⟨rfl, rfl⟩) | (go_at_call 59; refine (must_yes _ _).mono ?_; rintro e w3 ⟨rfl, rfl⟩))
  go_ret
  exact ⟨rfl, ⟨_, _, k1'.out⟩, g1⟩
set_option maxHeartbeats 1000000 in
theorem oneOf_no (r : Nat) (c : Int) (b : Nat) (u : UInt8) (bs : List UInt8) (w : World) (ds : List UInt8) (g cp : Nat) (h : RdX w r c b (u :: bs)) (hd : ∀ j, j < ds.length → w.cell? ⟨g, j, none⟩ = some (.int .u8 ((ds[j]?.getD 0).toNat : Int))) (hgr : g ≠ r) (hw : which ds u < 0) :
    Calls Tryd.prog 60 #[.pointer (some ⟨r, 0, none⟩), .slice (some ⟨g, 0, none⟩) ds.length cp] w fun e w' => e = gave c ∧ w.grownBy w' (some r) := by
  obtain ⟨off, cap, h⟩ := h
  have hN : Hid (Calls Tryd.prog 58 #[.pointer (some ⟨r, 0, none⟩)] w fun e w' => e = .returned (.int .u8 (u.toNat : Int)) ∧ (∃ off', Rdr w' r c b off' (cap - 1) bs) ∧ w.grownBy w' (some r)) := next_yes r c b off cap u bs w h
  have hI : Hid (∀ x, w.grownBy x (some r) → Calls Tryd.prog 67 #[.slice (some ⟨g, 0, none⟩) ds.length cp, .int .u8 (u.toNat : Int)] x fun e w' => e = .returned (.int .i64 (which ds u)) ∧ w' = x) := fun x hx => which_call ds g cp u x fun j hj => hx.cell (hd j hj) (fun e => by injection e; exact absurd (by assumption) hgr)
  have hM : Hid (∀ u off' cap', Rdr u r c b off' cap' bs → Calls Tryd.prog 59 #[.pointer (some ⟨r, 0, none⟩), .bool false] u fun e w' => e = gave c ∧ u = w') := fun u _ _ hu => must_no r c u hu.cell1
  clear h hd
  generalize which ds u = I at *
  have hw' : ¬ 0 ≤ I := by omega
  have hd : decide (0 ≤ I) = false := decide_eq_false hw'
  go_enter Tryd.func60, Tryd.ntmps60
  go_wp2_with (first | (go_at_call 58; refine hN.out.mono ?_; rintro e w1 ⟨rfl, ⟨off1, k1⟩, g1⟩; have k1' : Hid (Rdr w1 r c b off1 (cap - 1) bs) := k1; clear k1) | (go_at_call 67; refine (hI.out _ g1).mono ?_; rintro e w2 ⟨rfl, rfl⟩) | (go_at_call 59; refine (hM.out _ _ _ k1'.out).mono ?_; rintro e w3 ⟨rfl, rfl⟩))
  exact ⟨rfl, rfl, g1⟩
theorem oneOf_end (r : Nat) (c : Int) (b : Nat) (w : World) (ds : List UInt8) (g cp : Nat) (h : RdX w r c b []) :
    Calls Tryd.prog 60 #[.pointer (some ⟨r, 0, none⟩), .slice (some ⟨g, 0, none⟩) ds.length cp] w fun e w' => e = gave c ∧ w.grownBy w' (some r) := by
  obtain ⟨off, cap, h⟩ := h
  have hN : Hid (Calls Tryd.prog 58 #[.pointer (some ⟨r, 0, none⟩)] w fun e w' => e = gave c ∧ w = w') := next_no r c b off cap w h
  clear h
  go_enter Tryd.func60, Tryd.ntmps60
  go_wp2_with (go_at_call 58; refine hN.out.mono ?_; rintro e w1 ⟨rfl, rfl⟩)
  exact ⟨rfl, rfl, grown_refl _ _⟩
end Go.Proofs.YthjgmjhgpjgdlabDoor.ReadNum
