/-
  PutName: what the specification's and the program's answer when they are called, and the walk of its exact law.
-/
import Derived.Test.YtffngjgjhialnaaGreatDoorPutULaw
import Derived.Test.YtffngjgjhialnaaGreatDoorImplPut
import Derived.Test.YtffngjgjhialnaaGreatDoorNameRows
import Derived.Lib.AppendStr
import Derived.Lib.ConvBytes
namespace Go.Proofs.YtffngjgjhialnaaGreatDoor.PutName
open Go.RowKit PlainNum PlainLeb NumCalls ByteMem PutU PutULaw NameRows

theorem cells_str (s : ByteArray) : Lib.strCells s = Lib.byteCells s.data.toList := rfl
theorem eqB' (w : World) (g g' : Nat) (cap cap' : Nat) (bs : List UInt8) (h : Blk w g bs) (h' : Blk w g' bs) (hn : bs.length ≤ 4194304) :
    Calls Tryz.prog 9 #[.slice (some ⟨g, 0, none⟩) bs.length cap, .slice (some ⟨g', 0, none⟩) bs.length cap'] w fun e w' => e = .returned (.bool true) ∧ ∃ m, w' = w.drewN m :=
  eqByteS w _ _ bs.length cap cap' _ _ h.rd h'.rd (by omega) fun _ _ => rfl
theorem bytes_grown (w : World) (e : TypeId) (s : ByteArray) : w.grownBy (Lib.bytesWorld w e s) none :=
  ⟨rfl, rfl, rfl, by rw [Lib.bytesWorld_size]; omega, fun k hk _ => Lib.bytesWorld_at_old w e s k hk⟩
theorem bytes_cells (w : World) (s : ByteArray) : ∀ j u, (Lib.strCells s)[j]? = some u → (Lib.bytesWorld w 5 s).cell? ((⟨w.heap.size, 0, none⟩ : Addr).add j) = some u := by
  intro j u hj
  have hl : j < s.size := by have := (List.getElem?_eq_some_iff.1 hj).1; rwa [Lib.strCells_length] at this
  have e : (⟨w.heap.size, 0, none⟩ : Addr).add j = ⟨w.heap.size, j, none⟩ := by cases j <;> simp [Addr.add]
  have hl' : j < s.data.toList.length := by simpa using hl
  rw [e, Lib.bytesWorld_cell w 5 s j hl]
  unfold Lib.strCells at hj
  rw [List.getElem?_map, List.getElem?_eq_getElem hl'] at hj
  simp only [Option.map_some, Option.some.injEq] at hj
  rw [← hj]
  simp only [List.getD, List.getElem?_eq_getElem hl', Option.getD_some]
theorem own_bytes {B n : Nat} {w : World} {v : Value} {xs : List Value} (h : w.ownsRow B 5 1 v n xs) (s : ByteArray) : (Lib.bytesWorld w 5 s).ownsRow B 5 1 v n xs :=
  h.kept (bytes_grown w 5 s) (by by_cases e : v.ownBlock = none; exact .inl e; exact .inr e)
theorem own_str {B : Nat} {w : World} {v : Value} {bs : List UInt8} {s : ByteArray} (h : w.ownsRow B 5 1 v (bs.length + s.size) (Lib.byteCells bs ++ Lib.strCells s)) : PutU.Own B w v (bs ++ s.data.toList) := by
  unfold PutU.Own
  rw [List.length_append, Lib.byteCells_append, ← cells_str]
  have : s.data.toList.length = s.size := by simp
  rw [this]
  exact h
set_option maxRecDepth 100000 in
set_option maxHeartbeats 2000000 in
theorem spec_putName (w : World) (ad : Addr) (cap : Nat) (bs : List UInt8) (s : ByteArray) (h : RdB w (some ad) bs) (hl : bs.length ≤ 1048576) (hs : s.size ≤ 1048576) :
    Calls Tryz.prog 78 #[.slice (some ad) bs.length cap, .string s] w fun e w' => ∃ v, e = .returned v ∧ PutU.Own w.heap.size w' v (bs ++ Lib.uvarint s.size ++ s.data.toList) ∧ Below w.heap.size w w' := by
  obtain ⟨i0, hi, hz0, hz1, hz2⟩ := info_parts info5
  have hp := spec_putU w ad cap bs (s.size : Int) h (by omega)
  rw [show ((s.size : Int) % 4294967296).toNat = s.size by omega] at hp
  have hul := Lib.uvarint_length64 (x := s.size) (by omega)
  have hcv := fun (w : World) => Lib.run_convert_string_bytes (P := Tryz.prog) w 9 31 5 s Tryz.underlying9 Tryz.underlying31 Tryz.underlying5
  have lR : (bs ++ Lib.uvarint s.size).length ≤ 1048596 := by rw [List.length_append]; omega
  generalize bs ++ Lib.uvarint s.size = R at *
  go_enter Tryz.func78, Tryz.ntmps78
  go_wp2_with (first | (go_at_call 76; refine hp.mono ?_; rintro e w1 ⟨v1, rfl, o1, b1⟩; have hsz1 := b1.size) | (at_builtin; refine wpList_append_own _ rfl _ _ 31 rfl w.heap.size 5 i0 (.int .u8 0) 1 1 Tryz.underlying31 hi hz0 hz1 hz2 rfl (by decide) _ _ _ rfl (own_bytes o1 s) ⟨w1.heap.size, 0, none⟩ s.size (grownCap w1 s.size 0 5) (Lib.strCells s) rfl (by rw [Lib.strCells_length, Nat.mul_one]) (bytes_cells w1 s) (Lib.strCells_oneCell s) (by unfold maxLen; omega) (by omega) (by rw [Lib.bytesWorld_size]; omega) ?_))
  intro v2 w2 hown hgrow _
  have b2 : Below w.heap.size w (Lib.bytesWorld w1 5 s) := b1.grown (bytes_grown w1 5 s) hsz1 (fun k hk => by cases hk)
  go_wp2_with fail
  go_ret
  exact ⟨v2, rfl, own_str hown, b2.grown hgrow (by rw [Lib.bytesWorld_size]; omega) (fun k hk => (o1.lt k hk).1)⟩
set_option maxRecDepth 100000 in
set_option maxHeartbeats 2000000 in
theorem appendName (a : Option Addr) (cap B : Nat) (bs : List UInt8) (s : ByteArray) (w : World) (ho : PutU.Own B w (.slice a bs.length cap) bs) (hB : B ≤ w.heap.size) (hl : bs.length ≤ 1048576) (hs : s.size ≤ 1048576) :
    Calls Tryz.prog 131 #[.slice a bs.length cap, .string s] w fun e w' => ∃ v, e = .returned v ∧ PutU.Own B w' v (bs ++ Lib.uvarint s.size ++ s.data.toList) ∧ Below B w w' := by
  obtain ⟨i0, hi, hz0, hz1, hz2⟩ := info_parts info5
  have hp := ImplPut.appendU a cap B bs (s.size : Int) w ho hB (by omega)
  rw [show ((s.size : Int) % 4294967296).toNat = s.size by omega] at hp
  have hul := Lib.uvarint_length64 (x := s.size) (by omega)
  have lR : (bs ++ Lib.uvarint s.size).length ≤ 1048596 := by rw [List.length_append]; omega
  generalize bs ++ Lib.uvarint s.size = R at *
  go_enter Tryz.func131, Tryz.ntmps131
  go_wp2_with (first | (go_at_call 130; refine hp.mono ?_; rintro e w1 ⟨v1, rfl, o1, b1⟩) | (at_builtin; refine Lib.wpList_append_own_string w1 rfl _ _ 31 9 rfl B 5 i0 Tryz.underlying31 Tryz.underlying9 hi hz0 hz1 hz2 _ _ _ rfl o1 s rfl (by unfold maxLen; omega) (by omega) (Nat.le_trans hB b1.size) ?_))
  intro v2 w2 hown hgrow _
  go_wp2_with fail
  go_ret
  exact ⟨v2, rfl, own_str hown, b1.grown hgrow (Nat.le_trans hB b1.size) (fun k hk => (o1.lt k hk).1)⟩
end Go.Proofs.YtffngjgjhialnaaGreatDoor.PutName
