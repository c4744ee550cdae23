/-
  PutName: what the specification's and the program's answer when they are called, and the walk of its exact law.
-/
import Derived.Test.YtgfdgeieojbgaabPutULaw
import Derived.Test.YtgfdgeieojbgaabImplPut
import Derived.Test.YtgfdgeieojbgaabNameRows
import Derived.Lib.AppendStr
import Derived.Lib.ConvBytes
namespace Go.Proofs.Ytgfdgeieojbgaab.PutName
open Go.RowKit PlainNum PlainLeb NumCalls ByteMem PutU PutULaw NameRows

theorem cells_str (s : ByteArray) : Lib.strCells s = Lib.byteCells s.data.toList := rfl
theorem eqB' (w : World) (g g' : Nat) (cap cap' : Nat) (bs : List UInt8) (h : Blk w g bs) (h' : Blk w g' bs) (hn : bs.length ≤ 4194304) :
    Calls Try.prog 8 #[.slice (some ⟨g, 0, none⟩) bs.length cap, .slice (some ⟨g', 0, none⟩) bs.length cap'] w fun e w' => e = .returned (.bool true) ∧ ∃ m, w' = w.drewN m :=
  eqByteS w _ _ bs.length cap cap' _ _ h.rd h'.rd (by omega) fun _ _ => rfl
theorem bytes_grown (w : World) (e : TypeId) (s : ByteArray) : w.grownBy (Lib.bytesWorld w e s) none :=
  ⟨rfl, rfl, rfl, by rw [Lib.bytesWorld_size]; omega, fun k hk _ => Lib.bytesWorld_at_old w e s k hk⟩
theorem bytes_cells (w : World) (s : ByteArray) : ∀ j u, (Lib.strCells s)[j]? = some u → (Lib.bytesWorld w 5 s).cell? ((⟨w.heap.size, 0, none⟩ : Addr).add j) = some u := by
  intro j u hj
  have hl : j < s.size := by have := (List.getElem?_eq_some_iff.1 hj).1; rwa [Lib.strCells_length] at this
  have e : (⟨w.heap.size, 0, none⟩ : Addr).add j = ⟨w.heap.size, j, none⟩ := by cases j <;> simp [Addr.add]
  have hl' : j < s.data.toList.length := by simpa using hl
  rw [e, Lib.bytesWorld_cell w 5 s j hl]
  unfold Lib.strCells at hj
  rw [List.getElem?_map, List.getElem?_eq_getElem hl'] at hj
  simp only [Option.map_some, Option.some.injEq] at hj
  rw [← hj]
  simp only [List.getD, List.getElem?_eq_getElem hl', Option.getD_some]
theorem own_bytes {B n : Nat} {w : World} {v : Value} {xs : List Value} (h : w.ownsRow B 5 1 v n xs) (s : ByteArray) : (Lib.bytesWorld w 5 s).ownsRow B 5 1 v n xs :=
  h.kept (bytes_grown w 5 s) (by by_cases e : v.ownBlock = none; exact .inl e; exact .inr e)
theorem own_str {B : Nat} {w : World} {v : Value} {bs : List UInt8} {s : ByteArray} (h : w.ownsRow B 5 1 v (bs.length + s.size) (Lib.byteCells bs ++ Lib.strCells s)) : PutU.Own B w v (bs ++ s.data.toList) := by
  unfold PutU.Own
  rw [List.length_append, Lib.byteCells_append, ← cells_str]
  have : s.data.toList.length = s.size := by simp
  rw [this]
  exact h
set_option maxRecDepth 100000 in
set_option maxHeartbeats 2000000 in
theorem spec_putName (w : World) (ad : Addr) (cap : Nat) (bs : List UInt8) (s : ByteArray) (h : RdB w (some ad) bs) (hl : bs.length ≤ 1048576) (hs : s.size ≤ 1048576) :
    Calls Try.prog 5 #[.slice (some ad) bs.length cap, .string s] w fun e w' => ∃ v, e = .returned v ∧ PutU.Own w.heap.size w' v (bs ++ Lib.uvarint s.size ++ s.data.toList) ∧ Below w.heap.size w w' := by
  obtain ⟨i0, hi, hz0, hz1, hz2⟩ := info_parts info5
  have hp := spec_putU w ad cap bs (s.size : Int) h hl
  rw [show ((s.size : Int) % 4294967296).toNat = s.size by omega] at hp
  have hul := Lib.uvarint_length64 (x := s.size) (by omega)
  have hcv := fun (w : World) => Lib.run_convert_string_bytes (P := Try.prog) w 9 22 5 s Try.underlying9 Try.underlying22 Try.underlying5
  have lR : (bs ++ Lib.uvarint s.size).length ≤ 1048596 := by rw [List.length_append]; omega
  generalize bs ++ Lib.uvarint s.size = R at *
  go_enter Try.func5, Try.ntmps5
  go_wp2_with (first | (go_at_call 13; refine hp.mono ?_; rintro e w1 ⟨v1, rfl, o1, b1⟩; have hsz1 := b1.size) | (at_builtin; refine wpList_append_own _ rfl _ _ 22 rfl w.heap.size 5 i0 (.int .u8 0) 1 1 Try.underlying22 hi hz0 hz1 hz2 rfl (by decide) _ _ _ rfl (own_bytes o1 s) ⟨w1.heap.size, 0, none⟩ s.size (grownCap w1 s.size 0 5) (Lib.strCells s) rfl (by rw [Lib.strCells_length, Nat.mul_one]) (bytes_cells w1 s) (Lib.strCells_oneCell s) (by unfold maxLen; omega) (by omega) (by rw [Lib.bytesWorld_size]; omega) ?_))
  intro v2 w2 hown hgrow _
  have b2 : Below w.heap.size w (Lib.bytesWorld w1 5 s) := b1.grown (bytes_grown w1 5 s) hsz1 (fun k hk => by cases hk)
  go_wp2_with fail
  go_ret
  exact ⟨v2, rfl, own_str hown, b2.grown hgrow (by rw [Lib.bytesWorld_size]; omega) (fun k hk => (o1.lt k hk).1)⟩
set_option maxRecDepth 100000 in
set_option maxHeartbeats 2000000 in
theorem appendName (a : Option Addr) (cap B : Nat) (bs : List UInt8) (s : ByteArray) (w : World) (ho : PutU.Own B w (.slice a bs.length cap) bs) (hB : B ≤ w.heap.size) (hl : bs.length ≤ 1048576) (hs : s.size ≤ 1048576) :
    Calls Try.prog 14 #[.slice a bs.length cap, .string s] w fun e w' => ∃ v, e = .returned v ∧ PutU.Own B w' v (bs ++ Lib.uvarint s.size ++ s.data.toList) ∧ Below B w w' := by
  obtain ⟨i0, hi, hz0, hz1, hz2⟩ := info_parts info5
  have hp := ImplPut.appendU a cap B bs (s.size : Int) w ho hB (by omega)
  rw [show ((s.size : Int) % 4294967296).toNat = s.size by omega] at hp
  have hul := Lib.uvarint_length64 (x := s.size) (by omega)
  have lR : (bs ++ Lib.uvarint s.size).length ≤ 1048596 := by rw [List.length_append]; omega
  generalize bs ++ Lib.uvarint s.size = R at *
  go_enter Try.func14, Try.ntmps14
  go_wp2_with (first | (go_at_call 19; refine hp.mono ?_; rintro e w1 ⟨v1, rfl, o1, b1⟩) | (at_builtin; refine Lib.wpList_append_own_string w1 rfl _ _ 22 9 rfl B 5 i0 Try.underlying22 Try.underlying9 hi hz0 hz1 hz2 _ _ _ rfl o1 s rfl (by unfold maxLen; omega) (by omega) (Nat.le_trans hB b1.size) ?_))
  intro v2 w2 hown hgrow _
  go_wp2_with fail
  go_ret
  exact ⟨v2, rfl, own_str hown, b1.grown hgrow (Nat.le_trans hB b1.size) (fun k hk => (o1.lt k hk).1)⟩
set_option maxHeartbeats 1000000 in
theorem impl_putName (w : World) (ad : Addr) (cap : Nat) (bs : List UInt8) (s : ByteArray) (h : RdB w (some ad) bs) (hl : bs.length ≤ 1048576) (hs : s.size ≤ 1048576) :
    Calls Try.prog 7 #[.slice (some ad) bs.length cap, .string s] w fun e w' => ∃ v, e = .returned v ∧ PutU.Own w.heap.size w' v (bs ++ Lib.uvarint s.size ++ s.data.toList) ∧ Below w.heap.size w w' := by
  go_enter Try.func7, Try.ntmps7
  go_wp2_with (go_at_call 15; refine (ImplPut.clone _ _ _ _ h (by omega)).mono ?_; rintro e w1 ⟨v1, rfl, o1, b1⟩; obtain ⟨a1, c1, rfl⟩ := ImplPut.own_form o1)
  go_wp2_with (go_at_call 14; refine (appendName a1 c1 w.heap.size bs s w1 o1 b1.size hl hs).mono ?_; rintro e w2 ⟨v2, rfl, o2, b2⟩)
  go_ret
  exact ⟨v2, rfl, o2, b1.trans b2⟩
set_option maxHeartbeats 4000000 in
theorem lawN (a : Option Addr) (cap : Nat) (bs : List UInt8) (s : ByteArray) (w : World) (h : RdB w a bs) (R : List UInt8) (hne : R ≠ []) (hRl' : bs.length ≤ 1048576 → s.size ≤ 1048576 → R.length ≤ 4194304)
    (hspec : ∀ (w : World) (ad : Addr) (cap : Nat), RdB w (some ad) bs → bs.length ≤ 1048576 → s.size ≤ 1048576 → Calls Try.prog 5 #[.slice (some ad) bs.length cap, .string s] w fun e w' => ∃ v, e = .returned v ∧ PutU.Own w.heap.size w' v R ∧ Below w.heap.size w w')
    (himpl : ∀ (w : World) (ad : Addr) (cap : Nat), RdB w (some ad) bs → bs.length ≤ 1048576 → s.size ≤ 1048576 → Calls Try.prog 7 #[.slice (some ad) bs.length cap, .string s] w fun e w' => ∃ v, e = .returned v ∧ PutU.Own w.heap.size w' v R ∧ Below w.heap.size w w')
    (hl63 : bs.length ≤ 9223372036854775807) (hs63 : s.size ≤ 9223372036854775807) :
    Calls Try.prog 3 #[.slice a bs.length cap, .string s] w fun e w' => e = .returned (.bool true) ∧ Below w.heap.size w w' := by
  have hs' : Hid (∀ (w : World) (ad : Addr) (cap : Nat), RdB w (some ad) bs → bs.length ≤ 1048576 → s.size ≤ 1048576 → Calls Try.prog 5 #[.slice (some ad) bs.length cap, .string s] w fun e w' => ∃ v, e = .returned v ∧ PutU.Own w.heap.size w' v R ∧ Below w.heap.size w w') := hspec
  have hi' : Hid (∀ (w : World) (ad : Addr) (cap : Nat), RdB w (some ad) bs → bs.length ≤ 1048576 → s.size ≤ 1048576 → Calls Try.prog 7 #[.slice (some ad) bs.length cap, .string s] w fun e w' => ∃ v, e = .returned v ∧ PutU.Own w.heap.size w' v R ∧ Below w.heap.size w w') := himpl
  clear hspec himpl
  by_cases hbig : (1048576 : Int) < (bs.length : Int)
  · go_enter Try.func3, Try.ntmps3
    go_wp2_with fail
    go_ret
    exact ⟨rfl, Below.refl _ _⟩
  · have hn : bs.length ≤ 1048576 := by omega
    by_cases hbigS : (1048576 : Int) < (s.size : Int)
    · go_enter Try.func3, Try.ntmps3
      go_wp2_with fail
      go_ret
      exact ⟨rfl, Below.refl _ _⟩
    have hsn : s.size ≤ 1048576 := by omega
    have hRl := hRl' hn hsn
    go_enter Try.func3, Try.ntmps3
    go_wp2_with (go_at_call 6; refine (copyB w _ a cap bs h hn (Below.refl _ _)).mono ?_; rintro e w1 ⟨g1, rfl, hg1, k1, b1, c1⟩)
    go_wp2_with (go_at_call 5; refine (hs'.out _ _ _ k1.rd hn hsn).mono ?_; rintro e w2 ⟨v0, rfl, o2, b2⟩; obtain ⟨g0, cap0, rfl, hg0, k2⟩ := own_blk o2 hne)
    have c2 := c1.trans (b2.mono c1.size)
    go_wp2_with (go_at_call 6; refine (copyB w _ a cap bs h hn c2).mono ?_; rintro e w3 ⟨gx, rfl, hgx, kx, b3, c3⟩)
    have k3 := k2.below b3
    go_wp2_with (go_at_call 7; refine (hi'.out _ _ _ kx.rd hn hsn).mono ?_; rintro e w4 ⟨vg, rfl, o4, b4⟩; obtain ⟨gg, capg, rfl, hgg, kg⟩ := own_blk o4 hne)
    have c4 := c3.trans (b4.mono c3.size)
    have k4 := k3.below b4
    have kx4 := kx.below b4
    have l0 := k2.lt
    have lx := kx.lt
    go_wp2_with (go_at_call 8; refine (eqB' _ _ _ _ _ R kg k4 hRl).mono ?_; rintro e w5 ⟨rfl, m5, rfl⟩)
    have c5 := below_drewN c4 m5
    clear o2 o4
    go_wp2_with (go_at_call 6; refine (copyB w _ a cap bs h hn c5).mono ?_; rintro e w6 ⟨gt, rfl, hgt, kt, b6, c6⟩)
    have kx6 := (kx4.draws m5).below b6
    have k6 := (k4.draws m5).below b6
    have kg6 := (kg.draws m5).below b6
    go_wp2_with (go_at_call 8; refine (eqB _ _ _ _ _ bs kx6 kt (by omega)).mono ?_; rintro e w7 ⟨rfl, m7, rfl⟩)
    have hsz := c2.size
    go_wp2_with (go_at_call 9; refine (markByteS _ _ _ _ 1 (kx6.draws m7).wt (by omega) (by omega) (by omega)).mono ?_; rintro e w8 ⟨rfl, r8, o8⟩)
    have k8 := (k6.draws m7).only o8 (by omega)
    have kg8 := (kg6.draws m7).only o8 (by omega)
    have c8 := below_only (below_drewN c6 m7) o8 (below_drewN c6 m7).size (by omega)
    go_wp2_with (go_at_call 8; refine (eqB' _ _ _ _ _ R kg8 k8 hRl).mono ?_; rintro e w9 ⟨rfl, m9, rfl⟩)
    have hsz3 := c3.size
    go_wp2_with (go_at_call 9; refine (markByteS _ _ _ _ 1 (kg8.draws m9).wt (by omega) (by omega) (by omega)).mono ?_; rintro e w10 ⟨rfl, r10, o10⟩)
    have k10 := (k8.draws m9).only o10 (by omega)
    have c10 := below_only (below_drewN c8 m9) o10 (below_drewN c8 m9).size (by omega)
    go_wp2_with (go_at_call 10; refine (heldByteS _ _ _ _ 1 r10 (by omega) (by omega) (by omega)).mono ?_; rintro e w' ⟨rfl, rfl⟩)
    go_wp2_with (go_at_call 6; refine (copyB w _ a cap bs h hn c10).mono ?_; rintro e w11 ⟨gz, rfl, hgz, kz, b11, c11⟩)
    have k11 := k10.below b11
    have r11 := Rd.later r10 b11
    go_wp2_with (go_at_call 7; refine (hi'.out _ _ _ kz.rd hn hsn).mono ?_; rintro e w12 ⟨vh, rfl, o12, b12⟩; obtain ⟨gh, caph, rfl, hgh, kh⟩ := own_blk o12 hne)
    have k12 := k11.below b12
    have r12 := Rd.later r11 b12
    have c12 := c11.trans (b12.mono c11.size)
    go_wp2_with (go_at_call 8; refine (eqB' _ _ _ _ _ R kh k12 hRl).mono ?_; rintro e w13 ⟨rfl, m13, rfl⟩)
    have r13 : Rd (w12.drewN m13) (some ⟨gg, 0, none⟩) R.length (fun j => (1 + (j : Int)) % 256) := r12
    go_wp2_with (go_at_call 10; refine (heldByteS _ _ _ _ 1 r13 (by omega) (by omega) (by omega)).mono ?_; rintro e w' ⟨rfl, rfl⟩)
    go_ret
    exact ⟨rfl, below_drewN c12 _⟩
theorem fnExactPutName (a : Option Addr) (len cap : Nat) (zs : List Int) (s : ByteArray) (w : World)
    (h : (a = none ∧ len = 0 ∧ cap = 0 ∧ zs = []) ∨
      ∃ x, a = some x ∧ len ≤ cap ∧ cap ≤ maxLen ∧ zs.length = cap ∧ (∀ i, i < zs.length → w.cell? (x.add i) = some (.int .u8 (zs.getD i 0))) ∧ ∀ n ∈ zs, (Lit.int .u8 n).wf = true) (hs : s.size ≤ maxLen) :
    Calls Try.prog 3 #[.slice a len cap, .string s] w fun e w' => e = .returned (.bool true) ∧ Below w.heap.size w w' := by
  obtain ⟨bs, rfl, hr, hl⟩ := rdb_of_row h
  have hp := Lib.uvarint_pos s.size
  exact lawN a cap bs s w hr (bs ++ Lib.uvarint s.size ++ s.data.toList) (fun e => by have := congrArg List.length e; simp only [List.length_append, List.length_nil] at this; omega) (fun h h' => by
      have := Lib.uvarint_length64 (x := s.size) (by omega)
      have e2 : s.data.toList.length = s.size := by simp
      rw [List.length_append, List.length_append, e2]; omega)
    (fun w ad cap h hl hs => spec_putName w ad cap bs s h hl hs) (fun w ad cap h hl hs => impl_putName w ad cap bs s h hl hs) hl (by unfold maxLen at hs; omega)
end Go.Proofs.Ytgfdgeieojbgaab.PutName
