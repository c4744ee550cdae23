/-
  The walk of the exact law of PutU, over a contract of the program's PutU: the same bytes, in new memory.
-/
import Derived.Test.YtgfdgeieojbgaaaPutU
namespace Go.Proofs.Ytgfdgeieojbgaaa.PutULaw
open Go.RowKit PlainNum NumCalls ByteMem PutU

/-- Block g of W begins with the bytes bs (and may be longer). -/
def Blk (W : World) (g : Nat) (bs : List UInt8) : Prop := ∃ cur : Array Value, W.heap[g]? = some (.cells cur 5 (0, 0)) ∧ bs.length ≤ cur.size ∧ cur.toList.take bs.length = Lib.byteCells bs
theorem Blk.lt {W : World} {g : Nat} {bs : List UInt8} (h : Blk W g bs) : g < W.heap.size := by
  obtain ⟨c, hb, _, _⟩ := h
  exact (Array.getElem?_eq_some_iff.1 hb).1
theorem Blk.of {W W' : World} {g : Nat} {bs : List UInt8} (h : Blk W g bs) (e : W'.heap[g]? = W.heap[g]?) : Blk W' g bs := by
  obtain ⟨c, hb, hl, hc⟩ := h
  exact ⟨c, e.trans hb, hl, hc⟩
theorem Blk.cell {W : World} {g : Nat} {bs : List UInt8} (h : Blk W g bs) (j : Nat) (hj : j < bs.length) : W.cell? ⟨g, j, none⟩ = some (.int .u8 ((bs[j]?.getD 0).toNat : Int)) := by
  obtain ⟨c, hb, hl, hc⟩ := h
  have hx : (c.toList.take bs.length)[j]? = (Lib.byteCells bs)[j]? := by rw [hc]
  rw [List.getElem?_take] at hx
  simp [hj, Lib.byteCells] at hx
  simp [World.cell?, hb, hx, hj]
theorem Blk.frozen {W : World} {g : Nat} {bs : List UInt8} (h : Blk W g bs) (j : Nat) : W.frozen? ⟨g, j, none⟩ = false := by
  obtain ⟨c, hb, _, _⟩ := h
  simp [World.frozen?, hb]
theorem byte_bounds (bs : List UInt8) (j : Nat) : 0 ≤ ((bs[j]?.getD 0).toNat : Int) ∧ ((bs[j]?.getD 0).toNat : Int) ≤ 255 := by
  have := (bs[j]?.getD 0).toNat_lt
  omega
theorem Blk.rd {W : World} {g : Nat} {bs : List UInt8} (h : Blk W g bs) : RdB W (some ⟨g, 0, none⟩) bs :=
  ⟨fun j _ => byte_bounds bs j, .inr ⟨g, 0, rfl, fun j hj => by rw [Nat.zero_add]; exact h.cell j hj⟩⟩
theorem Blk.wt {W : World} {g : Nat} {bs : List UInt8} (h : Blk W g bs) : Wt W (some ⟨g, 0, none⟩) bs.length :=
  .inr ⟨g, 0, rfl, fun j hj => ⟨⟨_, by rw [Nat.zero_add]; exact h.cell j hj⟩, by rw [Nat.zero_add]; exact h.frozen j⟩⟩
theorem own_blk {B : Nat} {W : World} {v : Value} {bs : List UInt8} (h : Own B W v bs) (hne : bs ≠ []) : ∃ g cap, v = .slice (some ⟨g, 0, none⟩) bs.length cap ∧ B ≤ g ∧ Blk W g bs := by
  rcases h.2 with ⟨_, h0⟩ | ⟨g, cap, cur, hv, hg, hb, hn, _, hs, hc⟩
  · exact absurd (List.length_eq_zero_iff.1 h0) hne
  · exact ⟨g, cap, hv, hg, cur, hb, by omega, by simpa using hc⟩
theorem row_blk {W : World} {g : Nat} {bs : List UInt8} (h : W.rowIs g 5 bs.length (fun j => .int .u8 ((bs[j]?.getD 0).toNat : Int))) : Blk W g bs := by
  obtain ⟨c, hb, hn, hc⟩ := h
  refine ⟨c, hb, by omega, ?_⟩
  apply List.ext_getElem?
  intro j
  by_cases hj : j < bs.length
  · have := hc j hj
    rw [List.getElem?_take, if_pos hj]
    simp [Lib.byteCells, hj] at this ⊢
    exact this
  · rw [List.getElem?_eq_none (by simp; omega), List.getElem?_eq_none (by rw [Lib.byteCells_length]; omega)]
theorem copyB (w0 w : World) (a : Option Addr) (cap : Nat) (bs : List UInt8) (h : RdB w0 a bs) (hn : bs.length ≤ 1048576) (hb : Below w0.heap.size w0 w) :
    Calls Try.prog 21 #[.slice a bs.length cap] w fun e w' => ∃ g, e = .returned (.slice (some ⟨g, 0, none⟩) bs.length bs.length) ∧ w.heap.size ≤ g ∧ Blk w' g bs ∧ Below w.heap.size w w' ∧ Below w0.heap.size w0 w' :=
  (toByteS w a bs.length cap _ (Rd.later h hb) hn).mono fun _ _ ⟨g, he, hg, hr, hb'⟩ => ⟨g, he, hg, row_blk hr, hb', hb.trans (hb'.mono hb.size)⟩
theorem eqB (w : World) (g g' : Nat) (cap cap' : Nat) (bs : List UInt8) (h : Blk w g bs) (h' : Blk w g' bs) (hn : bs.length ≤ 2097152) :
    Calls Try.prog 22 #[.slice (some ⟨g, 0, none⟩) bs.length cap, .slice (some ⟨g', 0, none⟩) bs.length cap'] w fun e w' => e = .returned (.bool true) ∧ ∃ m, w' = w.drewN m :=
  eqByteS w _ _ bs.length cap cap' _ _ h.rd h'.rd (by omega) fun _ _ => rfl
theorem Blk.below {W W' : World} {g : Nat} {bs : List UInt8} (h : Blk W g bs) (hb : Below W.heap.size W W') : Blk W' g bs := h.of (hb.block g h.lt)
theorem Blk.draws {W : World} {g : Nat} {bs : List UInt8} (h : Blk W g bs) (m : Nat) : Blk (W.drewN m) g bs := h
theorem Blk.only {W W' : World} {g g' : Nat} {bs : List UInt8} (h : Blk W g bs) (ho : Only W W' (some ⟨g', 0, none⟩)) (hne : g ≠ g') : Blk W' g bs :=
  h.of (ho.1.block g h.lt (by simp; exact hne))
theorem below_only {B : Nat} {W0 W W' : World} {g' : Nat} (hb : Below B W0 W) (ho : Only W W' (some ⟨g', 0, none⟩)) (hB : B ≤ W.heap.size) (hg : B ≤ g') : Below B W0 W' :=
  hb.grown ho.1 hB (fun k hk => by simp at hk; omega)
set_option maxHeartbeats 4000000 in
theorem law (a : Option Addr) (cap : Nat) (bs : List UInt8) (n : Int) (w : World) (h : RdB w a bs) (R : List UInt8) (hne : R ≠ []) (hRl' : bs.length ≤ 1048576 → R.length ≤ 2097152)
    (hspec : ∀ (w : World) (ad : Addr) (cap : Nat), RdB w (some ad) bs → bs.length ≤ 1048576 → Calls Try.prog 12 #[.slice (some ad) bs.length cap, .int .i64 n] w fun e w' => ∃ v, e = .returned v ∧ Own w.heap.size w' v R ∧ Below w.heap.size w w')
    (himpl : ∀ (w : World) (ad : Addr) (cap : Nat), RdB w (some ad) bs → bs.length ≤ 1048576 → Calls Try.prog 10 #[.slice (some ad) bs.length cap, .int .i64 n] w fun e w' => ∃ v, e = .returned v ∧ Own w.heap.size w' v R ∧ Below w.heap.size w w')
    (hl63 : bs.length ≤ 9223372036854775807) :
    Calls Try.prog 5 #[.slice a bs.length cap, .int .i64 n] w fun e w' => e = .returned (.bool true) ∧ Below w.heap.size w w' := by
  have hs' : Hid (∀ (w : World) (ad : Addr) (cap : Nat), RdB w (some ad) bs → bs.length ≤ 1048576 → Calls Try.prog 12 #[.slice (some ad) bs.length cap, .int .i64 n] w fun e w' => ∃ v, e = .returned v ∧ Own w.heap.size w' v R ∧ Below w.heap.size w w') := hspec
  have hi' : Hid (∀ (w : World) (ad : Addr) (cap : Nat), RdB w (some ad) bs → bs.length ≤ 1048576 → Calls Try.prog 10 #[.slice (some ad) bs.length cap, .int .i64 n] w fun e w' => ∃ v, e = .returned v ∧ Own w.heap.size w' v R ∧ Below w.heap.size w w') := himpl
  clear hspec himpl
  by_cases hbig : (1048576 : Int) < (bs.length : Int)
  · go_enter Try.func5, Try.ntmps5
    go_wp2_with fail
    go_ret
    exact ⟨rfl, Below.refl _ _⟩
  · have hn : bs.length ≤ 1048576 := by omega
    have hRl := hRl' hn
    go_enter Try.func5, Try.ntmps5
    go_wp2_with (go_at_call 21; refine (copyB w _ a cap bs h hn (Below.refl _ _)).mono ?_; rintro e w1 ⟨g1, rfl, hg1, k1, b1, c1⟩)
    go_wp2_with (go_at_call 12; refine (hs'.out _ _ _ k1.rd hn).mono ?_; rintro e w2 ⟨v0, rfl, o2, b2⟩; obtain ⟨g0, cap0, rfl, hg0, k2⟩ := own_blk o2 hne)
    have c2 := c1.trans (b2.mono c1.size)
    go_wp2_with (go_at_call 21; refine (copyB w _ a cap bs h hn c2).mono ?_; rintro e w3 ⟨gx, rfl, hgx, kx, b3, c3⟩)
    have k3 := k2.below b3
    go_wp2_with (go_at_call 10; refine (hi'.out _ _ _ kx.rd hn).mono ?_; rintro e w4 ⟨vg, rfl, o4, b4⟩; obtain ⟨gg, capg, rfl, hgg, kg⟩ := own_blk o4 hne)
    have c4 := c3.trans (b4.mono c3.size)
    have k4 := k3.below b4
    have kx4 := kx.below b4
    have l0 := k2.lt
    have lx := kx.lt
    go_wp2_with (go_at_call 22; refine (eqB _ _ _ _ _ R kg k4 hRl).mono ?_; rintro e w5 ⟨rfl, m5, rfl⟩)
    have c5 := below_drewN c4 m5
    clear o2 o4
    go_wp2_with (go_at_call 21; refine (copyB w _ a cap bs h hn c5).mono ?_; rintro e w6 ⟨gt, rfl, hgt, kt, b6, c6⟩)
    have kx6 := (kx4.draws m5).below b6
    have k6 := (k4.draws m5).below b6
    have kg6 := (kg.draws m5).below b6
    go_wp2_with (go_at_call 22; refine (eqB _ _ _ _ _ bs kx6 kt (by omega)).mono ?_; rintro e w7 ⟨rfl, m7, rfl⟩)
    have hsz := c2.size
    go_wp2_with (go_at_call 23; refine (markByteS _ _ _ _ 1 (kx6.draws m7).wt (by omega) (by omega) (by omega)).mono ?_; rintro e w8 ⟨rfl, r8, o8⟩)
    have k8 := (k6.draws m7).only o8 (by omega)
    have kg8 := (kg6.draws m7).only o8 (by omega)
    have c8 := below_only (below_drewN c6 m7) o8 (below_drewN c6 m7).size (by omega)
    go_wp2_with (go_at_call 22; refine (eqB _ _ _ _ _ R kg8 k8 hRl).mono ?_; rintro e w9 ⟨rfl, m9, rfl⟩)
    have hsz3 := c3.size
    go_wp2_with (go_at_call 23; refine (markByteS _ _ _ _ 1 (kg8.draws m9).wt (by omega) (by omega) (by omega)).mono ?_; rintro e w10 ⟨rfl, r10, o10⟩)
    have k10 := (k8.draws m9).only o10 (by omega)
    have c10 := below_only (below_drewN c8 m9) o10 (below_drewN c8 m9).size (by omega)
    go_wp2_with (go_at_call 24; refine (heldByteS _ _ _ _ 1 r10 (by omega) (by omega) (by omega)).mono ?_; rintro e w' ⟨rfl, rfl⟩)
    go_wp2_with (go_at_call 21; refine (copyB w _ a cap bs h hn c10).mono ?_; rintro e w11 ⟨gz, rfl, hgz, kz, b11, c11⟩)
    have k11 := k10.below b11
    have r11 := Rd.later r10 b11
    go_wp2_with (go_at_call 10; refine (hi'.out _ _ _ kz.rd hn).mono ?_; rintro e w12 ⟨vh, rfl, o12, b12⟩; obtain ⟨gh, caph, rfl, hgh, kh⟩ := own_blk o12 hne)
    have k12 := k11.below b12
    have r12 := Rd.later r11 b12
    have c12 := c11.trans (b12.mono c11.size)
    go_wp2_with (go_at_call 22; refine (eqB _ _ _ _ _ R kh k12 hRl).mono ?_; rintro e w13 ⟨rfl, m13, rfl⟩)
    have r13 : Rd (w12.drewN m13) (some ⟨gg, 0, none⟩) R.length (fun j => (1 + (j : Int)) % 256) := r12
    go_wp2_with (go_at_call 24; refine (heldByteS _ _ _ _ 1 r13 (by omega) (by omega) (by omega)).mono ?_; rintro e w' ⟨rfl, rfl⟩)
    go_ret
    exact ⟨rfl, below_drewN c12 _⟩
set_option maxHeartbeats 4000000 in
theorem lawS (a : Option Addr) (cap : Nat) (bs : List UInt8) (n : Int) (w : World) (h : RdB w a bs) (R : List UInt8) (hne : R ≠ []) (hRl' : bs.length ≤ 1048576 → R.length ≤ 2097152)
    (hspec : ∀ (w : World) (ad : Addr) (cap : Nat), RdB w (some ad) bs → bs.length ≤ 1048576 → Calls Try.prog 13 #[.slice (some ad) bs.length cap, .int .i64 n] w fun e w' => ∃ v, e = .returned v ∧ Own w.heap.size w' v R ∧ Below w.heap.size w w')
    (himpl : ∀ (w : World) (ad : Addr) (cap : Nat), RdB w (some ad) bs → bs.length ≤ 1048576 → Calls Try.prog 11 #[.slice (some ad) bs.length cap, .int .i64 n] w fun e w' => ∃ v, e = .returned v ∧ Own w.heap.size w' v R ∧ Below w.heap.size w w')
    (hl63 : bs.length ≤ 9223372036854775807) :
    Calls Try.prog 6 #[.slice a bs.length cap, .int .i64 n] w fun e w' => e = .returned (.bool true) ∧ Below w.heap.size w w' := by
  have hs' : Hid (∀ (w : World) (ad : Addr) (cap : Nat), RdB w (some ad) bs → bs.length ≤ 1048576 → Calls Try.prog 13 #[.slice (some ad) bs.length cap, .int .i64 n] w fun e w' => ∃ v, e = .returned v ∧ Own w.heap.size w' v R ∧ Below w.heap.size w w') := hspec
  have hi' : Hid (∀ (w : World) (ad : Addr) (cap : Nat), RdB w (some ad) bs → bs.length ≤ 1048576 → Calls Try.prog 11 #[.slice (some ad) bs.length cap, .int .i64 n] w fun e w' => ∃ v, e = .returned v ∧ Own w.heap.size w' v R ∧ Below w.heap.size w w') := himpl
  clear hspec himpl
  by_cases hbig : (1048576 : Int) < (bs.length : Int)
  · go_enter Try.func6, Try.ntmps6
    go_wp2_with fail
    go_ret
    exact ⟨rfl, Below.refl _ _⟩
  · have hn : bs.length ≤ 1048576 := by omega
    have hRl := hRl' hn
    go_enter Try.func6, Try.ntmps6
    go_wp2_with (go_at_call 21; refine (copyB w _ a cap bs h hn (Below.refl _ _)).mono ?_; rintro e w1 ⟨g1, rfl, hg1, k1, b1, c1⟩)
    go_wp2_with (go_at_call 13; refine (hs'.out _ _ _ k1.rd hn).mono ?_; rintro e w2 ⟨v0, rfl, o2, b2⟩; obtain ⟨g0, cap0, rfl, hg0, k2⟩ := own_blk o2 hne)
    have c2 := c1.trans (b2.mono c1.size)
    go_wp2_with (go_at_call 21; refine (copyB w _ a cap bs h hn c2).mono ?_; rintro e w3 ⟨gx, rfl, hgx, kx, b3, c3⟩)
    have k3 := k2.below b3
    go_wp2_with (go_at_call 11; refine (hi'.out _ _ _ kx.rd hn).mono ?_; rintro e w4 ⟨vg, rfl, o4, b4⟩; obtain ⟨gg, capg, rfl, hgg, kg⟩ := own_blk o4 hne)
    have c4 := c3.trans (b4.mono c3.size)
    have k4 := k3.below b4
    have kx4 := kx.below b4
    have l0 := k2.lt
    have lx := kx.lt
    go_wp2_with (go_at_call 22; refine (eqB _ _ _ _ _ R kg k4 hRl).mono ?_; rintro e w5 ⟨rfl, m5, rfl⟩)
    have c5 := below_drewN c4 m5
    clear o2 o4
    go_wp2_with (go_at_call 21; refine (copyB w _ a cap bs h hn c5).mono ?_; rintro e w6 ⟨gt, rfl, hgt, kt, b6, c6⟩)
    have kx6 := (kx4.draws m5).below b6
    have k6 := (k4.draws m5).below b6
    have kg6 := (kg.draws m5).below b6
    go_wp2_with (go_at_call 22; refine (eqB _ _ _ _ _ bs kx6 kt (by omega)).mono ?_; rintro e w7 ⟨rfl, m7, rfl⟩)
    have hsz := c2.size
    go_wp2_with (go_at_call 23; refine (markByteS _ _ _ _ 1 (kx6.draws m7).wt (by omega) (by omega) (by omega)).mono ?_; rintro e w8 ⟨rfl, r8, o8⟩)
    have k8 := (k6.draws m7).only o8 (by omega)
    have kg8 := (kg6.draws m7).only o8 (by omega)
    have c8 := below_only (below_drewN c6 m7) o8 (below_drewN c6 m7).size (by omega)
    go_wp2_with (go_at_call 22; refine (eqB _ _ _ _ _ R kg8 k8 hRl).mono ?_; rintro e w9 ⟨rfl, m9, rfl⟩)
    have hsz3 := c3.size
    go_wp2_with (go_at_call 23; refine (markByteS _ _ _ _ 1 (kg8.draws m9).wt (by omega) (by omega) (by omega)).mono ?_; rintro e w10 ⟨rfl, r10, o10⟩)
    have k10 := (k8.draws m9).only o10 (by omega)
    have c10 := below_only (below_drewN c8 m9) o10 (below_drewN c8 m9).size (by omega)
    go_wp2_with (go_at_call 24; refine (heldByteS _ _ _ _ 1 r10 (by omega) (by omega) (by omega)).mono ?_; rintro e w' ⟨rfl, rfl⟩)
    go_wp2_with (go_at_call 21; refine (copyB w _ a cap bs h hn c10).mono ?_; rintro e w11 ⟨gz, rfl, hgz, kz, b11, c11⟩)
    have k11 := k10.below b11
    have r11 := Rd.later r10 b11
    go_wp2_with (go_at_call 11; refine (hi'.out _ _ _ kz.rd hn).mono ?_; rintro e w12 ⟨vh, rfl, o12, b12⟩; obtain ⟨gh, caph, rfl, hgh, kh⟩ := own_blk o12 hne)
    have k12 := k11.below b12
    have r12 := Rd.later r11 b12
    have c12 := c11.trans (b12.mono c11.size)
    go_wp2_with (go_at_call 22; refine (eqB _ _ _ _ _ R kh k12 hRl).mono ?_; rintro e w13 ⟨rfl, m13, rfl⟩)
    have r13 : Rd (w12.drewN m13) (some ⟨gg, 0, none⟩) R.length (fun j => (1 + (j : Int)) % 256) := r12
    go_wp2_with (go_at_call 24; refine (heldByteS _ _ _ _ 1 r13 (by omega) (by omega) (by omega)).mono ?_; rintro e w' ⟨rfl, rfl⟩)
    go_ret
    exact ⟨rfl, below_drewN c12 _⟩
end Go.Proofs.Ytgfdgeieojbgaaa.PutULaw
