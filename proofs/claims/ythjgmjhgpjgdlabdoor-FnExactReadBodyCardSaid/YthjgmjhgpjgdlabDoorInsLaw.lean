/-
  The walk of the exact law of ReadBody.
-/
import Derived.Test.YthjgmjhgpjgdlabDoorOwnBytes
import Derived.Test.YthjgmjhgpjgdlabDoorSpecRdBody
namespace Go.Proofs.YthjgmjhgpjgdlabDoor.InsLaw
open Go.RowKit PlainNum NumCalls ByteMem PutU PutULaw PlainShape InsMem MarkIns OwnBytes OwnIns NameCalls ReadBodyI

/-- Instructions of one's own, from block B on, or nothing. -/
def OI (B : Nat) (W : World) (a : Option Addr) (l : List I3) : Prop :=
  (a = none ∧ l = []) ∨ ∃ g, a = some ⟨g, 0, none⟩ ∧ B ≤ g ∧ ∃ cur : Array Value, W.heap[g]? = some (.cells cur 38 (0, 0)) ∧ l.length * 3 ≤ cur.size ∧ cur.toList.take (l.length * 3) = cellsI l
theorem own_oi {B : Nat} {W : World} {v : Value} {l : List I3} (h : OwnI B W v l) : ∃ a cap, v = .slice a l.length cap ∧ OI B W a l := by
  rcases h.2 with ⟨hv, h0⟩ | ⟨g, cap, cur, hv, hg, hb, hn, _, hs, hc⟩
  · have h1 : l = [] := List.length_eq_zero_iff.1 h0
    exact ⟨none, 0, by rw [hv, h1]; rfl, .inl ⟨rfl, h1⟩⟩
  · exact ⟨_, cap, hv, .inr ⟨g, rfl, hg, cur, hb, by omega, hc⟩⟩
theorem cell_cur {W : World} {g : Nat} {cur : Array Value} {t : TypeId} {l : List I3} (hb : W.heap[g]? = some (.cells cur t (0, 0))) (hc : cur.toList.take (l.length * 3) = cellsI l) {j : Nat} {x : Value} (hj : (cellsI l)[j]? = some x) : W.cell? ⟨g, j, none⟩ = some x := by
  rw [← hc, List.getElem?_take] at hj
  split at hj
  · simp [World.cell?, hb]
    simpa using hj
  · cases hj
theorem OI.rd {B : Nat} {W : World} {a : Option Addr} {l : List I3} (h : OI B W a l) : RdI W a l := by
  rcases h with ⟨_, h0⟩ | ⟨g, ha, _, cur, hb, _, hc⟩
  · exact .inl (by rw [h0]; rfl)
  · refine .inr ⟨g, 0, ha, fun j hj => ?_⟩
    obtain ⟨c0, c1, c2⟩ := cells_at l j hj
    rw [Nat.zero_add]
    exact ⟨cell_cur hb hc c0, cell_cur hb hc c1, cell_cur hb hc c2⟩
theorem OI.wt {B : Nat} {W : World} {a : Option Addr} {l : List I3} (h : OI B W a l) : WtI W a l.length := by
  rcases h with ⟨_, h0⟩ | ⟨g, ha, _, cur, hb, hn, _⟩
  · exact .inl (by rw [h0]; rfl)
  · refine .inr ⟨g, 0, ha, fun j hj => ⟨⟨cur[j]'(by omega), ?_⟩, ?_⟩⟩
    · simp [World.cell?, hb]
    · simp [World.frozen?, hb]
theorem OI.of {B : Nat} {W W' : World} {a : Option Addr} {l : List I3} (h : OI B W a l) (he : ∀ g, a = some ⟨g, 0, none⟩ → g < W.heap.size → W'.heap[g]? = W.heap[g]?) : OI B W' a l := by
  rcases h with h0 | ⟨g, ha, hg, cur, hb, r⟩
  · exact .inl h0
  · exact .inr ⟨g, ha, hg, cur, (he g ha (Array.getElem?_eq_some_iff.1 hb).1).trans hb, r⟩
theorem OI.below {B : Nat} {W W' : World} {a : Option Addr} {l : List I3} (h : OI B W a l) (hb : Below W.heap.size W W') : OI B W' a l := h.of fun g _ hg => hb.block g hg
theorem OI.draws {B : Nat} {W : World} {a : Option Addr} {l : List I3} (h : OI B W a l) (m : Nat) : OI B (W.drewN m) a l := h
theorem OI.lt {B : Nat} {W : World} {a : Option Addr} {l : List I3} (h : OI B W a l) : ∀ p, a = some p → B ≤ p.block ∧ p.block < W.heap.size := by
  intro p hp
  rcases h with ⟨h0, _⟩ | ⟨g, ha, hg, cur, hb, _⟩
  · rw [h0] at hp; cases hp
  · rw [ha] at hp
    cases hp
    exact ⟨hg, (Array.getElem?_eq_some_iff.1 hb).1⟩
theorem OI.only {B : Nat} {W W' : World} {a a' : Option Addr} {l : List I3} (h : OI B W a l) (ho : Only W W' a') (hne : ∀ p p', a = some p → a' = some p' → p.block ≠ p'.block) : OI B W' a l :=
  h.of fun g hg hlt => ho.1.block g hlt fun e => by
    cases ha' : a' with
    | none => rw [ha'] at e; cases e
    | some p' =>
      rw [ha'] at e
      have := hne ⟨g, 0, none⟩ p' hg ha'
      simp at e
      exact this e
theorem blk_keep {W W' : World} {g : Nat} {bs : List UInt8} {a' : Option Addr} (h : Blk W g bs) (ho : Only W W' a') (hne : ∀ p', a' = some p' → g ≠ p'.block) : Blk W' g bs :=
  h.of (ho.1.block g h.lt fun e => by
    cases ha' : a' with
    | none => rw [ha'] at e; cases e
    | some p' =>
      rw [ha'] at e
      have := hne p' ha'
      simp at e
      exact this e)
theorem heldInsS (w : World) (a : Option Addr) (n cap : Nat) (q : Int) (h : MkI w a n q) (hn : n ≤ 1099511627776) (q0 : 0 ≤ q) (q1 : q ≤ 1099511627776) :
    Calls Tryd.prog 17 #[.slice a n cap, .int .i64 q] w fun e w' => e = .returned (.int .i64 (q + 3 * n)) ∧ w = w' := by
  rcases h with rfl | ⟨b, off, rfl, hc⟩
  · go_enter Tryd.func17, Tryd.ntmps17
    go_wp2_with fail
    refine wp_loop_rounds 1 ?_
    rw [rounds_succ]
    go_wp2_with fail
    go_ret
    exact ⟨by simp, rfl⟩
  · have hc' : Hid (∀ j, j < n * 3 → w.cell? ⟨b, off + j, none⟩ = some (.int .i64 (q + j))) := hc
    clear hc
    go_enter Tryd.func17, Tryd.ntmps17
    go_wp2_with fail
    go_loop [1, 5] (fun q' i => ∃ k : Nat, k ≤ n ∧ i = .int .i64 k ∧ q' = .int .i64 (q + 3 * k)) (fun _ i => n - (intOf i).toNat)
    case atStart => exact ⟨0, Nat.zero_le _, rfl, by simp⟩
    case round =>
      obtain ⟨k, hk, rfl, rfl⟩ := hrel
      by_cases hlt : k < n
      · have hlt' : (k : Int) < (n : Int) := by omega
        have c0 := hc'.out (k * 3) (by omega)
        have c1 := hc'.out (k * 3 + 1) (by omega)
        have c2 := hc'.out (k * 3 + 2) (by omega)
        rw [← Nat.add_assoc] at c1 c2
        rw [show q + ((k * 3 : Nat) : Int) = q + 3 * (k : Int) by omega] at c0
        rw [show q + ((k * 3 + 1 : Nat) : Int) = q + 3 * (k : Int) + 1 by omega] at c1
        rw [show q + ((k * 3 + 2 : Nat) : Int) = q + 3 * (k : Int) + 2 by omega] at c2
        go_wp2_with fail
        go_round
        case rel => exact ⟨k + 1, by omega, by go_num, by go_num⟩
        case measure => simp only [intOf]; omega
      · obtain rfl : k = n := by omega
        go_wp2_with fail
        go_ret
        exact ⟨rfl, rfl⟩
theorem read_is {P : Ending → World → Prop} {B : Nat} {w : World} {x : Option (List I3)} {f : FuncId} {args : Array Value}
    (h : Calls Tryd.prog f args w fun e w' => ((∃ l v, x = some l ∧ e = .returned (.tuple #[v, .bool true]) ∧ OwnI B w' v l) ∨ (x = none ∧ e = .returned (.tuple #[.slice none 0 0, .bool false]))) ∧ Below B w w')
    (hP : ∀ w' a cap, OI B w' a (x.getD []) → Below B w w' → P (.returned (.tuple #[.slice a (x.getD []).length cap, .bool x.isSome])) w') : Calls Tryd.prog f args w P := by
  refine h.mono ?_
  rintro e w' ⟨⟨l, v, rfl, rfl, ho⟩ | ⟨rfl, rfl⟩, hb⟩
  · obtain ⟨a, cap, rfl, hoi⟩ := own_oi ho
    exact hP w' a cap hoi hb
  · exact hP w' none 0 (.inl ⟨rfl, rfl⟩) hb
theorem blk_src {W : World} {g : Nat} {bs : List UInt8} (h : Blk W g bs) : Src W g 0 bs.length bs := ⟨fun j hj => by rw [Nat.zero_add]; exact h.cell j hj, Nat.le_refl _, h.lt⟩
set_option maxHeartbeats 4000000 in
theorem fnExactReadBody (a : Option Addr) (cap : Nat) (bs : List UInt8) (w : World) (h : RdB w a bs) (hm : bs.length ≤ 9223372036854775807) (ht : Tab w) (hgs : 0 < w.heap.size) :
    Calls Tryd.prog 4 #[.slice a bs.length cap] w fun e w' => e = .returned (.bool true) ∧ Below w.heap.size w w' := by
  have h' : Hid (RdB w a bs) := h
  have ht' : Hid (Tab w) := ht
  clear h ht
  by_cases hbig : (1048576 : Int) < (bs.length : Int)
  · go_enter Tryd.func4, Tryd.ntmps4
    go_wp2_with fail
    go_ret
    exact ⟨rfl, Below.refl _ _⟩
  · have hn : bs.length ≤ 1048576 := by omega
    have hRl : ((ansB bs).getD []).length ≤ 1500 := by
      unfold ansB
      cases rdAll' : PlainIns.rdAll bs.length bs with
      | none => simp
      | some l =>
        simp only
        split
        · rename_i h1; exact h1.1
        · simp
    have hS : Hid (∀ (u : World) (g : Nat), Blk u g bs → Calls Tryd.prog 14 #[.slice (some ⟨g, 0, none⟩) bs.length bs.length] u fun e w' => ∃ a c, e = .returned (.tuple #[.slice a ((ansB bs).getD []).length c, .bool (ansB bs).isSome]) ∧ OI u.heap.size w' a ((ansB bs).getD []) ∧ Below u.heap.size u w') := fun u g hr =>
      read_is (SpecRdBody.spec_readBody u g 0 bs.length bs (blk_src hr) hn) fun w' a c ho hb => ⟨a, c, rfl, ho, hb⟩
    have hI : Hid (∀ (u : World) (g : Nat), Blk u g bs → Below w.heap.size w u → Calls Tryd.prog 16 #[.slice (some ⟨g, 0, none⟩) bs.length bs.length] u fun e w' => ∃ a c, e = .returned (.tuple #[.slice a ((ansB bs).getD []).length c, .bool (ansB bs).isSome]) ∧ OI u.heap.size w' a ((ansB bs).getD []) ∧ Below u.heap.size u w') := fun u g hr hu =>
      read_is (impl_readBody u g 0 bs.length bs (blk_src hr) hn (ht'.out.later hu) (Nat.lt_of_lt_of_le hgs hu.size)) fun w' a c ho hb => ⟨a, c, rfl, ho, hb⟩
    generalize (ansB bs).getD [] = R at *
    generalize (ansB bs).isSome = F at *
    have hN3 : ¬ (1 + 3 * (R.length : Int)) < 0 := by omega
    go_enter Tryd.func4, Tryd.ntmps4
    go_wp2_with (go_at_call 15; refine (copyB w _ a cap bs h'.out hn (Below.refl _ _)).mono ?_; rintro e w1 ⟨g1, rfl, hg1, k1, b1, c1⟩)
    go_wp2_with (go_at_call 14; refine (hS.out _ _ k1).mono ?_; rintro e w2 ⟨a0, cap0, rfl, k2, b2⟩)
    have c2 := c1.trans (b2.mono c1.size)
    go_wp2_with (go_at_call 15; refine (copyB w _ a cap bs h'.out hn c2).mono ?_; rintro e w3 ⟨gx, rfl, hgx, kx, b3, c3⟩)
    have k3 := k2.below b3
    go_wp2_with (go_at_call 16; refine (hI.out _ _ kx c3).mono ?_; rintro e w4 ⟨ag, capg, rfl, kg, b4⟩)
    have c4 := c3.trans (b4.mono c3.size)
    have k4 := k3.below b4
    have kx4 := kx.below b4
    have l0 := k2.lt
    have lg := kg.lt
    have lx := kx.lt
    go_wp2_with (go_at_call 10; refine (eqInsS _ _ _ _ _ R kg.rd k4.rd (by omega)).mono ?_; rintro e w5 ⟨rfl, b5⟩)
    have c5 := c4.trans (b5.mono c4.size)
    go_wp2_with (go_at_call 15; refine (copyB w _ a cap bs h'.out hn c5).mono ?_; rintro e w6 ⟨gt, rfl, hgt, kt, b6, c6⟩)
    have kx6 := (kx4.below b5).below b6
    have k6 := (k4.below b5).below b6
    have kg6 := (kg.below b5).below b6
    go_wp2_with (go_at_call 9; refine (eqB _ _ _ _ _ bs kx6 kt (by omega)).mono ?_; rintro e w7 ⟨rfl, m7, rfl⟩)
    have z2 := b2.size
    have z3 := b3.size
    have z1 := c1.size
    go_wp2_with (go_at_call 12; refine (markByteS _ _ _ _ 1 (kx6.draws m7).wt (by omega) (by omega) (by omega)).mono ?_; rintro e w8 ⟨rfl, _, o8⟩)
    have k8 := (k6.draws m7).only o8 (fun p p' hp hp' => by cases hp'; have := (l0 p hp).2; show p.block ≠ gx; omega)
    have kg8 := (kg6.draws m7).only o8 (fun p p' hp hp' => by cases hp'; have := (lg p hp).1; show p.block ≠ gx; omega)
    have c8 := below_only' (below_drewN c6 m7) o8 (below_drewN c6 m7).size (fun p hp => by cases hp; show w.heap.size ≤ gx; omega)
    go_wp2_with (go_at_call 10; refine (eqInsS _ _ _ _ _ R kg8.rd k8.rd (by omega)).mono ?_; rintro e w9 ⟨rfl, b9⟩)
    have c9 := c8.trans (b9.mono c8.size)
    have k9 := k8.below b9
    have kg9 := kg8.below b9
    go_wp2_with (go_at_call 11; refine (markInsS _ _ _ _ 1 kg9.wt (by omega) (by omega) (by omega)).mono ?_; rintro e w10 ⟨rfl, r10, o10⟩)
    have k10 := k9.only o10 (fun p p' hp hp' => by have := (l0 p hp).2; have := (lg p' hp').1; omega)
    have c10 := below_only' c9 o10 c9.size (fun p hp => by have := (lg p hp).1; omega)
    go_wp2_with (go_at_call 17; refine (heldInsS _ _ _ _ 1 r10 (by omega) (by omega) (by omega)).mono ?_; rintro e w' ⟨rfl, rfl⟩)
    go_wp2_with (go_at_call 15; refine (copyB w _ a cap bs h'.out hn c10).mono ?_; rintro e w11 ⟨gz, rfl, hgz, kz, b11, c11⟩)
    have k11 := k10.below b11
    have r11 := MkI.later r10 b11
    go_wp2_with (go_at_call 16; refine (hI.out _ _ kz c11).mono ?_; rintro e w12 ⟨ah, caph, rfl, kh, b12⟩)
    have k12 := k11.below b12
    have r12 := MkI.later r11 b12
    have c12 := c11.trans (b12.mono c11.size)
    go_wp2_with (go_at_call 10; refine (eqInsS _ _ _ _ _ R kh.rd k12.rd (by omega)).mono ?_; rintro e w13 ⟨rfl, b13⟩)
    have r13 := MkI.later r12 b13
    go_wp2_with (go_at_call 17; refine (heldInsS _ _ _ _ 1 r13 (by omega) (by omega) (by omega)).mono ?_; rintro e w' ⟨rfl, rfl⟩)
    go_ret
    exact ⟨rfl, c12.trans (b13.mono c12.size)⟩
theorem fnExactReadBodyT (a : Option Addr) (cap : Nat) (bs : List UInt8) (w : World) (h : RdB w a bs) (hm : bs.length ≤ 9223372036854775807) (ht : Tab w) :
    Calls Tryd.prog 4 #[.slice a bs.length cap] w fun e w' => e = .returned (.bool true) ∧ Below w.heap.size w w' :=
  fnExactReadBody a cap bs w h hm ht (World.block_lt_of_cell? w _ (ht 0 (by decide)))
end Go.Proofs.YthjgmjhgpjgdlabDoor.InsLaw
