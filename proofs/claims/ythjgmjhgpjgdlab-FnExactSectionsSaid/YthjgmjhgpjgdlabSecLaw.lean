/-
  The walk of the exact law of Sections.
-/
import Derived.Test.YthjgmjhgpjgdlabNumMem
import Derived.Test.YthjgmjhgpjgdlabSecSpec
import Derived.Test.YthjgmjhgpjgdlabPutULaw
namespace Go.Proofs.Ythjgmjhgpjgdlab.SecLaw
open Go.RowKit PlainNum NumCalls ByteMem PutU PutULaw PlainSec PlainRd SecAll SecImpl SecSpec NumMem

theorem secs_len : ∀ (f : Nat) (last : Int) (bs : List UInt8) (l : List Int), secs f last bs = some l → l.length ≤ f := by
  intro f
  induction f with
  | zero =>
    intro last bs l h
    cases bs with
    | nil => rw [secs_nil] at h; simp at h; subst h; simp
    | cons u r => cases h
  | succ f ih =>
    intro last bs l h
    by_cases h0 : bs = []
    · subst h0; rw [secs_nil] at h; simp at h; subst h; simp
    · cases hi : rdSec last bs with
      | none => rw [secs_no h0 hi] at h; cases h
      | some p =>
        obtain ⟨i, k⟩ := p
        rw [secs_yes hi] at h
        cases hr : secs f i (bs.drop k) with
        | none => rw [hr] at h; cases h
        | some l2 =>
          rw [hr] at h
          simp only [Option.map_some, Option.some.injEq] at h
          have := ih _ _ _ hr
          rw [← h, List.length_cons]
          omega
theorem ans_len {bs : List UInt8} {l : List Int} (h : ansSec bs = some l) : l.length ≤ bs.length := by
  unfold ansSec at h
  split at h
  · have := secs_len _ _ _ _ h
    rw [List.length_drop] at this
    omega
  · cases h
theorem below_only' {B : Nat} {W0 W W' : World} {a' : Option Addr} (hb : Below B W0 W) (ho : Only W W' a') (hB : B ≤ W.heap.size) (hg : ∀ p, a' = some p → B ≤ p.block) : Below B W0 W' :=
  hb.grown ho.1 hB (fun k hk => by
    cases ha : a' with
    | none => rw [ha] at hk; cases hk
    | some p =>
      rw [ha] at hk
      simp at hk
      have := hg p ha
      omega)
theorem blk_src {W : World} {g : Nat} {bs : List UInt8} (h : Blk W g bs) : Src W g 0 bs.length bs := ⟨fun j hj => by rw [Nat.zero_add]; exact h.cell j hj, Nat.le_refl _, h.lt⟩
theorem spec_sections (w : World) (b off cap : Nat) (bs : List UInt8) (hs : Src w b off cap bs) (hl : bs.length ≤ 1048576) :
    Calls Try.prog 4 #[.slice (some ⟨b, off, none⟩) bs.length cap] w fun e w' => ((∃ ids v, ansSec bs = some ids ∧ e = .returned (.tuple #[v, .bool true]) ∧ OwnN w.heap.size w' v ids) ∨ (ansSec bs = none ∧ e = .returned (.tuple #[.slice none 0 0, .bool false]))) ∧ Below w.heap.size w w' := by
  have h1 := spec_cut w b off cap bs hs hl
  clear hs
  cases hR : ansSec bs with
  | none =>
    rw [hR] at h1
    have hC : Hid (Calls Try.prog 12 #[.slice (some ⟨b, off, none⟩) bs.length cap] w fun e w' => ∃ c, (c = 1 ∨ c = 2) ∧ e = .returned (.tuple #[.slice none 0 0, .slice none 0 0, .int .i64 c]) ∧ Below w.heap.size w w') := h1.mono (by
      rintro e w' ⟨⟨_, _, _, h, _⟩ | ⟨_, c, hc, he⟩, hb⟩
      · cases h
      · exact ⟨c, hc, he, hb⟩)
    clear h1 hR
    go_enter Try.func4, Try.ntmps4
    go_wp2_with (go_at_call 12; refine hC.out.mono ?_; rintro e w1 ⟨c, hc, rfl, b1⟩; rcases hc with rfl | rfl)
    all_goals
      go_ret2
      refine ⟨.inr ?_, b1⟩
      first
        | exact ⟨trivial, rfl⟩
        | exact ⟨rfl, rfl⟩
  | some ids =>
    rw [hR] at h1
    have hC : Hid (Calls Try.prog 12 #[.slice (some ⟨b, off, none⟩) bs.length cap] w fun e w' => ∃ v v2, e = .returned (.tuple #[v, v2, .int .i64 0]) ∧ OwnN w.heap.size w' v ids ∧ Below w.heap.size w w') := h1.mono (by
      rintro e w' ⟨⟨_, v, v2, h, he, ho⟩ | ⟨h, _⟩, hb⟩
      · cases h
        exact ⟨v, v2, he, ho, hb⟩
      · cases h)
    clear h1 hR
    go_enter Try.func4, Try.ntmps4
    go_wp2_with (go_at_call 12; refine hC.out.mono ?_; rintro e w1 ⟨v, v2, rfl, o1, b1⟩; have o1' : Hid (OwnN w.heap.size w1 v ids) := o1; clear o1)
    go_ret2
    refine ⟨.inl ?_, b1⟩
    first
      | exact ⟨ids, _, rfl, rfl, o1'.out⟩
      | exact ⟨_, rfl, o1'.out⟩
      | (refine ⟨ids, rfl, ?_⟩; simpa using o1'.out)
theorem read_is {P : Ending → World → Prop} {B : Nat} {w : World} {x : Option (List Int)} {f : FuncId} {args : Array Value}
    (h : Calls Try.prog f args w fun e w' => ((∃ l v, x = some l ∧ e = .returned (.tuple #[v, .bool true]) ∧ OwnN B w' v l) ∨ (x = none ∧ e = .returned (.tuple #[.slice none 0 0, .bool false]))) ∧ Below B w w')
    (hP : ∀ w' a cap, ON B w' a (x.getD []) → Below B w w' → P (.returned (.tuple #[.slice a (x.getD []).length cap, .bool x.isSome])) w') : Calls Try.prog f args w P := by
  refine h.mono ?_
  rintro e w' ⟨⟨l, v, rfl, rfl, ho⟩ | ⟨rfl, rfl⟩, hb⟩
  · obtain ⟨a, cap, rfl, hoi⟩ := own_on ho
    exact hP w' a cap hoi hb
  · exact hP w' none 0 (.inl ⟨rfl, rfl⟩) hb
set_option maxHeartbeats 4000000 in
theorem fnExactSections (a : Option Addr) (cap : Nat) (bs : List UInt8) (w : World) (h : RdB w a bs) (hm : bs.length ≤ 9223372036854775807) :
    Calls Try.prog 3 #[.slice a bs.length cap] w fun e w' => e = .returned (.bool true) ∧ Below w.heap.size w w' := by
  have h' : Hid (RdB w a bs) := h
  clear h
  by_cases hbig : (1048576 : Int) < (bs.length : Int)
  · go_enter Try.func3, Try.ntmps3
    go_wp2_with fail
    go_ret
    exact ⟨rfl, Below.refl _ _⟩
  · have hn : bs.length ≤ 1048576 := by omega
    have hRl : ((ansSec bs).getD []).length ≤ 1048576 := by
      cases hA : ansSec bs with
      | none => simp
      | some l => have := ans_len hA; simp; omega
    have hS : Hid (∀ (u : World) (g : Nat), Blk u g bs → Calls Try.prog 4 #[.slice (some ⟨g, 0, none⟩) bs.length bs.length] u fun e w' => ∃ a c, e = .returned (.tuple #[.slice a ((ansSec bs).getD []).length c, .bool (ansSec bs).isSome]) ∧ ON u.heap.size w' a ((ansSec bs).getD []) ∧ Below u.heap.size u w') := fun u g hr =>
      read_is (spec_sections u g 0 bs.length bs (blk_src hr) hn) fun w' a c ho hb => ⟨a, c, rfl, ho, hb⟩
    have hI : Hid (∀ (u : World) (g : Nat), Blk u g bs → Calls Try.prog 6 #[.slice (some ⟨g, 0, none⟩) bs.length bs.length] u fun e w' => ∃ a c, e = .returned (.tuple #[.slice a ((ansSec bs).getD []).length c, .bool (ansSec bs).isSome]) ∧ ON u.heap.size w' a ((ansSec bs).getD []) ∧ Below u.heap.size u w') := fun u g hr =>
      read_is (impl_sections u g 0 bs.length bs (blk_src hr) hn (fun ids hA => by have := ans_len hA; omega)) fun w' a c ho hb => ⟨a, c, rfl, ho, hb⟩
    generalize (ansSec bs).getD [] = R at *
    generalize (ansSec bs).isSome = F at *
    have hN3 : ¬ (1 + (R.length : Int)) < 0 := by omega
    go_enter Try.func3, Try.ntmps3
    go_wp2_with (go_at_call 5; refine (copyB w _ a cap bs h'.out hn (Below.refl _ _)).mono ?_; rintro e w1 ⟨g1, rfl, hg1, k1, b1, c1⟩)
    go_wp2_with (go_at_call 4; refine (hS.out _ _ k1).mono ?_; rintro e w2 ⟨a0, cap0, rfl, k2, b2⟩)
    have c2 := c1.trans (b2.mono c1.size)
    go_wp2_with (go_at_call 5; refine (copyB w _ a cap bs h'.out hn c2).mono ?_; rintro e w3 ⟨gx, rfl, hgx, kx, b3, c3⟩)
    have k3 := k2.below b3
    go_wp2_with (go_at_call 6; refine (hI.out _ _ kx).mono ?_; rintro e w4 ⟨ag, capg, rfl, kg, b4⟩)
    have c4 := c3.trans (b4.mono c3.size)
    have k4 := k3.below b4
    have kx4 := kx.below b4
    have l0 := k2.lt
    have lg := kg.lt
    have lx := kx.lt
    go_wp2_with (go_at_call 7; refine (eqIntS _ _ _ _ _ _ _ kg.rd k4.rd (by omega)).mono ?_; rintro e w5 ⟨rfl, m5, rfl⟩)
    have c5 := below_drewN c4 m5
    go_wp2_with (go_at_call 5; refine (copyB w _ a cap bs h'.out hn c5).mono ?_; rintro e w6 ⟨gt, rfl, hgt, kt, b6, c6⟩)
    have kx6 := (kx4.draws m5).below b6
    have k6 := (k4.draws m5).below b6
    have kg6 := (kg.draws m5).below b6
    go_wp2_with (go_at_call 8; refine (eqB _ _ _ _ _ bs kx6 kt (by omega)).mono ?_; rintro e w7 ⟨rfl, m7, rfl⟩)
    have z2 := b2.size
    have z3 := b3.size
    have z1 := c1.size
    go_wp2_with (go_at_call 9; refine (markByteS _ _ _ _ 1 (kx6.draws m7).wt (by omega) (by omega) (by omega)).mono ?_; rintro e w8 ⟨rfl, _, o8⟩)
    have k8 := (k6.draws m7).only o8 (fun p p' hp hp' => by cases hp'; have := (l0 p hp).2; show p.block ≠ gx; omega)
    have kg8 := (kg6.draws m7).only o8 (fun p p' hp hp' => by cases hp'; have := (lg p hp).1; show p.block ≠ gx; omega)
    have c8 := below_only' (below_drewN c6 m7) o8 (below_drewN c6 m7).size (fun p hp => by cases hp; show w.heap.size ≤ gx; omega)
    go_wp2_with (go_at_call 7; refine (eqIntS _ _ _ _ _ _ _ kg8.rd k8.rd (by omega)).mono ?_; rintro e w9 ⟨rfl, m9, rfl⟩)
    have c9 := below_drewN c8 m9
    have k9 := k8.draws m9
    have kg9 := kg8.draws m9
    go_wp2_with (go_at_call 10; refine (markIntS _ _ _ _ 1 kg9.wt (by omega) (by omega) (by omega)).mono ?_; rintro e w10 ⟨rfl, r10, o10⟩)
    have k10 := k9.only o10 (fun p p' hp hp' => by have := (l0 p hp).2; have := (lg p' hp').1; omega)
    have c10 := below_only' c9 o10 c9.size (fun p hp => by have := (lg p hp).1; omega)
    go_wp2_with (go_at_call 11; refine (heldIntS _ _ _ _ 1 r10 (by omega) (by omega) (by omega)).mono ?_; rintro e w' ⟨rfl, rfl⟩)
    go_wp2_with (go_at_call 5; refine (copyB w _ a cap bs h'.out hn c10).mono ?_; rintro e w11 ⟨gz, rfl, hgz, kz, b11, c11⟩)
    have k11 := k10.below b11
    have r11 := RdN.later r10 b11
    go_wp2_with (go_at_call 6; refine (hI.out _ _ kz).mono ?_; rintro e w12 ⟨ah, caph, rfl, kh, b12⟩)
    have k12 := k11.below b12
    have r12 := RdN.later r11 b12
    have c12 := c11.trans (b12.mono c11.size)
    go_wp2_with (go_at_call 7; refine (eqIntS _ _ _ _ _ _ _ kh.rd k12.rd (by omega)).mono ?_; rintro e w13 ⟨rfl, m13, rfl⟩)
    have r13 : RdN (w12.drewN m13) ag R.length (fun j => 1 + (j : Int)) := r12
    go_wp2_with (go_at_call 11; refine (heldIntS _ _ _ _ 1 r13 (by omega) (by omega) (by omega)).mono ?_; rintro e w' ⟨rfl, rfl⟩)
    go_ret
    exact ⟨rfl, below_drewN c12 _⟩
end Go.Proofs.Ythjgmjhgpjgdlab.SecLaw
