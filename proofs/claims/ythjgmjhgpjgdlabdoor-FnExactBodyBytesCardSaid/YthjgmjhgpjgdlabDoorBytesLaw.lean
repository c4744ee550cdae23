/-
  The walk of the exact law of BodyBytes.
-/
import Derived.Test.YthjgmjhgpjgdlabDoorOwnBytes
import Derived.Test.YthjgmjhgpjgdlabDoorSpecBody
import Derived.Test.YthjgmjhgpjgdlabDoorWrBody
namespace Go.Proofs.YthjgmjhgpjgdlabDoor.BytesLaw
open Go.RowKit PlainNum NumCalls ByteMem PutU PutULaw PlainShape InsMem MarkIns OwnBytes PlainBytes NameCalls

set_option maxHeartbeats 4000000 in
theorem fnExactBodyBytes (a : Option Addr) (cap : Nat) (l : List I3) (w : World) (h : RdI w a l) (hm : l.length ≤ 9223372036854775807) (ht : Tab w) :
    Calls Tryd.prog 3 #[.slice a l.length cap] w fun e w' => e = .returned (.bool true) ∧ Below w.heap.size w w' := by
  have h' : Hid (RdI w a l) := h
  have ht' : Hid (Tab w) := ht
  have hz : Hid (∀ u, Calls Tryd.prog 5 #[.slice a l.length cap, .int .i64 1048576] u fun e w' => e = .returned (.int .i64 (if l.length ≤ 1048576 then 1048576 - (l.length : Int) else -1)) ∧ u = w') := fun u => szInsS a l.length cap u hm
  clear h ht
  by_cases hn : l.length ≤ 1048576
  · rw [if_pos hn] at hz
    have hRl : (bodyBytes l).length ≤ 9223372036854775806 := by have := bodyBytes_len l; omega
    have hRb : (bodyBytes l).length ≤ 1099511627776 := by have := bodyBytes_len l; omega
    have hS : Hid (∀ (u : World) (g cp : Nat), RowI u g l → Calls Tryd.prog 6 #[.slice (some ⟨g, 0, none⟩) l.length cp] u fun e w' => ∃ v, e = .returned v ∧ PutU.Own u.heap.size w' v (bodyBytes l) ∧ Below u.heap.size u w') := fun u g cp hr => SpecBody.spec_bodyBytes u _ cp l hr.rd hn
    have hI : Hid (∀ (u : World) (g cp : Nat), RowI u g l → Tab u → Calls Tryd.prog 8 #[.slice (some ⟨g, 0, none⟩) l.length cp] u fun e w' => ∃ v, e = .returned v ∧ PutU.Own u.heap.size w' v (bodyBytes l) ∧ Below u.heap.size u w') := fun u g cp hr hu => WrBody.impl_bodyBytes u _ cp l hr.rd hn hu
    have hn' : (0 : Int) ≤ 1048576 - (l.length : Int) := by omega
    have hN3 : ¬ (1 + 3 * (l.length : Int)) < 0 := by omega
    generalize bodyBytes l = R at *
    go_enter Tryd.func3, Tryd.ntmps3
    go_wp2_with (go_at_call 5; refine (hz.out _).mono ?_; rintro e u0 ⟨rfl, rfl⟩)
    go_wp2_with (go_at_call 7; refine (copyR w _ a cap l h'.out hn (Below.refl _ _)).mono ?_; rintro e w1 ⟨g1, rfl, hg1, k1, b1, c1⟩)
    go_wp2_with (go_at_call 6; refine (hS.out _ _ _ k1).mono ?_; rintro e w2 ⟨v0, rfl, o2, b2⟩; obtain ⟨a0, cap0, rfl, k2⟩ := own_ob o2)
    have c2 := c1.trans (b2.mono c1.size)
    go_wp2_with (go_at_call 7; refine (copyR w _ a cap l h'.out hn c2).mono ?_; rintro e w3 ⟨gx, rfl, hgx, kx, b3, c3⟩)
    have k3 := k2.below b3
    go_wp2_with (go_at_call 8; refine (hI.out _ _ _ kx (ht'.out.later c3)).mono ?_; rintro e w4 ⟨vg, rfl, o4, b4⟩; obtain ⟨ag, capg, rfl, kg⟩ := own_ob o4)
    have c4 := c3.trans (b4.mono c3.size)
    have k4 := k3.below b4
    have kx4 := kx.below b4
    have l0 := k2.lt
    have lg := kg.lt
    have lx := kx.lt
    go_wp2_with (go_at_call 9; refine (eqOB _ _ _ _ _ R kg k4 hRl).mono ?_; rintro e w5 ⟨rfl, m5, rfl⟩)
    have c5 := below_drewN c4 m5
    clear o2 o4
    go_wp2_with (go_at_call 7; refine (copyR w _ a cap l h'.out hn c5).mono ?_; rintro e w6 ⟨gt, rfl, hgt, kt, b6, c6⟩)
    have kx6 : RowI w6 gx l := RowI.below (W := w4.drewN m5) kx4 b6
    have k6 := (k4.draws m5).below b6
    have kg6 := (kg.draws m5).below b6
    go_wp2_with (go_at_call 10; refine (eqInsS _ _ _ _ _ l kx6.rd kt.rd (by omega)).mono ?_; rintro e w7 ⟨rfl, b7⟩)
    have c7 := c6.trans (b7.mono c6.size)
    have kx7 := kx6.below b7
    have k7 := k6.below b7
    have kg7 := kg6.below b7
    have z2 := b2.size
    have z3 := b3.size
    have z1 := c1.size
    go_wp2_with (go_at_call 11; refine (markInsS _ _ _ _ 1 kx7.wt (by omega) (by omega) (by omega)).mono ?_; rintro e w8 ⟨rfl, _, o8⟩)
    have k8 := k7.only o8 (fun p p' hp hp' => by cases hp'; have := (l0 p hp).2; show p.block ≠ gx; omega)
    have kg8 := kg7.only o8 (fun p p' hp hp' => by cases hp'; have := (lg p hp).1; show p.block ≠ gx; omega)
    have c8 := below_only' c7 o8 c7.size (fun p hp => by cases hp; show w.heap.size ≤ gx; omega)
    go_wp2_with (go_at_call 9; refine (eqOB _ _ _ _ _ R kg8 k8 hRl).mono ?_; rintro e w9 ⟨rfl, m9, rfl⟩)
    go_wp2_with (go_at_call 12; refine (markByteS _ _ _ _ 1 (kg8.draws m9).wt (by omega) (by omega) (by omega)).mono ?_; rintro e w10 ⟨rfl, r10, o10⟩)
    have k10 := (k8.draws m9).only o10 (fun p p' hp hp' => by have := (l0 p hp).2; have := (lg p' hp').1; omega)
    have c10 := below_only' (below_drewN c8 m9) o10 (below_drewN c8 m9).size (fun p hp => by have := (lg p hp).1; omega)
    go_wp2_with (go_at_call 13; refine (heldByteS _ _ _ _ 1 r10 (by omega) (by omega) (by omega)).mono ?_; rintro e w' ⟨rfl, rfl⟩)
    go_wp2_with (go_at_call 7; refine (copyR w _ a cap l h'.out hn c10).mono ?_; rintro e w11 ⟨gz, rfl, hgz, kz, b11, c11⟩)
    have k11 := k10.below b11
    have r11 := Rd.later r10 b11
    go_wp2_with (go_at_call 8; refine (hI.out _ _ _ kz (ht'.out.later c11)).mono ?_; rintro e w12 ⟨vh, rfl, o12, b12⟩; obtain ⟨ah, caph, rfl, kh⟩ := own_ob o12)
    have k12 := k11.below b12
    have r12 := Rd.later r11 b12
    have c12 := c11.trans (b12.mono c11.size)
    go_wp2_with (go_at_call 9; refine (eqOB _ _ _ _ _ R kh k12 hRl).mono ?_; rintro e w13 ⟨rfl, m13, rfl⟩)
    have r13 : Rd (w12.drewN m13) ag R.length (fun j => (1 + (j : Int)) % 256) := r12
    go_wp2_with (go_at_call 13; refine (heldByteS _ _ _ _ 1 r13 (by omega) (by omega) (by omega)).mono ?_; rintro e w' ⟨rfl, rfl⟩)
    go_ret
    exact ⟨rfl, below_drewN c12 _⟩
  · rw [if_neg hn] at hz
    go_enter Tryd.func3, Tryd.ntmps3
    go_wp2_with (go_at_call 5; refine (hz.out _).mono ?_; rintro e u0 ⟨rfl, rfl⟩)
    go_ret
    exact ⟨rfl, Below.refl _ _⟩
end Go.Proofs.YthjgmjhgpjgdlabDoor.BytesLaw
