/-
  The walk of the exact law of EndOf.
-/
import Derived.Test.YtpofboimlconeaaEndCalls
namespace Go.Proofs.Ytpofboimlconeaa.EndLaw
open Go.RowKit PlainShape InsMem EndCalls
set_option maxHeartbeats 4000000 in
theorem fnExactEndOf (a : Option Addr) (cap : Nat) (l : List I3) (at' : Int) (w : World) (h : RdI w a l) (hl : l.length ≤ 9223372036854775807) :
    Calls Try.prog 4 #[.slice a l.length cap, .int .i64 at'] w fun e w' => e = .returned (.bool true) ∧ Below w.heap.size w w' := by
  have hs : Hid _ := fun u => szInsS a l.length cap u hl
  by_cases hbig : l.length ≤ 1048576
  · have hlt : ¬ (1048576 - (l.length : Int)) < 0 := by omega
    rw [if_pos hbig] at hs
    have hc : Hid _ := fun u hb => copyI w u a cap l h hbig hb
    have h1 : Hid _ := fun u g => spec_endOf u (some ⟨g, 0, none⟩) l.length l at'
    have h2 : Hid _ := fun u g => impl_endOf u (some ⟨g, 0, none⟩) l.length l at'
    have h3 : Hid _ := fun u g g' => eqInsS u (some ⟨g, 0, none⟩) (some ⟨g', 0, none⟩) l.length l.length l
    generalize endOf l at' = R at h1 h2
    go_enter Try.func4, Try.ntmps4
    go_wp2_with (go_at_call 10; refine (hs.out _).mono ?_; rintro e w0 ⟨rfl, rfl⟩)
    go_wp2_with (go_at_call 12; refine (hc.out _ (Below.refl _ _)).mono ?_; rintro e w1 ⟨g1, rfl, r1, _, b1⟩)
    go_wp2_with (go_at_call 11; refine (h1.out _ _ r1 hbig).mono ?_; rintro e w2 ⟨rfl, rfl⟩)
    go_wp2_with (go_at_call 12; refine (hc.out _ b1).mono ?_; rintro e w2 ⟨g2, rfl, r2, _, b2⟩)
    go_wp2_with (go_at_call 8; refine (h2.out _ _ r2 hbig).mono ?_; rintro e w3 ⟨rfl, rfl⟩)
    go_wp2_with (go_at_call 12; refine (hc.out _ b2).mono ?_; rintro e w3 ⟨g3, rfl, r3, c3, b3⟩)
    go_wp2_with (go_at_call 13; refine (h3.out _ _ _ (r2.later c3) r3 (by omega)).mono ?_; rintro e w4 ⟨rfl, b4⟩)
    go_ret
    exact ⟨rfl, b3.trans (b4.mono b3.size)⟩
  · rw [if_neg hbig] at hs
    go_enter Try.func4, Try.ntmps4
    go_wp2_with (go_at_call 10; refine (hs.out _).mono ?_; rintro e w0 ⟨rfl, rfl⟩)
    go_ret
    exact ⟨rfl, Below.refl _ _⟩
end Go.Proofs.Ytpofboimlconeaa.EndLaw
