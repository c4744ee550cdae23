/-
  Sections gone through by the program.
-/
import Derived.Test.YthjgmjhgpjgdlabReadNum
import Derived.Test.YthjgmjhgpjgdlabPlainSec
namespace Go.Proofs.Ythjgmjhgpjgdlab.SecRd
open Go.RowKit PlainNum PlainLeb PlainGet PlainRd PlainSec NumCalls ByteMem PutU Reader ReadNum

theorem isSection (n : Int) (w : World) :
    Calls Try.prog 23 #[.int .i64 n] w fun e w' => e = .returned (.bool (isSec n)) ∧ w = w' := by
  go_enter Try.func23, Try.ntmps23
  go_wp2_with fail
  all_goals (go_ret; refine ⟨?_, rfl⟩; refine congrArg (fun x => Ending.returned (.bool x)) (?_ : (_ : Bool) = _); unfold isSec; first | (simp only [*, Bool.true_or, Bool.or_true, Bool.or_false]; done) | simp_all)
set_option maxHeartbeats 1000000 in
theorem sized_yes (r : Nat) (c d : Int) (b : Nat) (bs : List UInt8) (w : World) (h : RdX w r c b bs) (n k : Nat) (hg : gU bs = some (n, k)) (hn : n ≤ bs.length - k) (hl : bs.length ≤ 1048576) :
    Calls Try.prog 24 #[.pointer (some ⟨r, 0, none⟩), .int .i64 d] w fun e w' => ∃ g, e = .returned (.pointer (some ⟨g, 0, none⟩)) ∧ RdX w' r c b (bs.drop (k + n)) ∧ w.grownBy w' (some r) := by
  have hN : Hid (Calls Try.prog 28 #[.pointer (some ⟨r, 0, none⟩)] w fun e w' => e = .returned (.int .i64 (n : Int)) ∧ RdX w' r c b (bs.drop k) ∧ w.grownBy w' (some r)) := number_yes r c b bs w h n k hg hl
  have hT : Hid (∀ u, RdX u r c b (bs.drop k) → Calls Try.prog 27 #[.pointer (some ⟨r, 0, none⟩), .int .i64 (n : Int)] u fun e w' => ∃ off cap, e = .returned (.slice (some ⟨b, off, none⟩) n cap) ∧ RdX w' r c b (bs.drop (k + n)) ∧ u.grownBy w' (some r)) := fun u ⟨off, cap, hu⟩ =>
    (take_yes r c b off cap (bs.drop k) u hu n (by rw [List.length_drop]; exact hn)).mono fun _ _ ⟨h1, ⟨o, h2⟩, h3⟩ => ⟨off, cap, h1, ⟨o, _, by rw [List.drop_drop] at h2; exact h2⟩, h3⟩
  clear h hg
  go_enter Try.func24, Try.ntmps24
  go_wp2_with (first | (go_at_call 28; refine hN.out.mono ?_; rintro e w1 ⟨rfl, k1, g1⟩; have k1' : Hid (RdX w1 r c b (bs.drop k)) := k1; clear k1) | (go_at_call 27; refine (hT.out _ k1'.out).mono ?_; rintro e w2 ⟨off, cap, rfl, k2, g2⟩; have k2' : Hid (RdX w2 r c b (bs.drop (k + n))) := k2; clear k2))
  go_ret
  exact ⟨_, rfl, k2'.out.alloc _, (g1.trans g2).trans (World.grownBy_alloc w2 _ _)⟩
set_option maxHeartbeats 1000000 in
theorem sized_no (r : Nat) (c d : Int) (b : Nat) (bs : List UInt8) (w : World) (h : RdX w r c b bs) (hg : gU bs = none) (hl : bs.length ≤ 1048576) :
    Calls Try.prog 24 #[.pointer (some ⟨r, 0, none⟩), .int .i64 d] w fun e w' => e = gave c ∧ w.grownBy w' (some r) := by
  have hN : Hid (Calls Try.prog 28 #[.pointer (some ⟨r, 0, none⟩)] w fun e w' => e = gave c ∧ w.grownBy w' (some r)) := number_no r c b bs w h hg hl
  clear h hg
  go_enter Try.func24, Try.ntmps24
  go_wp2_with (go_at_call 28; refine hN.out.mono ?_; rintro e w1 ⟨rfl, g1⟩)
  exact ⟨rfl, rfl, g1⟩
set_option maxHeartbeats 1000000 in
theorem sized_no2 (r : Nat) (c d : Int) (b : Nat) (bs : List UInt8) (w : World) (h : RdX w r c b bs) (n k : Nat) (hg : gU bs = some (n, k)) (hn : ¬ n ≤ bs.length - k) (hl : bs.length ≤ 1048576) :
    Calls Try.prog 24 #[.pointer (some ⟨r, 0, none⟩), .int .i64 d] w fun e w' => e = gave c ∧ w.grownBy w' (some r) := by
  have hN : Hid (Calls Try.prog 28 #[.pointer (some ⟨r, 0, none⟩)] w fun e w' => e = .returned (.int .i64 (n : Int)) ∧ RdX w' r c b (bs.drop k) ∧ w.grownBy w' (some r)) := number_yes r c b bs w h n k hg hl
  have hT : Hid (∀ u, RdX u r c b (bs.drop k) → Calls Try.prog 27 #[.pointer (some ⟨r, 0, none⟩), .int .i64 (n : Int)] u fun e w' => e = gave c ∧ u = w') := fun u ⟨off, cap, hu⟩ =>
    take_no r c b off cap (bs.drop k) u hu n (by rw [List.length_drop]; omega)
  clear h hg
  go_enter Try.func24, Try.ntmps24
  go_wp2_with (first | (go_at_call 28; refine hN.out.mono ?_; rintro e w1 ⟨rfl, k1, g1⟩; have k1' : Hid (RdX w1 r c b (bs.drop k)) := k1; clear k1) | (go_at_call 27; refine (hT.out _ k1'.out).mono ?_; rintro e w2 ⟨rfl, rfl⟩))
  exact ⟨rfl, rfl, g1⟩
end Go.Proofs.Ythjgmjhgpjgdlab.SecRd
