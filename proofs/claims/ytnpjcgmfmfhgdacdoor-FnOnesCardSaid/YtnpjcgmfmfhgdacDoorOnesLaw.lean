/-
  The walk of the law of ones and zeros, over whatever number a draw gives, where the library's table holds what its text lays.
-/
import Derived.Test.YtnpjcgmfmfhgdacDoorDraws
import Derived.Test.YtnpjcgmfmfhgdacDoorImplBits
import Derived.Test.YtnpjcgmfmfhgdacDoorZeroLaws
import Derived.Test.YtnpjcgmfmfhgdacDoorCtzLaw
import Derived.Test.YtnpjcgmfmfhgdacDoorOnesFacts
namespace Go.Proofs.YtnpjcgmfmfhgdacDoor.OnesLaw
open Go.RowKit PlainNum NumCalls BitsNum OpCalls Draws PlainZero ZeroCalls ZeroLaws OnesFacts

def clzV (n : Int) : Int := 32 - (Lib.bitLen (n % 4294967296).toNat : Int)
def ctzV (n : Int) : Int := (Lib.ctz 32 (n % 4294967296).toNat : Int)
def popV (n : Int) : Int := popN (n % 4294967296) 32
theorem popV_eq (n : Int) : popV n = (popT (n % 4294967296).toNat 32 : Int) := by
  have e : n % 4294967296 = (((n % 4294967296).toNat : Nat) : Int) := by omega
  show popN (n % 4294967296) 32 = _
  rw [e, popN_popT, Int.toNat_natCast]
theorem not_plain (n : Int) : (bitsN 3 n (-1) % 4294967296).toNat = 2 ^ 32 - ((n % 4294967296).toNat + 1) := by
  rw [n3]
  unfold xorL
  rw [plain_wrap]
  have e1 : ((-1 : Int) % 4294967296).toNat = 2 ^ 32 - 1 := by decide
  rw [e1]
  have hx : (n % 4294967296).toNat < 2 ^ 32 := by omega
  have hxor : ((n % 4294967296).toNat ^^^ (2 ^ 32 - 1)) = 2 ^ 32 - ((n % 4294967296).toNat + 1) := by
    apply Nat.eq_of_testBit_eq
    intro i
    rw [Nat.testBit_xor, Nat.testBit_two_pow_sub_succ hx, Nat.testBit_two_pow_sub_one]
    by_cases hi : i < 32
    · simp [hi]
    · have : (n % 4294967296).toNat.testBit i = false := Nat.testBit_lt_two_pow (Nat.lt_of_lt_of_le hx (Nat.pow_le_pow_right (by decide) (by omega)))
      simp [hi, this]
  rw [hxor]; omega
theorem t1 (n : Int) : popV n + popV (bitsN 3 n (-1)) = 32 := by
  rw [popV_eq, popV_eq, not_plain]
  have := pop_compl (n % 4294967296).toNat (by omega) 32 (Nat.le_refl _)
  omega
theorem t2 (n : Int) (h : n % 4294967296 ≠ 0) : clzV n + ctzV n + popV n ≤ 32 := by
  have := ones_le (n % 4294967296).toNat (by omega) (by omega)
  rw [popV_eq]; unfold clzV ctzV; omega
theorem t3 (n : Int) (h : n % 4294967296 ≠ 0) : bitsN 6 n (31 - clzV n) = 1 := by
  have hb := ones_le (n % 4294967296).toNat (by omega) (by omega)
  have ht := top_one (n % 4294967296).toNat (by omega) (by omega)
  rw [n6]
  have e : ((31 - clzV n) % 32).toNat = Lib.bitLen (n % 4294967296).toNat - 1 := by unfold clzV; omega
  rw [e]
  obtain ⟨x, hx⟩ : ∃ x : Nat, n % 4294967296 = (x : Int) := ⟨(n % 4294967296).toNat, by omega⟩
  rw [hx, Int.toNat_natCast] at ht ⊢
  have e2 : ((x : Nat) : Int) / 2 ^ (Lib.bitLen x - 1) = ((x / 2 ^ (Lib.bitLen x - 1) : Nat) : Int) := by simp
  rw [e2, ht]; exact wrap32_in (by decide) (by decide)
theorem t4 (n : Int) (h : n % 4294967296 ≠ 0) : bitsN 1 (bitsN 6 n (ctzV n)) 1 = 1 := by
  have hl := low_one (n % 4294967296).toNat (by omega) (by omega)
  obtain ⟨q, hq, hc⟩ := ctz_form (n % 4294967296).toNat (by omega) (by omega)
  have e : (ctzV n % 32).toNat = Lib.ctz 32 (n % 4294967296).toNat := by unfold ctzV; omega
  rw [n1, n6, e]
  unfold andL
  rw [plain_wrap]
  have e1 : ((1 : Int) % 4294967296).toNat = 1 := by decide
  rw [e1]
  obtain ⟨x, hx⟩ : ∃ x : Nat, n % 4294967296 = (x : Int) := ⟨(n % 4294967296).toNat, by omega⟩
  have hxlt : x < 4294967296 := by omega
  rw [hx, Int.toNat_natCast] at hl ⊢
  have e2 : ((x : Nat) : Int) / 2 ^ Lib.ctz 32 x = ((x / 2 ^ Lib.ctz 32 x : Nat) : Int) := by simp
  rw [e2]
  have hd : x / 2 ^ Lib.ctz 32 x ≤ x := Nat.div_le_self _ _
  generalize x / 2 ^ Lib.ctz 32 x = y at *
  have e3 : (((y : Nat) : Int) % 4294967296).toNat = y := by omega
  rw [e3, nat_mask1, hl]; exact wrap32_in (by decide) (by decide)
theorem z1 (n : Int) (h : n % 4294967296 = 0) : popV n = 0 ∧ clzV n = 32 ∧ ctzV n = 32 := by
  unfold popV clzV ctzV; rw [h]; decide
theorem impl_popV (n : Int) (w : World) : Calls Tryd.prog 6 #[.int .i64 n] w fun e w' => e = .returned (.int .i64 (popV n)) ∧ ∃ m, w' = w.drewN m := impl_pop n w
theorem spec_popV (n : Int) (w : World) : Calls Tryd.prog 7 #[.int .i64 n] w fun e w' => e = .returned (.int .i64 (popV n)) ∧ w = w' := spec_pop n w
theorem impl_clzV (n : Int) (w : World) : Calls Tryd.prog 8 #[.int .i64 n] w fun e w' => e = .returned (.int .i64 (clzV n)) ∧ w = w' := impl_clz n w
theorem impl_ctzV (n : Int) (w0 w : World) (hT : TabAt 0 Lib.deBruijn32tab w0) (h0 : 0 < w0.heap.size) (hb : Below w0.heap.size w0 w) : Calls Tryd.prog 9 #[.int .i64 n] w fun e w' => e = .returned (.int .i64 (ctzV n)) ∧ w = w' :=
  CtzLaw.impl_ctz n w fun j hj => by rw [hb.cell (show 0 < w0.heap.size from h0)]; exact hT j hj
theorem below_draws {B : Nat} {w0 w : World} (hb : Below B w0 w) (n : Nat) : Below B w0 (w.drewN n) := below_drewN hb n
set_option maxHeartbeats 1000000 in
theorem fnOnes (a : Option Addr) (len cap : Nat) (w : World) (hs : Src w.heap.size w a len) (hT : TabAt 0 Lib.deBruijn32tab w) :
    Calls Tryd.prog 3 #[.slice a len cap] w fun e w' => e = .returned (.bool true) ∧ Below w.heap.size w w' := by
  have hm := hs.1
  have hb := Below.refl w.heap.size w
  have hpos : 0 < w.heap.size := World.block_lt_of_cell? w _ (hT 0 (by decide))
  have hc : Hid (∀ (n : Int) (w' : World), Below w.heap.size w w' → Calls Tryd.prog 9 #[.int .i64 n] w' fun e w2 => e = .returned (.int .i64 (ctzV n)) ∧ w' = w2) := fun n w' hb => impl_ctzV n w w' hT hpos hb
  clear hT
  by_cases hbig : 1048576 < (len : Int)
  · go_enter Tryd.func3, Tryd.ntmps3
    go_wp2
    go_ret
    exact ⟨rfl, hb⟩
  · go_enter Tryd.func3, Tryd.ntmps3
    go_wp2_with (go_at_call 5; refine (drawPop hs (Nat.le_refl _) ?_).mono ?_; assumption; rintro e w' ⟨x, rfl, hb'⟩)
    have hk : Hid (-8 ≤ popV x) := by show -8 ≤ popV x; rw [popV_eq]; omega
    by_cases h0 : x % 4294967296 = 0
    · obtain ⟨e1, e2, e3⟩ := z1 x h0
      have e4 : (x % 4294967296 == 0) = true := by simp [h0]
      clear h0
      go_wp2_with (first
        | (go_at_call 6; refine (impl_popV _ _).mono ?_; rintro e w' ⟨rfl, m, rfl⟩; have hb' := below_draws hb' m)
        | (go_at_call 7; refine (spec_popV _ _).mono ?_; rintro e w' ⟨rfl, rfl⟩)
        | (go_at_call 8; refine (impl_clzV _ _).mono ?_; rintro e w' ⟨rfl, rfl⟩)
        | (go_at_call 9; refine (hc.out _ _ ?_).mono ?_; assumption; rintro e w' ⟨rfl, rfl⟩)
        | (go_at_call 10; refine (impl_plain _ _).mono ?_; rintro e w' ⟨rfl, rfl⟩)
        | (go_at_call 11; refine (impl_bits _ _ _ _).mono ?_; rintro e w' ⟨rfl, rfl⟩))
      go_ret
      exact ⟨rfl, by first | assumption | exact below_draws (by assumption) _⟩
    · have r1 : popV x + popV (bitsN 3 x (-1)) = 32 := t1 x
      have r2 := t2 x h0
      have r3 : (bitsN 6 x (31 - clzV x) == 1) = true := by rw [t3 x h0]; rfl
      have r4 : (bitsN 1 (bitsN 6 x (ctzV x)) 1 == 1) = true := by rw [t4 x h0]; rfl
      have e4 : (x % 4294967296 == 0) = false := by simp [h0]
      have b1 : 0 ≤ clzV x ∧ clzV x ≤ 32 := by
        have := ones_le (x % 4294967296).toNat (by omega) (by omega)
        unfold clzV; omega
      have b2 : 0 ≤ ctzV x ∧ ctzV x ≤ 32 := by
        have := ones_le (x % 4294967296).toNat (by omega) (by omega)
        unfold ctzV; omega
      have b3 : 0 ≤ popV x ∧ popV x ≤ 32 := by unfold popV; exact ⟨(popN_fits _ 32).1, (popN_fits _ 32).2⟩
      clear h0
      go_wp2_with (first
        | (go_at_call 6; refine (impl_popV _ _).mono ?_; rintro e w' ⟨rfl, m, rfl⟩; have hb' := below_draws hb' m)
        | (go_at_call 7; refine (spec_popV _ _).mono ?_; rintro e w' ⟨rfl, rfl⟩)
        | (go_at_call 8; refine (impl_clzV _ _).mono ?_; rintro e w' ⟨rfl, rfl⟩)
        | (go_at_call 9; refine (hc.out _ _ ?_).mono ?_; assumption; rintro e w' ⟨rfl, rfl⟩)
        | (go_at_call 10; refine (impl_plain _ _).mono ?_; rintro e w' ⟨rfl, rfl⟩)
        | (go_at_call 11; refine (impl_bits _ _ _ _).mono ?_; rintro e w' ⟨rfl, rfl⟩))
      go_ret
      exact ⟨rfl, by first | assumption | exact below_draws (by assumption) _⟩
end Go.Proofs.YtnpjcgmfmfhgdacDoor.OnesLaw
