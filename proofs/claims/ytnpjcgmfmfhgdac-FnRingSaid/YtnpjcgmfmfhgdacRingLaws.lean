/-
  The laws of the ring, of division and of the bits, over whatever numbers a draw gives: their walks: each returns true.
-/
import Derived.Test.YtnpjcgmfmfhgdacDraws
import Derived.Test.YtnpjcgmfmfhgdacImplBits
import Derived.Test.YtnpjcgmfmfhgdacBitFacts
namespace Go.Proofs.Ytnpjcgmfmfhgdac.RingLaws
open Go.RowKit PlainNum NumCalls BitsNum OpCalls Draws

def addN (a b : Int) : Int := wrap32 (wrap32 a + wrap32 b)
def subN (a b : Int) : Int := wrap32 (wrap32 a - wrap32 b)
def mulN (a b : Int) : Int := wrap32 (wrap32 a * wrap32 b)
theorem wrap_mod (x : Int) : wrap32 x % 4294967296 = x % 4294967296 := plain_wrap x
theorem add_comm' (a b : Int) : addN a b = addN b a := by unfold addN; rw [Int.add_comm]
theorem mul_comm' (a b : Int) : mulN a b = mulN b a := by unfold mulN; rw [Int.mul_comm]
theorem sub_add (a b : Int) : subN (addN a b) b = wrap32 a := by unfold subN addN wrap32; omega
theorem mul_mod_w (a b : Int) : (wrap32 a * wrap32 b) % 4294967296 = (a * b) % 4294967296 := by rw [Int.mul_emod, wrap_mod, wrap_mod, ← Int.mul_emod]
theorem mulN_mod (a b : Int) : mulN a b % 4294967296 = (a * b) % 4294967296 := by unfold mulN; rw [wrap_mod, mul_mod_w]
theorem addN_mod (a b : Int) : addN a b % 4294967296 = (a + b) % 4294967296 := by unfold addN wrap32; omega
theorem addN_wrap (a b : Int) : addN a b = wrap32 (a + b) := by unfold addN wrap32; omega
theorem mulN_wrap (a b : Int) : mulN a b = wrap32 (a * b) := wrap32_cong (mul_mod_w a b)
theorem distrib (c a b : Int) : mulN c (addN a b) = addN (mulN c a) (mulN c b) := by
  rw [mulN_wrap, addN_wrap (mulN c a)]
  refine wrap32_cong ?_
  rw [Int.mul_emod, addN_mod, ← Int.mul_emod, Int.mul_add, Int.add_emod, Int.add_emod (mulN c a), mulN_mod, mulN_mod]
theorem impl_addN (a b : Int) (w : World) : Calls Try.prog 9 #[.int .i64 a, .int .i64 b] w fun e w' => e = .returned (.int .i64 (addN a b)) ∧ w = w' := impl_add a b w
theorem spec_addN (a b : Int) (w : World) : Calls Try.prog 10 #[.int .i64 a, .int .i64 b] w fun e w' => e = .returned (.int .i64 (addN a b)) ∧ w = w' := spec_add a b w
theorem impl_subN (a b : Int) (w : World) : Calls Try.prog 11 #[.int .i64 a, .int .i64 b] w fun e w' => e = .returned (.int .i64 (subN a b)) ∧ w = w' := impl_sub a b w
theorem impl_mulN (a b : Int) (w : World) : Calls Try.prog 13 #[.int .i64 a, .int .i64 b] w fun e w' => e = .returned (.int .i64 (mulN a b)) ∧ w = w' := impl_mul a b w
theorem fnRing (a : Option Addr) (len cap : Nat) (w : World) (hs : Src w.heap.size w a len) :
    Calls Try.prog 3 #[.slice a len cap] w fun e w' => e = .returned (.bool true) ∧ Below w.heap.size w w' := by
  have hm := hs.1
  have hb := Below.refl w.heap.size w
  by_cases hbig : 1048576 < (len : Int)
  · go_enter Try.func3, Try.ntmps3
    go_wp2
    go_ret
    exact ⟨rfl, hb⟩
  · have r1 : ∀ x y : Int, (addN x y == addN y x) = true := fun x y => by rw [add_comm']; simp
    have r2 : ∀ x y : Int, (subN (addN x y) y == wrap32 x) = true := fun x y => by rw [sub_add]; simp
    have r3 : ∀ z x y : Int, (mulN z (addN x y) == addN (mulN z x) (mulN z y)) = true := fun z x y => by rw [distrib]; simp
    have r4 : ∀ x y : Int, (mulN x y == mulN y x) = true := fun x y => by rw [mul_comm']; simp
    have r5 : ∀ x : Int, (x % 4294967296 == wrap32 x % 4294967296) = true := fun x => by rw [plain_wrap]; simp
    have r6 : ∀ x y : Int, (wrap32 (addN x y % 4294967296) == addN x y) = true := fun x y => by unfold addN; rw [wrap_plain, wrap_wrap]; simp
    go_enter Try.func3, Try.ntmps3
    go_wp2_with (first
      | (go_at_call 7; refine (drawAdd hs (Nat.le_refl _) ?_).mono ?_; assumption; rintro e w' ⟨x, y, rfl, hb'⟩)
      | (go_at_call 8; refine (drawMul hs (Nat.le_refl _) ?_).mono ?_; assumption; rintro e w' ⟨x, y, rfl, hb'⟩)
      | (go_at_call 9; refine (impl_addN _ _ _).mono ?_; rintro e w' ⟨rfl, rfl⟩)
      | (go_at_call 10; refine (spec_addN _ _ _).mono ?_; rintro e w' ⟨rfl, rfl⟩)
      | (go_at_call 11; refine (impl_subN _ _ _).mono ?_; rintro e w' ⟨rfl, rfl⟩)
      | (go_at_call 13; refine (impl_mulN _ _ _).mono ?_; rintro e w' ⟨rfl, rfl⟩)
      | (go_at_call 12; refine (impl_wrap _ _).mono ?_; rintro e w' ⟨rfl, rfl⟩)
      | (go_at_call 14; refine (impl_plain _ _).mono ?_; rintro e w' ⟨rfl, rfl⟩))
    go_ret
    exact ⟨rfl, by assumption⟩
/-! ### Division -/
theorem addN_mod' (u v : Int) : addN u v = wrap32 (u + v) := addN_wrap u v
theorem wrap_lin {q y r t : Int} (h : (q * y + r) % 4294967296 = t % 4294967296) : addN (mulN q y) r = wrap32 t := by
  rw [addN_wrap]
  refine wrap32_cong ?_
  rw [Int.add_emod, mulN_mod, ← Int.add_emod]; exact h
theorem mul_wrap_r (q y : Int) : (q * y) % 4294967296 = (q * wrap32 y) % 4294967296 := by rw [Int.mul_emod, Int.mul_emod q (wrap32 y), plain_wrap]
theorem backS (x y : Int) (h0 : ¬ wrap32 y = 0) (h1 : ¬ (wrap32 x = -2147483648 ∧ wrap32 y = -1)) : addN (mulN (dS x y) y) (rS x y) = wrap32 x := by
  have e1 : dS x y = (wrap32 x).tdiv (wrap32 y) := by unfold dS; rw [if_neg h0, if_neg h1]
  have e2 : rS x y = (wrap32 x).tmod (wrap32 y) := by unfold rS; rw [if_neg h0]
  have e3 : addN (mulN (dS x y) y) (rS x y) = wrap32 (wrap32 x) := by
    refine wrap_lin ?_
    rw [e1, e2, Int.add_emod, mul_wrap_r, ← Int.add_emod]
    have := Int.mul_tdiv_add_tmod (wrap32 x) (wrap32 y)
    rw [Int.mul_comm] at this
    rw [this]
  rw [e3, wrap_wrap]
theorem mul_mod_r (q y : Int) : (q * y) % 4294967296 = (q * (y % 4294967296)) % 4294967296 := by rw [Int.mul_emod, Int.mul_emod q (y % 4294967296), Int.emod_emod]
theorem mul_wrap_l (q y : Int) : (wrap32 q * y) % 4294967296 = (q * y) % 4294967296 := by rw [Int.mul_emod, plain_wrap, ← Int.mul_emod]
theorem backU (x y : Int) (h0 : ¬ wrap32 y = 0) : addN (mulN (dU x y) y) (rU x y) = wrap32 x := by
  have e1 : dU x y = wrap32 (x % 4294967296 / (y % 4294967296)) := by unfold dU; rw [if_neg h0]
  have e2 : rU x y = wrap32 (x % 4294967296 % (y % 4294967296)) := by unfold rU; rw [if_neg h0]
  refine wrap_lin ?_
  rw [e1, e2, Int.add_emod, mul_wrap_l, plain_wrap, mul_mod_r, ← Int.add_emod]
  have := Int.mul_ediv_add_emod (x % 4294967296) (y % 4294967296)
  rw [Int.mul_comm] at this
  rw [this, Int.emod_emod]
theorem lessU (x y : Int) (h0 : ¬ wrap32 y = 0) : rU x y % 4294967296 < y % 4294967296 := by
  have e2 : rU x y = wrap32 (x % 4294967296 % (y % 4294967296)) := by unfold rU; rw [if_neg h0]
  have hz : ¬ y % 4294967296 = 0 := fun h => h0 ((zero_plain y).2 h)
  have hp : 0 < y % 4294967296 := by omega
  have hf := mod_fits (x := x % 4294967296) (y := y % 4294967296) (by omega) hp
  rw [e2, plain_wrap, Int.emod_eq_of_lt hf.1 hf.2]
  exact Int.emod_lt_of_pos _ hp
theorem overS (x y : Int) (h1 : wrap32 x = -2147483648 ∧ wrap32 y = -1) : rS x y = 0 := by
  unfold rS; rw [h1.1, h1.2]; decide
theorem fnDivide (a : Option Addr) (len cap : Nat) (w : World) (hs : Src w.heap.size w a len) :
    Calls Try.prog 4 #[.slice a len cap] w fun e w' => e = .returned (.bool true) ∧ Below w.heap.size w w' := by
  have hm := hs.1
  have hb := Below.refl w.heap.size w
  by_cases hbig : 1048576 < (len : Int)
  · go_enter Try.func4, Try.ntmps4
    go_wp2
    go_ret
    exact ⟨rfl, hb⟩
  · go_enter Try.func4, Try.ntmps4
    go_wp2_with (go_at_call 15; refine (drawDivS hs (Nat.le_refl _) ?_).mono ?_; assumption; rintro e w' ⟨x, y, rfl, hb'⟩)
    by_cases h0 : wrap32 y = 0
    · have e1 : dSc x y = 2 := by unfold dSc; rw [if_pos h0]
      have e2 : zc y = 2 := by unfold zc; rw [if_pos h0]
      have e3 : (wrap32 y == 0) = true := by simp [h0]
      clear h0
      go_wp2_with (first
        | (go_at_call 16; refine (impl_divS _ _ _).mono ?_; rintro e w' ⟨rfl, rfl⟩)
        | (go_at_call 18; refine (spec_divS _ _ _).mono ?_; rintro e w' ⟨rfl, rfl⟩)
        | (go_at_call 17; refine (impl_remS _ _ _).mono ?_; rintro e w' ⟨rfl, rfl⟩)
        | (go_at_call 19; refine (spec_remS _ _ _).mono ?_; rintro e w' ⟨rfl, rfl⟩)
        | (go_at_call 20; refine (impl_divU _ _ _).mono ?_; rintro e w' ⟨rfl, rfl⟩)
        | (go_at_call 21; refine (impl_remU _ _ _).mono ?_; rintro e w' ⟨rfl, rfl⟩)
        | (go_at_call 9; refine (impl_addN _ _ _).mono ?_; rintro e w' ⟨rfl, rfl⟩)
        | (go_at_call 13; refine (impl_mulN _ _ _).mono ?_; rintro e w' ⟨rfl, rfl⟩)
        | (go_at_call 12; refine (impl_wrap _ _).mono ?_; rintro e w' ⟨rfl, rfl⟩)
        | (go_at_call 14; refine (impl_plain _ _).mono ?_; rintro e w' ⟨rfl, rfl⟩))
      go_ret
      exact ⟨rfl, by assumption⟩
    · have e2 : zc y = 0 := by unfold zc; rw [if_neg h0]
      have e3 : (wrap32 y == 0) = false := by simp [h0]
      have u1 : (addN (mulN (dU x y) y) (rU x y) == wrap32 x) = true := by rw [backU x y h0]; simp
      have u2 := lessU x y h0
      by_cases h1 : wrap32 x = -2147483648 ∧ wrap32 y = -1
      · have e1 : dSc x y = 3 := by unfold dSc; rw [if_neg h0, if_pos h1]
        have e4 := overS x y h1
        clear h0 h1
        go_wp2_with (first
          | (go_at_call 16; refine (impl_divS _ _ _).mono ?_; rintro e w' ⟨rfl, rfl⟩)
          | (go_at_call 18; refine (spec_divS _ _ _).mono ?_; rintro e w' ⟨rfl, rfl⟩)
          | (go_at_call 17; refine (impl_remS _ _ _).mono ?_; rintro e w' ⟨rfl, rfl⟩)
          | (go_at_call 19; refine (spec_remS _ _ _).mono ?_; rintro e w' ⟨rfl, rfl⟩)
          | (go_at_call 20; refine (impl_divU _ _ _).mono ?_; rintro e w' ⟨rfl, rfl⟩)
          | (go_at_call 21; refine (impl_remU _ _ _).mono ?_; rintro e w' ⟨rfl, rfl⟩)
          | (go_at_call 9; refine (impl_addN _ _ _).mono ?_; rintro e w' ⟨rfl, rfl⟩)
          | (go_at_call 13; refine (impl_mulN _ _ _).mono ?_; rintro e w' ⟨rfl, rfl⟩)
          | (go_at_call 12; refine (impl_wrap _ _).mono ?_; rintro e w' ⟨rfl, rfl⟩)
          | (go_at_call 14; refine (impl_plain _ _).mono ?_; rintro e w' ⟨rfl, rfl⟩))
        go_ret
        exact ⟨rfl, by assumption⟩
      · have e1 : dSc x y = 0 := by unfold dSc; rw [if_neg h0, if_neg h1]
        have e4 : (addN (mulN (dS x y) y) (rS x y) != wrap32 x) = false := by rw [backS x y h0 h1]; simp
        clear h0 h1
        go_wp2_with (first
          | (go_at_call 16; refine (impl_divS _ _ _).mono ?_; rintro e w' ⟨rfl, rfl⟩)
          | (go_at_call 18; refine (spec_divS _ _ _).mono ?_; rintro e w' ⟨rfl, rfl⟩)
          | (go_at_call 17; refine (impl_remS _ _ _).mono ?_; rintro e w' ⟨rfl, rfl⟩)
          | (go_at_call 19; refine (spec_remS _ _ _).mono ?_; rintro e w' ⟨rfl, rfl⟩)
          | (go_at_call 20; refine (impl_divU _ _ _).mono ?_; rintro e w' ⟨rfl, rfl⟩)
          | (go_at_call 21; refine (impl_remU _ _ _).mono ?_; rintro e w' ⟨rfl, rfl⟩)
          | (go_at_call 9; refine (impl_addN _ _ _).mono ?_; rintro e w' ⟨rfl, rfl⟩)
          | (go_at_call 13; refine (impl_mulN _ _ _).mono ?_; rintro e w' ⟨rfl, rfl⟩)
          | (go_at_call 12; refine (impl_wrap _ _).mono ?_; rintro e w' ⟨rfl, rfl⟩)
          | (go_at_call 14; refine (impl_plain _ _).mono ?_; rintro e w' ⟨rfl, rfl⟩))
        go_ret
        exact ⟨rfl, by assumption⟩
theorem fnBits (a : Option Addr) (len cap : Nat) (w : World) (hs : Src w.heap.size w a len) :
    Calls Try.prog 5 #[.slice a len cap] w fun e w' => e = .returned (.bool true) ∧ Below w.heap.size w w' := by
  have hm := hs.1
  have hb := Below.refl w.heap.size w
  by_cases hbig : 1048576 < (len : Int)
  · go_enter Try.func5, Try.ntmps5
    go_wp2
    go_ret
    exact ⟨rfl, hb⟩
  · have r1 : ∀ x y : Int, (addN (bitsN 1 x y) (bitsN 2 x y) == addN x y) = true := fun x y => by unfold addN; rw [BitFacts.sums]; simp
    have r2 : ∀ x y : Int, (subN (bitsN 2 x y) (bitsN 1 x y) == bitsN 3 x y) = true := fun x y => by unfold subN; rw [BitFacts.less]; simp
    have r3 : ∀ x y : Int, (bitsN 8 (bitsN 7 x y) y == wrap32 x) = true := fun x y => by rw [BitFacts.turn_back]; simp
    have r4 : ∀ x : Int, (bitsN 4 x 1 == addN x x) = true := fun x => by unfold addN; rw [BitFacts.twice]; simp
    go_enter Try.func5, Try.ntmps5
    go_wp2_with (first
      | (go_at_call 22; refine (drawBits hs (Nat.le_refl _) ?_).mono ?_; assumption; rintro e w' ⟨x, y, z, rfl, hb'⟩)
      | (go_at_call 23; refine (impl_bits _ _ _ _).mono ?_; rintro e w' ⟨rfl, rfl⟩)
      | (go_at_call 24; refine (spec_bits _ _ _ _).mono ?_; rintro e w' ⟨rfl, m, rfl⟩)
      | (go_at_call 9; refine (impl_addN _ _ _).mono ?_; rintro e w' ⟨rfl, rfl⟩)
      | (go_at_call 11; refine (impl_subN _ _ _).mono ?_; rintro e w' ⟨rfl, rfl⟩)
      | (go_at_call 12; refine (impl_wrap _ _).mono ?_; rintro e w' ⟨rfl, rfl⟩))
    go_ret
    exact ⟨rfl, below_drewN (by assumption) _⟩
/-! ### Comparisons -/
theorem cmp_facts (x y : Int) : (wrap32 x = wrap32 y ↔ x % 4294967296 = y % 4294967296) := by unfold wrap32; omega
theorem q1 (x y : Int) : cmpN 1 x y = (wrap32 x == wrap32 y) := by simp [cmpN]
theorem q2 (x y : Int) : cmpN 2 x y = (wrap32 x != wrap32 y) := by simp [cmpN]
theorem q3 (x y : Int) : cmpN 3 x y = decide (wrap32 x < wrap32 y) := by simp [cmpN]
theorem q4 (x y : Int) : cmpN 4 x y = decide (x % 4294967296 < y % 4294967296) := by simp [cmpN]
theorem q5 (x y : Int) : cmpN 5 x y = decide (wrap32 y < wrap32 x) := by simp [cmpN]
theorem q6 (x y : Int) : cmpN 6 x y = decide (y % 4294967296 < x % 4294967296) := by simp [cmpN]
theorem q9 (x y : Int) : cmpN 9 x y = decide (wrap32 y ≤ wrap32 x) := by simp [cmpN]
theorem q10 (x y : Int) : cmpN 10 x y = decide (y % 4294967296 ≤ x % 4294967296) := by simp [cmpN]
set_option maxHeartbeats 1000000 in
theorem fnCompare (a : Option Addr) (len cap : Nat) (w : World) (hs : Src w.heap.size w a len) :
    Calls Try.prog 6 #[.slice a len cap] w fun e w' => e = .returned (.bool true) ∧ Below w.heap.size w w' := by
  have hm := hs.1
  have hb := Below.refl w.heap.size w
  by_cases hbig : 1048576 < (len : Int)
  · go_enter Try.func6, Try.ntmps6
    go_wp2
    go_ret
    exact ⟨rfl, hb⟩
  · go_enter Try.func6, Try.ntmps6
    go_wp2_with (first
      | (go_at_call 25; refine (drawCompare hs (Nat.le_refl _) ?_).mono ?_; assumption; rintro e w' ⟨x, y, z, rfl, hb'⟩)
      | (go_at_call 26; refine (impl_compare _ _ _ _).mono ?_; rintro e w' ⟨rfl, rfl⟩)
      | (go_at_call 27; refine (spec_compare _ _ _ _).mono ?_; rintro e w' ⟨rfl, rfl⟩))
    have hsz : w.heap.size ≤ w'.heap.size := hb'.size
    have hw := cmp_facts y z
    rcases Int.lt_trichotomy (wrap32 y) (wrap32 z) with hlt | heq | hgt
    · rcases Int.lt_trichotomy (y % 4294967296) (z % 4294967296) with plt | peq | pgt
      · have t1 : cmpN 3 y z = true := by rw [q3]; simp; omega
        have t2 : cmpN 3 z y = false := by rw [q3]; simp; omega
        have t3 : cmpN 1 y z = false := by rw [q1]; simp; omega
        have t4 : cmpN 5 z y = true := by rw [q5]; simp; omega
        have t5 : cmpN 9 y z = false := by rw [q9]; simp; omega
        have t6 : cmpN 4 y z = true := by rw [q4]; simp; omega
        have t7 : cmpN 4 z y = false := by rw [q4]; simp; omega
        have t8 : cmpN 6 z y = true := by rw [q6]; simp; omega
        have t9 : cmpN 10 y z = false := by rw [q10]; simp; omega
        have t10 : cmpN 2 y z = true := by rw [q2]; simp; omega
        clear hw hlt plt
        refine wp_loop_rounds 3 ?_
        rw [rounds_succ]
        go_wp2_with (go_at_call 26; refine (impl_compare _ _ _ _).mono ?_; rintro e w' ⟨rfl, rfl⟩)
        rw [rounds_succ]
        go_wp2_with (go_at_call 26; refine (impl_compare _ _ _ _).mono ?_; rintro e w' ⟨rfl, rfl⟩)
        rw [rounds_succ]
        go_wp2_with (go_at_call 26; refine (impl_compare _ _ _ _).mono ?_; rintro e w' ⟨rfl, rfl⟩)
        go_ret
        exact ⟨rfl, Below.alloc (by assumption) (by assumption) _⟩
      · omega
      · have t1 : cmpN 3 y z = true := by rw [q3]; simp; omega
        have t2 : cmpN 3 z y = false := by rw [q3]; simp; omega
        have t3 : cmpN 1 y z = false := by rw [q1]; simp; omega
        have t4 : cmpN 5 z y = true := by rw [q5]; simp; omega
        have t5 : cmpN 9 y z = false := by rw [q9]; simp; omega
        have t6 : cmpN 4 y z = false := by rw [q4]; simp; omega
        have t7 : cmpN 4 z y = true := by rw [q4]; simp; omega
        have t8 : cmpN 6 z y = false := by rw [q6]; simp; omega
        have t9 : cmpN 10 y z = true := by rw [q10]; simp; omega
        have t10 : cmpN 2 y z = true := by rw [q2]; simp; omega
        clear hw hlt pgt
        refine wp_loop_rounds 3 ?_
        rw [rounds_succ]
        go_wp2_with (go_at_call 26; refine (impl_compare _ _ _ _).mono ?_; rintro e w' ⟨rfl, rfl⟩)
        rw [rounds_succ]
        go_wp2_with (go_at_call 26; refine (impl_compare _ _ _ _).mono ?_; rintro e w' ⟨rfl, rfl⟩)
        rw [rounds_succ]
        go_wp2_with (go_at_call 26; refine (impl_compare _ _ _ _).mono ?_; rintro e w' ⟨rfl, rfl⟩)
        go_ret
        exact ⟨rfl, Below.alloc (by assumption) (by assumption) _⟩
    · have peq := hw.1 heq
      have t1 : cmpN 3 y z = false := by rw [q3]; simp; omega
      have t2 : cmpN 3 z y = false := by rw [q3]; simp; omega
      have t3 : cmpN 1 y z = true := by rw [q1]; simp; omega
      have t4 : cmpN 5 z y = false := by rw [q5]; simp; omega
      have t5 : cmpN 9 y z = true := by rw [q9]; simp; omega
      have t6 : cmpN 4 y z = false := by rw [q4]; simp; omega
      have t7 : cmpN 4 z y = false := by rw [q4]; simp; omega
      have t8 : cmpN 6 z y = false := by rw [q6]; simp; omega
      have t9 : cmpN 10 y z = true := by rw [q10]; simp; omega
      have t10 : cmpN 2 y z = false := by rw [q2]; simp; omega
      clear hw heq peq
      refine wp_loop_rounds 3 ?_
      rw [rounds_succ]
      go_wp2_with (go_at_call 26; refine (impl_compare _ _ _ _).mono ?_; rintro e w' ⟨rfl, rfl⟩)
      rw [rounds_succ]
      go_wp2_with (go_at_call 26; refine (impl_compare _ _ _ _).mono ?_; rintro e w' ⟨rfl, rfl⟩)
      rw [rounds_succ]
      go_wp2_with (go_at_call 26; refine (impl_compare _ _ _ _).mono ?_; rintro e w' ⟨rfl, rfl⟩)
      go_ret
      exact ⟨rfl, Below.alloc (by assumption) (by assumption) _⟩
    · rcases Int.lt_trichotomy (y % 4294967296) (z % 4294967296) with plt | peq | pgt
      · have t1 : cmpN 3 y z = false := by rw [q3]; simp; omega
        have t2 : cmpN 3 z y = true := by rw [q3]; simp; omega
        have t3 : cmpN 1 y z = false := by rw [q1]; simp; omega
        have t4 : cmpN 5 z y = false := by rw [q5]; simp; omega
        have t5 : cmpN 9 y z = true := by rw [q9]; simp; omega
        have t6 : cmpN 4 y z = true := by rw [q4]; simp; omega
        have t7 : cmpN 4 z y = false := by rw [q4]; simp; omega
        have t8 : cmpN 6 z y = true := by rw [q6]; simp; omega
        have t9 : cmpN 10 y z = false := by rw [q10]; simp; omega
        have t10 : cmpN 2 y z = true := by rw [q2]; simp; omega
        clear hw hgt plt
        refine wp_loop_rounds 3 ?_
        rw [rounds_succ]
        go_wp2_with (go_at_call 26; refine (impl_compare _ _ _ _).mono ?_; rintro e w' ⟨rfl, rfl⟩)
        rw [rounds_succ]
        go_wp2_with (go_at_call 26; refine (impl_compare _ _ _ _).mono ?_; rintro e w' ⟨rfl, rfl⟩)
        rw [rounds_succ]
        go_wp2_with (go_at_call 26; refine (impl_compare _ _ _ _).mono ?_; rintro e w' ⟨rfl, rfl⟩)
        go_ret
        exact ⟨rfl, Below.alloc (by assumption) (by assumption) _⟩
      · omega
      · have t1 : cmpN 3 y z = false := by rw [q3]; simp; omega
        have t2 : cmpN 3 z y = true := by rw [q3]; simp; omega
        have t3 : cmpN 1 y z = false := by rw [q1]; simp; omega
        have t4 : cmpN 5 z y = false := by rw [q5]; simp; omega
        have t5 : cmpN 9 y z = true := by rw [q9]; simp; omega
        have t6 : cmpN 4 y z = false := by rw [q4]; simp; omega
        have t7 : cmpN 4 z y = true := by rw [q4]; simp; omega
        have t8 : cmpN 6 z y = false := by rw [q6]; simp; omega
        have t9 : cmpN 10 y z = true := by rw [q10]; simp; omega
        have t10 : cmpN 2 y z = true := by rw [q2]; simp; omega
        clear hw hgt pgt
        refine wp_loop_rounds 3 ?_
        rw [rounds_succ]
        go_wp2_with (go_at_call 26; refine (impl_compare _ _ _ _).mono ?_; rintro e w' ⟨rfl, rfl⟩)
        rw [rounds_succ]
        go_wp2_with (go_at_call 26; refine (impl_compare _ _ _ _).mono ?_; rintro e w' ⟨rfl, rfl⟩)
        rw [rounds_succ]
        go_wp2_with (go_at_call 26; refine (impl_compare _ _ _ _).mono ?_; rintro e w' ⟨rfl, rfl⟩)
        go_ret
        exact ⟨rfl, Below.alloc (by assumption) (by assumption) _⟩
end Go.Proofs.Ytnpjcgmfmfhgdac.RingLaws
