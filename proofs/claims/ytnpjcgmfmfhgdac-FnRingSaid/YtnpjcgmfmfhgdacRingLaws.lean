/-
  The laws of the ring, of division and of the bits, over whatever numbers a draw gives: their walks: each returns true.
-/
import Derived.Test.YtnpjcgmfmfhgdacDraws
import Derived.Test.YtnpjcgmfmfhgdacImplBits
namespace Go.Proofs.Ytnpjcgmfmfhgdac.RingLaws
open Go.RowKit PlainNum NumCalls BitsNum OpCalls Draws

def addN (a b : Int) : Int := wrap32 (wrap32 a + wrap32 b)
def subN (a b : Int) : Int := wrap32 (wrap32 a - wrap32 b)
def mulN (a b : Int) : Int := wrap32 (wrap32 a * wrap32 b)
theorem wrap_mod (x : Int) : wrap32 x % 4294967296 = x % 4294967296 := plain_wrap x
theorem add_comm' (a b : Int) : addN a b = addN b a := by unfold addN; rw [Int.add_comm]
theorem mul_comm' (a b : Int) : mulN a b = mulN b a := by unfold mulN; rw [Int.mul_comm]
theorem sub_add (a b : Int) : subN (addN a b) b = wrap32 a := by unfold subN addN wrap32; omega
theorem mul_mod_w (a b : Int) : (wrap32 a * wrap32 b) % 4294967296 = (a * b) % 4294967296 := by rw [Int.mul_emod, wrap_mod, wrap_mod, ← Int.mul_emod]
theorem mulN_mod (a b : Int) : mulN a b % 4294967296 = (a * b) % 4294967296 := by unfold mulN; rw [wrap_mod, mul_mod_w]
theorem addN_mod (a b : Int) : addN a b % 4294967296 = (a + b) % 4294967296 := by unfold addN wrap32; omega
theorem addN_wrap (a b : Int) : addN a b = wrap32 (a + b) := by unfold addN wrap32; omega
theorem mulN_wrap (a b : Int) : mulN a b = wrap32 (a * b) := wrap32_cong (mul_mod_w a b)
theorem distrib (c a b : Int) : mulN c (addN a b) = addN (mulN c a) (mulN c b) := by
  rw [mulN_wrap, addN_wrap (mulN c a)]
  refine wrap32_cong ?_
  rw [Int.mul_emod, addN_mod, ← Int.mul_emod, Int.mul_add, Int.add_emod, Int.add_emod (mulN c a), mulN_mod, mulN_mod]
theorem impl_addN (a b : Int) (w : World) : Calls Try.prog 9 #[.int .i64 a, .int .i64 b] w fun e w' => e = .returned (.int .i64 (addN a b)) ∧ w = w' := impl_add a b w
theorem spec_addN (a b : Int) (w : World) : Calls Try.prog 10 #[.int .i64 a, .int .i64 b] w fun e w' => e = .returned (.int .i64 (addN a b)) ∧ w = w' := spec_add a b w
theorem impl_subN (a b : Int) (w : World) : Calls Try.prog 11 #[.int .i64 a, .int .i64 b] w fun e w' => e = .returned (.int .i64 (subN a b)) ∧ w = w' := impl_sub a b w
theorem impl_mulN (a b : Int) (w : World) : Calls Try.prog 13 #[.int .i64 a, .int .i64 b] w fun e w' => e = .returned (.int .i64 (mulN a b)) ∧ w = w' := impl_mul a b w
theorem fnRing (a : Option Addr) (len cap : Nat) (w : World) (hs : Src w.heap.size w a len) :
    Calls Try.prog 3 #[.slice a len cap] w fun e w' => e = .returned (.bool true) ∧ Below w.heap.size w w' := by
  have hm := hs.1
  have hb := Below.refl w.heap.size w
  by_cases hbig : 1048576 < (len : Int)
  · go_enter Try.func3, Try.ntmps3
    go_wp2
    go_ret
    exact ⟨rfl, hb⟩
  · have r1 : ∀ x y : Int, (addN x y == addN y x) = true := fun x y => by rw [add_comm']; simp
    have r2 : ∀ x y : Int, (subN (addN x y) y == wrap32 x) = true := fun x y => by rw [sub_add]; simp
    have r3 : ∀ z x y : Int, (mulN z (addN x y) == addN (mulN z x) (mulN z y)) = true := fun z x y => by rw [distrib]; simp
    have r4 : ∀ x y : Int, (mulN x y == mulN y x) = true := fun x y => by rw [mul_comm']; simp
    have r5 : ∀ x : Int, (x % 4294967296 == wrap32 x % 4294967296) = true := fun x => by rw [plain_wrap]; simp
    have r6 : ∀ x y : Int, (wrap32 (addN x y % 4294967296) == addN x y) = true := fun x y => by unfold addN; rw [wrap_plain, wrap_wrap]; simp
    go_enter Try.func3, Try.ntmps3
    go_wp2_with (first
      | (go_at_call 7; refine (drawAdd hs (Nat.le_refl _) ?_).mono ?_; assumption; rintro e w' ⟨x, y, rfl, hb'⟩)
      | (go_at_call 8; refine (drawMul hs (Nat.le_refl _) ?_).mono ?_; assumption; rintro e w' ⟨x, y, rfl, hb'⟩)
      | (go_at_call 9; refine (impl_addN _ _ _).mono ?_; rintro e w' ⟨rfl, rfl⟩)
      | (go_at_call 10; refine (spec_addN _ _ _).mono ?_; rintro e w' ⟨rfl, rfl⟩)
      | (go_at_call 11; refine (impl_subN _ _ _).mono ?_; rintro e w' ⟨rfl, rfl⟩)
      | (go_at_call 13; refine (impl_mulN _ _ _).mono ?_; rintro e w' ⟨rfl, rfl⟩)
      | (go_at_call 12; refine (impl_wrap _ _).mono ?_; rintro e w' ⟨rfl, rfl⟩)
      | (go_at_call 14; refine (impl_plain _ _).mono ?_; rintro e w' ⟨rfl, rfl⟩))
    go_ret
    exact ⟨rfl, by assumption⟩
end Go.Proofs.Ytnpjcgmfmfhgdac.RingLaws
