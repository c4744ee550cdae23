/-
  Plain facts on the bits of two numbers: and and or add up, or less and is exclusive or, a turn back.
-/
import Derived.Test.YtnpjcgmfmfhgdacBitsNum
namespace Go.Proofs.Ytnpjcgmfmfhgdac.BitFacts
open Go.RowKit PlainNum BitsNum

theorem and_or (n : Nat) : ∀ x y : Nat, x < 2 ^ n → y < 2 ^ n → (x &&& y) + (x ||| y) = x + y ∧ (x &&& y) + (x ^^^ y) = (x ||| y) := by
  induction n with
  | zero =>
    intro x y hx hy
    have hx' : x = 0 := by simp at hx; exact hx
    have hy' : y = 0 := by simp at hy; exact hy
    subst hx' hy'; decide
  | succ n ih =>
    intro x y hx hy
    have h := ih (x / 2) (y / 2) (by rw [Nat.pow_succ] at hx; omega) (by rw [Nat.pow_succ] at hy; omega)
    have a1 := Nat.and_div_two_pow (a := x) (b := y) (n := 1)
    have o1 := Nat.or_div_two_pow (a := x) (b := y) (n := 1)
    have x1 := Nat.xor_div_two_pow (a := x) (b := y) (n := 1)
    have a2 := Nat.and_mod_two_pow (a := x) (b := y) (n := 1)
    have o2 := Nat.or_mod_two_pow (a := x) (b := y) (n := 1)
    have x2 := Nat.xor_mod_two_pow (a := x) (b := y) (n := 1)
    simp only [Nat.pow_one] at a1 o1 x1 a2 o2 x2
    rw [← a1, ← o1, ← x1] at h
    have hb : ((x &&& y) % 2 + (x ||| y) % 2 = x % 2 + y % 2) ∧ ((x &&& y) % 2 + (x ^^^ y) % 2 = (x ||| y) % 2) := by
      rw [a2, o2, x2]
      rcases Nat.mod_two_eq_zero_or_one x with hx1 | hx1 <;> rcases Nat.mod_two_eq_zero_or_one y with hy1 | hy1 <;> rw [hx1, hy1] <;> decide
    omega
theorem add_mod_w (u v : Int) : (wrap32 u + wrap32 v) % 4294967296 = (u + v) % 4294967296 := by unfold wrap32; omega
theorem sub_mod_w (u v : Int) : (wrap32 u - wrap32 v) % 4294967296 = (u - v) % 4294967296 := by unfold wrap32; omega
theorem sums (a b : Int) : wrap32 (wrap32 (bitsN 1 a b) + wrap32 (bitsN 2 a b)) = wrap32 (wrap32 a + wrap32 b) := by
  rw [n1, n2]
  have h := (and_or 32 (a % 4294967296).toNat (b % 4294967296).toNat (by omega) (by omega)).1
  refine wrap32_cong ?_
  rw [add_mod_w, add_mod_w]
  unfold andL orL
  rw [add_mod_w]
  generalize ((a % 4294967296).toNat &&& (b % 4294967296).toNat) = A at *
  generalize ((a % 4294967296).toNat ||| (b % 4294967296).toNat) = O at *
  omega
theorem less (a b : Int) : wrap32 (wrap32 (bitsN 2 a b) - wrap32 (bitsN 1 a b)) = bitsN 3 a b := by
  rw [n1, n2, n3]
  have h := (and_or 32 (a % 4294967296).toNat (b % 4294967296).toNat (by omega) (by omega)).2
  unfold xorL
  refine wrap32_cong ?_
  rw [sub_mod_w]
  unfold andL orL
  rw [sub_mod_w]
  generalize ((a % 4294967296).toNat &&& (b % 4294967296).toNat) = A at *
  generalize ((a % 4294967296).toNat ||| (b % 4294967296).toNat) = O at *
  generalize ((a % 4294967296).toNat ^^^ (b % 4294967296).toNat) = X at *
  omega
theorem twice (a : Int) : bitsN 4 a 1 = wrap32 (wrap32 a + wrap32 a) := by
  rw [n4, show ((1 : Int) % 32).toNat = 1 by decide]
  unfold wrap32; omega

/-- A turn left by k, in numbers. -/
theorem left_nat (x k : Nat) (hk : k ≤ 32) (hx : x < 4294967296) :
    (x * 2 ^ k % 4294967296 ||| x / 2 ^ (32 - k)) = x % 2 ^ (32 - k) * 2 ^ k + x / 2 ^ (32 - k) := by
  have hp : 2 ^ (32 - k) * 2 ^ k = 4294967296 := by rw [← Nat.pow_add, Nat.sub_add_cancel hk]
  have e1 : x * 2 ^ k % 4294967296 = x % 2 ^ (32 - k) * 2 ^ k := by rw [← hp, Nat.mul_mod_mul_right]
  rw [e1]
  refine nat_join k _ _ (Nat.mul_mod_left _ _) ?_
  rw [Nat.div_lt_iff_lt_mul (Nat.two_pow_pos _), Nat.mul_comm, hp]; exact hx
theorem right_nat (r k : Nat) (hk : k ≤ 32) (hr : r < 4294967296) :
    (r / 2 ^ k ||| r * 2 ^ (32 - k) % 4294967296) = r / 2 ^ k + r % 2 ^ k * 2 ^ (32 - k) := by
  have hp : 2 ^ k * 2 ^ (32 - k) = 4294967296 := by rw [← Nat.pow_add, Nat.add_sub_cancel' hk]
  have e1 : r * 2 ^ (32 - k) % 4294967296 = r % 2 ^ k * 2 ^ (32 - k) := by rw [← hp, Nat.mul_mod_mul_right]
  rw [e1, Nat.or_comm, nat_join (32 - k) _ _ (Nat.mul_mod_left _ _) ?_, Nat.add_comm]
  rw [Nat.div_lt_iff_lt_mul (Nat.two_pow_pos _), Nat.mul_comm, hp]; exact hr
theorem back_nat (x k : Nat) (hk : k ≤ 32) (hx : x < 4294967296) (r : Nat) (hr : r = (x * 2 ^ k % 4294967296 ||| x / 2 ^ (32 - k))) :
    (r / 2 ^ k ||| r * 2 ^ (32 - k) % 4294967296) = x := by
  have hp : 2 ^ (32 - k) * 2 ^ k = 4294967296 := by rw [← Nat.pow_add, Nat.sub_add_cancel hk]
  have hq : x / 2 ^ (32 - k) < 2 ^ k := by
    rw [Nat.div_lt_iff_lt_mul (Nat.two_pow_pos _), Nat.mul_comm, hp]; exact hx
  have e : r = x % 2 ^ (32 - k) * 2 ^ k + x / 2 ^ (32 - k) := hr.trans (left_nat x k hk hx)
  have hr' : r < 4294967296 := by
    have h1 : x % 2 ^ (32 - k) + 1 ≤ 2 ^ (32 - k) := Nat.mod_lt _ (Nat.two_pow_pos _)
    have h2 := Nat.mul_le_mul_right (2 ^ k) h1
    rw [hp, Nat.add_mul] at h2
    omega
  rw [right_nat r k hk hr']
  have d1 : r / 2 ^ k = x % 2 ^ (32 - k) := by
    rw [e, Nat.mul_comm, Nat.mul_add_div (Nat.two_pow_pos _), Nat.div_eq_of_lt hq, Nat.add_zero]
  have d2 : r % 2 ^ k = x / 2 ^ (32 - k) := by
    rw [e, Nat.mul_comm, Nat.mul_add_mod, Nat.mod_eq_of_lt hq]
  rw [d1, d2, Nat.mul_comm, Nat.mod_add_div]
theorem c1 (a : Int) (k : Nat) : ((a * 2 ^ k) % 4294967296).toNat = (a % 4294967296).toNat * 2 ^ k % 4294967296 := by
  obtain ⟨x, hx⟩ : ∃ x : Nat, a % 4294967296 = (x : Int) := ⟨(a % 4294967296).toNat, by omega⟩
  have e2 : ((x : Nat) : Int) * 2 ^ k = ((x * 2 ^ k : Nat) : Int) := by simp
  rw [← mod_mul, hx, e2, Int.toNat_natCast]; omega
theorem c2 (a : Int) (k : Nat) : ((a % 4294967296 / 2 ^ k) % 4294967296).toNat = (a % 4294967296).toNat / 2 ^ k := by
  have h1 := div_pow_pos (a % 4294967296) k (by omega)
  rw [Int.emod_eq_of_lt h1.1 h1.2]
  obtain ⟨x, hx⟩ : ∃ x : Nat, a % 4294967296 = (x : Int) := ⟨(a % 4294967296).toNat, by omega⟩
  have e2 : ((x : Nat) : Int) / 2 ^ k = ((x / 2 ^ k : Nat) : Int) := by simp
  rw [hx, e2, Int.toNat_natCast, Int.toNat_natCast]
theorem turn_back (a b : Int) : bitsN 8 (bitsN 7 a b) b = wrap32 a := by
  obtain ⟨k, hk, ek, ej⟩ : ∃ k : Nat, k ≤ 32 ∧ (b % 32).toNat = k ∧ (32 - b % 32).toNat = 32 - k := ⟨(b % 32).toNat, by omega, rfl, by omega⟩
  have hx : (a % 4294967296).toNat < 4294967296 := by omega
  have hr : (bitsN 7 a b % 4294967296).toNat = ((a % 4294967296).toNat * 2 ^ k % 4294967296 ||| (a % 4294967296).toNat / 2 ^ (32 - k)) := by
    rw [n7, ek, ej]
    unfold orL
    rw [c1, c2, plain_wrap]
    have hlt : ((a % 4294967296).toNat * 2 ^ k % 4294967296 ||| (a % 4294967296).toNat / 2 ^ (32 - k)) < 2 ^ 32 :=
      Nat.or_lt_two_pow (Nat.mod_lt _ (by decide)) (Nat.lt_of_le_of_lt (Nat.div_le_self _ _) hx)
    generalize ((a % 4294967296).toNat * 2 ^ k % 4294967296 ||| (a % 4294967296).toNat / 2 ^ (32 - k)) = R at *
    omega
  rw [n8, ek, ej]
  unfold orL
  rw [c1, c2, back_nat _ k hk hx _ hr]
  refine wrap32_cong ?_
  omega
end Go.Proofs.Ytnpjcgmfmfhgdac.BitFacts
