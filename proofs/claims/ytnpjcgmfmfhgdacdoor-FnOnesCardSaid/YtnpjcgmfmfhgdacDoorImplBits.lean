/-
  What the program's Bits answers when it is called, op by op.
-/
import Derived.Test.YtnpjcgmfmfhgdacDoorOpCalls
namespace Go.Proofs.YtnpjcgmfmfhgdacDoor.OpCalls
open Go.RowKit PlainNum NumCalls BitsNum
theorem impl_bits1 (a b : Int) (w : World) :
    Calls Tryd.prog 11 #[.int .i64 1, .int .i64 a, .int .i64 b] w fun e w' => e = .returned (.int .i64 (bitsN 1 a b)) ∧ w = w' := by
  have u1 : IntKind.u32.wrap (wrap32 a) = a % 4294967296 := by rw [IntKind.wrap_u32]; exact plain_wrap a
  have u2 : IntKind.u32.wrap (wrap32 b) = b % 4294967296 := by rw [IntKind.wrap_u32]; exact plain_wrap b
  have b1 : 0 ≤ b % 32 := by omega
  have b2 : b % 32 < 32 := by omega
  have hf : -2147483648 ≤ bits .and .i32 (wrap32 a) (wrap32 b) ∧ bits .and .i32 (wrap32 a) (wrap32 b) ≤ 2147483647 := by rw [i1]; exact bitsN_fits 1 a b
  go_enter Tryd.func11, Tryd.ntmps11
  go_wp2
  go_ret
  exact ⟨congrArg (fun x => Ending.returned (.int .i64 x)) (i1 a b), rfl⟩
theorem impl_bits2 (a b : Int) (w : World) :
    Calls Tryd.prog 11 #[.int .i64 2, .int .i64 a, .int .i64 b] w fun e w' => e = .returned (.int .i64 (bitsN 2 a b)) ∧ w = w' := by
  have u1 : IntKind.u32.wrap (wrap32 a) = a % 4294967296 := by rw [IntKind.wrap_u32]; exact plain_wrap a
  have u2 : IntKind.u32.wrap (wrap32 b) = b % 4294967296 := by rw [IntKind.wrap_u32]; exact plain_wrap b
  have b1 : 0 ≤ b % 32 := by omega
  have b2 : b % 32 < 32 := by omega
  have hf : -2147483648 ≤ bits .or .i32 (wrap32 a) (wrap32 b) ∧ bits .or .i32 (wrap32 a) (wrap32 b) ≤ 2147483647 := by rw [i2]; exact bitsN_fits 2 a b
  go_enter Tryd.func11, Tryd.ntmps11
  go_wp2
  go_ret
  exact ⟨congrArg (fun x => Ending.returned (.int .i64 x)) (i2 a b), rfl⟩
theorem impl_bits3 (a b : Int) (w : World) :
    Calls Tryd.prog 11 #[.int .i64 3, .int .i64 a, .int .i64 b] w fun e w' => e = .returned (.int .i64 (bitsN 3 a b)) ∧ w = w' := by
  have u1 : IntKind.u32.wrap (wrap32 a) = a % 4294967296 := by rw [IntKind.wrap_u32]; exact plain_wrap a
  have u2 : IntKind.u32.wrap (wrap32 b) = b % 4294967296 := by rw [IntKind.wrap_u32]; exact plain_wrap b
  have b1 : 0 ≤ b % 32 := by omega
  have b2 : b % 32 < 32 := by omega
  have hf : -2147483648 ≤ bits .xor .i32 (wrap32 a) (wrap32 b) ∧ bits .xor .i32 (wrap32 a) (wrap32 b) ≤ 2147483647 := by rw [i3]; exact bitsN_fits 3 a b
  go_enter Tryd.func11, Tryd.ntmps11
  go_wp2
  go_ret
  exact ⟨congrArg (fun x => Ending.returned (.int .i64 x)) (i3 a b), rfl⟩
theorem impl_bits4 (a b : Int) (w : World) :
    Calls Tryd.prog 11 #[.int .i64 4, .int .i64 a, .int .i64 b] w fun e w' => e = .returned (.int .i64 (bitsN 4 a b)) ∧ w = w' := by
  have u1 : IntKind.u32.wrap (wrap32 a) = a % 4294967296 := by rw [IntKind.wrap_u32]; exact plain_wrap a
  have u2 : IntKind.u32.wrap (wrap32 b) = b % 4294967296 := by rw [IntKind.wrap_u32]; exact plain_wrap b
  have b1 : 0 ≤ b % 32 := by omega
  have b2 : b % 32 < 32 := by omega
  have hf : -2147483648 ≤ wrap32 (wrap32 a * 2 ^ (b % 32).toNat) ∧ wrap32 (wrap32 a * 2 ^ (b % 32).toNat) ≤ 2147483647 := by rw [i4]; exact bitsN_fits 4 a b
  go_enter Tryd.func11, Tryd.ntmps11
  go_wp2
  go_ret
  exact ⟨congrArg (fun x => Ending.returned (.int .i64 x)) (i4 a b), rfl⟩
theorem impl_bits5 (a b : Int) (w : World) :
    Calls Tryd.prog 11 #[.int .i64 5, .int .i64 a, .int .i64 b] w fun e w' => e = .returned (.int .i64 (bitsN 5 a b)) ∧ w = w' := by
  have u1 : IntKind.u32.wrap (wrap32 a) = a % 4294967296 := by rw [IntKind.wrap_u32]; exact plain_wrap a
  have u2 : IntKind.u32.wrap (wrap32 b) = b % 4294967296 := by rw [IntKind.wrap_u32]; exact plain_wrap b
  have b1 : 0 ≤ b % 32 := by omega
  have b2 : b % 32 < 32 := by omega
  have hf : -2147483648 ≤ wrap32 a / 2 ^ (b % 32).toNat ∧ wrap32 a / 2 ^ (b % 32).toNat ≤ 2147483647 := by rw [i5]; exact bitsN_fits 5 a b
  go_enter Tryd.func11, Tryd.ntmps11
  go_wp2
  go_ret
  exact ⟨congrArg (fun x => Ending.returned (.int .i64 x)) (i5 a b), rfl⟩
theorem impl_bits6 (a b : Int) (w : World) :
    Calls Tryd.prog 11 #[.int .i64 6, .int .i64 a, .int .i64 b] w fun e w' => e = .returned (.int .i64 (bitsN 6 a b)) ∧ w = w' := by
  have u1 : IntKind.u32.wrap (wrap32 a) = a % 4294967296 := by rw [IntKind.wrap_u32]; exact plain_wrap a
  have u2 : IntKind.u32.wrap (wrap32 b) = b % 4294967296 := by rw [IntKind.wrap_u32]; exact plain_wrap b
  have b1 : 0 ≤ b % 32 := by omega
  have b2 : b % 32 < 32 := by omega
  have hf : -2147483648 ≤ wrap32 (a % 4294967296 / 2 ^ (b % 32).toNat) ∧ wrap32 (a % 4294967296 / 2 ^ (b % 32).toNat) ≤ 2147483647 := by rw [s6]; exact bitsN_fits 6 a b
  go_enter Tryd.func11, Tryd.ntmps11
  go_wp2
  go_ret
  exact ⟨congrArg (fun x => Ending.returned (.int .i64 x)) (s6 a b), rfl⟩
theorem impl_bits7 (a b : Int) (w : World) :
    Calls Tryd.prog 11 #[.int .i64 7, .int .i64 a, .int .i64 b] w fun e w' => e = .returned (.int .i64 (bitsN 7 a b)) ∧ w = w' := by
  have u1 : IntKind.u32.wrap (wrap32 a) = a % 4294967296 := by rw [IntKind.wrap_u32]; exact plain_wrap a
  have u2 : IntKind.u32.wrap (wrap32 b) = b % 4294967296 := by rw [IntKind.wrap_u32]; exact plain_wrap b
  have b1 : 0 ≤ b % 32 := by omega
  have b2 : b % 32 < 32 := by omega
  have hf : -2147483648 ≤ wrap32 (rotL a (b % 32)) ∧ wrap32 (rotL a (b % 32)) ≤ 2147483647 := by rw [i7]; exact bitsN_fits 7 a b
  go_enter Tryd.func11, Tryd.ntmps11
  go_wp2_with (first | (go_at_call 33; refine (rotate _ _ _).mono ?_; rintro e w' ⟨rfl, rfl⟩) | go_in)
  go_ret
  exact ⟨congrArg (fun x => Ending.returned (.int .i64 x)) (i7 a b), rfl⟩
theorem impl_bits8 (a b : Int) (w : World) :
    Calls Tryd.prog 11 #[.int .i64 8, .int .i64 a, .int .i64 b] w fun e w' => e = .returned (.int .i64 (bitsN 8 a b)) ∧ w = w' := by
  have u1 : IntKind.u32.wrap (wrap32 a) = a % 4294967296 := by rw [IntKind.wrap_u32]; exact plain_wrap a
  have u2 : IntKind.u32.wrap (wrap32 b) = b % 4294967296 := by rw [IntKind.wrap_u32]; exact plain_wrap b
  have b1 : 0 ≤ b % 32 := by omega
  have b2 : b % 32 < 32 := by omega
  have hf : -2147483648 ≤ wrap32 (rotL a (-(b % 32) % 32)) ∧ wrap32 (rotL a (-(b % 32) % 32)) ≤ 2147483647 := by rw [i8]; exact bitsN_fits 8 a b
  go_enter Tryd.func11, Tryd.ntmps11
  go_wp2_with (first | (go_at_call 33; refine (rotate _ _ _).mono ?_; rintro e w' ⟨rfl, rfl⟩) | go_in)
  go_ret
  exact ⟨congrArg (fun x => Ending.returned (.int .i64 x)) (i8 a b), rfl⟩
theorem impl_bits (op a b : Int) (w : World) :
    Calls Tryd.prog 11 #[.int .i64 op, .int .i64 a, .int .i64 b] w fun e w' => e = .returned (.int .i64 (bitsN op a b)) ∧ w = w' := by
  by_cases ho : 1 ≤ op ∧ op ≤ 8
  · have ho' : op = 1 ∨ op = 2 ∨ op = 3 ∨ op = 4 ∨ op = 5 ∨ op = 6 ∨ op = 7 ∨ op = 8 := by omega
    rcases ho' with rfl | rfl | rfl | rfl | rfl | rfl | rfl | rfl
    · exact impl_bits1 a b w
    · exact impl_bits2 a b w
    · exact impl_bits3 a b w
    · exact impl_bits4 a b w
    · exact impl_bits5 a b w
    · exact impl_bits6 a b w
    · exact impl_bits7 a b w
    · exact impl_bits8 a b w
  · have e1 : bitsN op a b = 0 := by unfold bitsN; repeat rw [if_neg (by omega)]
    have hn : op < 1 ∨ 8 < op := by omega
    have u2 : IntKind.u32.wrap (wrap32 b) = b % 4294967296 := by rw [IntKind.wrap_u32]; exact plain_wrap b
    rw [e1]
    clear ho e1
    rcases hn with hn | hn
    all_goals (go_enter Tryd.func11, Tryd.ntmps11; go_wp2; go_ret; exact ⟨rfl, rfl⟩)
end Go.Proofs.YtnpjcgmfmfhgdacDoor.OpCalls
