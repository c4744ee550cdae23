/-
  What Compare and Bits of numbers of 32 bits answer when they are called: the specification's and the program's.
-/
import Derived.Test.YtnpjcgmfmfhgdacNumCalls
import Derived.Test.YtnpjcgmfmfhgdacBitsNum
import Derived.Deep.QuietTactic
import Derived.BigQuiet
namespace Go.Proofs.Ytnpjcgmfmfhgdac.OpCalls
open Go.RowKit PlainNum NumCalls BitsNum

/-- What Compare answers, by its op. -/
def cmpN (op a b : Int) : Bool :=
  if op = 1 then wrap32 a == wrap32 b else if op = 2 then wrap32 a != wrap32 b
  else if op = 3 then decide (wrap32 a < wrap32 b) else if op = 4 then decide (a % 4294967296 < b % 4294967296)
  else if op = 5 then decide (wrap32 b < wrap32 a) else if op = 6 then decide (b % 4294967296 < a % 4294967296)
  else if op = 7 then decide (wrap32 a ≤ wrap32 b) else if op = 8 then decide (a % 4294967296 ≤ b % 4294967296)
  else if op = 9 then decide (wrap32 b ≤ wrap32 a) else if op = 10 then decide (b % 4294967296 ≤ a % 4294967296) else false
theorem spec_compare (op a b : Int) (w : World) :
    Calls Try.prog 27 #[.int .i64 op, .int .i64 a, .int .i64 b] w fun e w' => e = .returned (.bool (cmpN op a b)) ∧ w = w' := by
  by_cases hs : 1 ≤ op ∧ op ≤ 10
  · have ho : op = 1 ∨ op = 2 ∨ op = 3 ∨ op = 4 ∨ op = 5 ∨ op = 6 ∨ op = 7 ∨ op = 8 ∨ op = 9 ∨ op = 10 := by omega
    clear hs
    rcases ho with rfl | rfl | rfl | rfl | rfl | rfl | rfl | rfl | rfl | rfl
    all_goals (go_enter Try.func27, Try.ntmps27; go_wp2_with (first | (go_at_call 44; refine (spec_plain _ _).mono ?_; rintro e w' ⟨rfl, rfl⟩) | (go_at_call 33; refine (spec_wrap _ _).mono ?_; rintro e w' ⟨rfl, rfl⟩)); go_ret; exact ⟨rfl, rfl⟩)
  · have e1 : cmpN op a b = false := by unfold cmpN; repeat rw [if_neg (by omega)]
    have hn : op < 1 ∨ 10 < op := by omega
    rw [e1]
    clear hs e1
    rcases hn with hn | hn
    all_goals (go_enter Try.func27, Try.ntmps27; go_wp2_with (first | (go_at_call 44; refine (spec_plain _ _).mono ?_; rintro e w' ⟨rfl, rfl⟩) | (go_at_call 33; refine (spec_wrap _ _).mono ?_; rintro e w' ⟨rfl, rfl⟩)); go_ret; exact ⟨rfl, rfl⟩)
theorem impl_compare (op a b : Int) (w : World) :
    Calls Try.prog 26 #[.int .i64 op, .int .i64 a, .int .i64 b] w fun e w' => e = .returned (.bool (cmpN op a b)) ∧ w = w' := by
  have u1 : IntKind.u32.wrap (wrap32 a) = a % 4294967296 := by rw [IntKind.wrap_u32]; exact plain_wrap a
  have u2 : IntKind.u32.wrap (wrap32 b) = b % 4294967296 := by rw [IntKind.wrap_u32]; exact plain_wrap b
  by_cases hs : 1 ≤ op ∧ op ≤ 10
  · have ho : op = 1 ∨ op = 2 ∨ op = 3 ∨ op = 4 ∨ op = 5 ∨ op = 6 ∨ op = 7 ∨ op = 8 ∨ op = 9 ∨ op = 10 := by omega
    clear hs
    rcases ho with rfl | rfl | rfl | rfl | rfl | rfl | rfl | rfl | rfl | rfl
    all_goals (go_enter Try.func26, Try.ntmps26; go_wp2; go_ret; exact ⟨rfl, rfl⟩)
  · have e1 : cmpN op a b = false := by unfold cmpN; repeat rw [if_neg (by omega)]
    have hn : op < 1 ∨ 10 < op := by omega
    rw [e1]
    clear hs e1
    rcases hn with hn | hn
    all_goals (go_enter Try.func26, Try.ntmps26; go_wp2; go_ret; exact ⟨rfl, rfl⟩)
theorem rotate (x k : Int) (w : World) :
    Calls Try.prog 48 #[.int .u32 (x % 4294967296), .int .i64 k] w fun e w' => e = .returned (.int .u32 (rotL x (k % 32))) ∧ w = w' := by
  have e1 := and31 k
  have e2 := rot_or x (k % 32)
  have b1 : 0 ≤ k % 32 := by omega
  have b2 : k % 32 < 32 := by omega
  go_enter Try.func48, Try.ntmps48
  go_wp2
  go_ret
  exact ⟨rfl, rfl⟩
theorem spec_bits_at (op a b : Int) (w : World) (ho : 1 ≤ op ∧ op ≤ 8) :
    Calls Try.prog 24 #[.int .i64 op, .int .i64 a, .int .i64 b] w fun e w' => e = .returned (.int .i64 (bitsN op a b)) ∧ ∃ m, w' = w.drewN m := by
  have hk : b % 4294967296 % 32 = b % 32 := by omega
  have b1 : 0 ≤ b % 32 := by omega
  have b2 : b % 32 < 32 := by omega
  have ho' : op = 1 ∨ op = 2 ∨ op = 3 ∨ op = 4 ∨ op = 5 ∨ op = 6 ∨ op = 7 ∨ op = 8 := by omega
  clear ho
  rcases ho' with rfl | rfl | rfl | rfl | rfl | rfl | rfl | rfl
  all_goals (go_enter Try.func24, Try.ntmps24; go_wp2_with (first | (go_at_call 44; refine (spec_plain _ _).mono ?_; rintro e w' ⟨rfl, rfl⟩) | (go_at_call 33; refine (spec_wrap _ _).mono ?_; rintro e w' ⟨rfl, rfl⟩)))
  · go_ret; exact ⟨congrArg (fun x => Ending.returned (.int .i64 x)) (s1 a b), 0, rfl⟩
  · go_ret; exact ⟨congrArg (fun x => Ending.returned (.int .i64 x)) (s2 a b), 0, rfl⟩
  · go_ret; exact ⟨congrArg (fun x => Ending.returned (.int .i64 x)) (s3 a b), 0, rfl⟩
  · go_ret; exact ⟨congrArg (fun x => Ending.returned (.int .i64 x)) (s4 a b), 0, rfl⟩
  · go_ret; exact ⟨congrArg (fun x => Ending.returned (.int .i64 x)) (s5 a b), 0, rfl⟩
  · go_ret; exact ⟨congrArg (fun x => Ending.returned (.int .i64 x)) (s6 a b), 0, rfl⟩
  · have c1 : IntKind.i64.wrap (32 - b % 32) = 32 - b % 32 := IntWalk.i64_in _ (by omega)
    have c2 : 0 ≤ 32 - b % 32 := by omega
    have c3 : 32 - b % 32 ≤ 64 := by omega
    go_quiet (first | (go_at_call 33; refine Calls.quiet_of_same ((spec_wrap _ _).mono fun _ _ h => ⟨h.1, h.2.symm⟩)))
    go_wp2
    go_ret; exact ⟨congrArg (fun x => Ending.returned (.int .i64 x)) (s7 a b), _, rfl⟩
  · have c1 : IntKind.i64.wrap (32 - b % 32) = 32 - b % 32 := IntWalk.i64_in _ (by omega)
    have c2 : 0 ≤ 32 - b % 32 := by omega
    have c3 : 32 - b % 32 ≤ 64 := by omega
    go_quiet (first | (go_at_call 33; refine Calls.quiet_of_same ((spec_wrap _ _).mono fun _ _ h => ⟨h.1, h.2.symm⟩)))
    go_wp2
    go_ret; exact ⟨congrArg (fun x => Ending.returned (.int .i64 x)) (s8 a b), _, rfl⟩
end Go.Proofs.Ytnpjcgmfmfhgdac.OpCalls
