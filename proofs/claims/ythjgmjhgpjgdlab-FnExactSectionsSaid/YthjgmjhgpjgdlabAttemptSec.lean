/-
  Where a reader's panic ends.
-/
import Derived.Test.YthjgmjhgpjgdlabReadNum
import Derived.Tactics
import Derived.Tactics2
import Derived.Defers
import Derived.Recover
import Derived.Laws.Pointers
namespace Go.Proofs.Ythjgmjhgpjgdlab.AttemptSec
open Go.RowKit Reader ReadNum

theorem rep9 : (Array.replicate 9 undef : Array Value) = #[undef, undef, undef, undef, undef, undef, undef, undef, undef] := rfl
theorem assert_yes (c : Int) (xT : TypeId) (w : World) : (Instr.typeAssert (.iface 48 (.int .i64 c)) xT 48 true).run Try.prog w = .ok (.tuple #[.int .i64 c, .bool true]) w := by
  simp [Instr.typeAssert, run_underlying Try.underlying48, go_sem, Result.andThen]
theorem assert_nil (xT : TypeId) (w : World) : (Instr.typeAssert .nilIface xT 48 true).run Try.prog w = .ok (.tuple #[.int .i64 0, .bool false]) w := by
  simp [Instr.typeAssert, run_underlying Try.underlying48, go_sem, Result.andThen]
set_option maxRecDepth 20000 in
theorem catch_panicking (p : Addr) (x c : Int) (older : List PanicEntry) (w : World) (hc : w.cell? p = some (.int .i64 x)) (hz : w.frozen? p = false) :
    CallsD Try.prog 18 #[.pointer (some p)] (.panicking ({ v := .iface 48 (.int .i64 c), recovered := false } :: older)) w fun e u' w' =>
      e = .returned (.tuple #[]) ∧ u' = .panicking ({ v := .iface 48 (.int .i64 c), recovered := true } :: older) ∧ w' = w.setCell p (.int .i64 c) := by
  refine callsD_of_wpS Try.func18 rfl fun c₀ cs hu => ?_
  apply wpS_seq
  apply wpS_region
  simp [wpOpsS, go_sem, recoverD, hu, Try.ntmps18, Exit.thenS, assert_yes]
  simp only [rep9, List.append_toArray, List.cons_append, List.nil_append, List.setIfInBounds_toArray, List.set_cons_zero, List.set_cons_succ]
  refine wpS_of_wp ?_
  go_wp2_with fail
  simp [bodyPostS, results, Try.results18]
set_option maxRecDepth 20000 in
theorem catch_idle (p : Addr) (w : World) :
    CallsD Try.prog 18 #[.pointer (some p)] .returning w fun e u' w' => e = .returned (.tuple #[]) ∧ u' = .returning ∧ w' = w := by
  refine callsD_of_wpS Try.func18 rfl fun c₀ cs hu => ?_
  apply wpS_seq
  apply wpS_region
  simp [wpOpsS, go_sem, recoverD, hu, Try.ntmps18, Exit.thenS, assert_nil]
  simp only [rep9, List.append_toArray, List.cons_append, List.nil_append, List.setIfInBounds_toArray, List.set_cons_zero, List.set_cons_succ]
  refine wpS_of_wp ?_
  go_wp2_with fail
  cases c₀
  simp_all [bodyPostS, results, Try.results18]
theorem code_cell {w w1 : World} {t : TypeId} (h : Below (w.heap.size + 1) (w.alloc (.cells #[.int .i64 0] t)) w1) : w1.cell? ⟨w.heap.size, 0, none⟩ = some (.int .i64 0) ∧ w1.frozen? ⟨w.heap.size, 0, none⟩ = false := by
  have hs : w.heap.size < w.heap.size + 1 := by omega
  exact ⟨by rw [h.cell hs]; simp, by rw [h.frozen hs]; exact (Boxed.new w t _).frozen⟩
set_option maxRecDepth 20000 in
theorem attempt_yes (q : Nat) (w : World) (P : Value → World → Prop)
    (hR : Calls Try.prog 14 #[.pointer (some ⟨q, 0, none⟩)] (w.alloc (.cells #[.int .i64 0] 3)) fun e w' => ∃ v, e = .returned v ∧ P v w' ∧ Below (w.heap.size + 1) (w.alloc (.cells #[.int .i64 0] 3)) w') :
    Calls Try.prog 13 #[.func (.func 14) #[] #[.pointer (some ⟨q, 0, none⟩)]] w fun e w' => ∃ v w1, e = .returned (.tuple #[v, .int .i64 0]) ∧ P v w1 ∧ Below (w.heap.size + 1) (w.alloc (.cells #[.int .i64 0] 3)) w1 ∧ w' = w1.setCell ⟨w.heap.size, 0, none⟩ (.int .i64 0) := by
  have hmf : ∀ (fn : Fn) (first cap : Array Value) (w : World), (Instr.makeFunc fn first cap).run Try.prog w = .ok (.func fn first cap) w := fun _ _ _ _ => rfl
  have hR' : Hid (Calls Try.prog 14 #[.pointer (some ⟨q, 0, none⟩)] (w.alloc (.cells #[.int .i64 0] 3)) fun e w' => ∃ v, e = .returned v ∧ P v w' ∧ Below (w.heap.size + 1) (w.alloc (.cells #[.int .i64 0] 3)) w') := hR
  clear hR
  go_enter_defers Try.func13, Try.ntmps13
  go_wp2_with (go_at_call 14; refine hR'.out.mono ?_; rintro e w1 ⟨v1, rfl, p1, b1⟩; obtain ⟨c1, f1⟩ := code_cell b1)
  refine leaves_cons (f := 18) (args := #[.pointer (some ⟨w.heap.size, 0, none⟩)]) (by simp) (by simp [go_sem]) ?_
  refine (catch_idle ⟨w.heap.size, 0, none⟩ _).mono ?_
  rintro e u' w'' ⟨rfl, rfl, rfl⟩
  simp [Leaves, settle, results, Try.results13, go_sem, c1]
  exact ⟨_, p1, b1, rfl⟩
set_option maxRecDepth 20000 in
theorem attempt_no (q : Nat) (w : World) (c : Int)
    (hR : Calls Try.prog 14 #[.pointer (some ⟨q, 0, none⟩)] (w.alloc (.cells #[.int .i64 0] 3)) fun e w' => e = gave c ∧ Below (w.heap.size + 1) (w.alloc (.cells #[.int .i64 0] 3)) w') :
    Calls Try.prog 13 #[.func (.func 14) #[] #[.pointer (some ⟨q, 0, none⟩)]] w fun e w' => e = .returned (.tuple #[.slice none 0 0, .int .i64 c]) ∧ Below w.heap.size w w' := by
  have hmf : ∀ (fn : Fn) (first cap : Array Value) (w : World), (Instr.makeFunc fn first cap).run Try.prog w = .ok (.func fn first cap) w := fun _ _ _ _ => rfl
  have hR' : Hid (Calls Try.prog 14 #[.pointer (some ⟨q, 0, none⟩)] (w.alloc (.cells #[.int .i64 0] 3)) fun e w' => e = gave c ∧ Below (w.heap.size + 1) (w.alloc (.cells #[.int .i64 0] 3)) w') := hR
  clear hR
  go_enter_defers Try.func13, Try.ntmps13
  go_wp2_with (go_at_call 14; refine hR'.out.mono ?_; rintro e w1 ⟨rfl, b1⟩; obtain ⟨c1, f1⟩ := code_cell b1)
  refine leaves_cons (f := 18) (args := #[.pointer (some ⟨w.heap.size, 0, none⟩)]) (by simp) (by simp [go_sem]) ?_
  refine (catch_panicking ⟨w.heap.size, 0, none⟩ 0 c [] _ c1 f1).mono ?_
  rintro e u' w'' ⟨rfl, rfl, rfl⟩
  simp [Leaves, settle, results, Try.results13, go_sem, c1]
  exact ((Below.refl _ _).alloc (Nat.le_refl _) _).trans ((b1.mono (B' := w.heap.size) (by omega)).setCell (p := ⟨w.heap.size, 0, none⟩) (Nat.le_refl _) _)
end Go.Proofs.Ythjgmjhgpjgdlab.AttemptSec
