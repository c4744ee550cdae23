/-
  What InsOk answers when it is called, the specification's and the program's.
-/
import Derived.Test.YtjbhelcdakhjbaaDoorNameCalls
import Derived.Test.YtjbhelcdakhjbaaDoorNumCalls
import Derived.Deep.RegionHeld
namespace Go.Proofs.YtjbhelcdakhjbaaDoor.InsCalls
open Go.RowKit PlainOps NameCalls PlainNum NumCalls

/-- What an operation has: 0 nothing, 1 a number of results, 2 an index, 3 a place in memory, 4 a number. -/
def kd (op : Int) : Int :=
  if op = 2 ∨ op = 3 ∨ op = 4 then 1 else if op = 12 ∨ op = 13 ∨ op = 16 ∨ op = 32 ∨ op = 33 ∨ op = 34 ∨ op = 35 ∨ op = 36 then 2 else if op = 40 ∨ op = 54 then 3 else if op = 65 then 4 else 0
/-- A and B may be these. -/
def fits (k a b : Int) : Bool :=
  if k = 1 then decide (0 ≤ a ∧ a ≤ 1 ∧ b = 0) else if k = 2 then decide (0 ≤ a ∧ a ≤ 1000 ∧ b = 0) else if k = 3 then decide (0 ≤ a ∧ a ≤ 2147483647 ∧ 0 ≤ b ∧ b ≤ 2) else if k = 4 then decide (-2147483648 ≤ a ∧ a ≤ 2147483647 ∧ b = 0) else decide (a = 0 ∧ b = 0)
/-- An instruction is right. -/
def insOk (op a b : Int) : Bool := !decide (opNm op = ⟨#[]⟩) && fits (kd op) a b
theorem kd_is (op : Int) : kd op = 0 ∨ kd op = 1 ∨ kd op = 2 ∨ kd op = 3 ∨ kd op = 4 := by
  unfold kd
  (repeat' split) <;> simp
theorem wrap_same (a : Int) : (wrap32 a == a) = decide (-2147483648 ≤ a ∧ a ≤ 2147483647) := by
  have := wrap32_lo a
  by_cases h : -2147483648 ≤ a ∧ a ≤ 2147483647
  · rw [wrap32_in h.1 h.2]; simp [h]
  · rw [decide_eq_false h, beq_eq_false_iff_ne]; intro e; omega
theorem op_class (op : Int) : (op = 2 ∨ op = 3 ∨ op = 4) ∨ (op = 12 ∨ op = 13 ∨ op = 16 ∨ op = 32 ∨ op = 33 ∨ op = 34 ∨ op = 35 ∨ op = 36) ∨ (op = 40 ∨ op = 54) ∨ op = 65 ∨
    (op ≠ 2 ∧ op ≠ 3 ∧ op ≠ 4 ∧ op ≠ 12 ∧ op ≠ 13 ∧ op ≠ 16 ∧ op ≠ 32 ∧ op ≠ 33 ∧ op ≠ 34 ∧ op ≠ 35 ∧ op ≠ 36 ∧ op ≠ 40 ∧ op ≠ 54 ∧ op ≠ 65) := by omega
theorem kd0 {op : Int} (h : op ≠ 2 ∧ op ≠ 3 ∧ op ≠ 4 ∧ op ≠ 12 ∧ op ≠ 13 ∧ op ≠ 16 ∧ op ≠ 32 ∧ op ≠ 33 ∧ op ≠ 34 ∧ op ≠ 35 ∧ op ≠ 36 ∧ op ≠ 40 ∧ op ≠ 54 ∧ op ≠ 65) : kd op = 0 := by
  unfold kd
  rw [if_neg (by omega), if_neg (by omega), if_neg (by omega), if_neg (by omega)]
theorem spec_kind (op : Int) (w : World) :
    Calls Tryd.prog 20 #[.int .i64 op] w fun e w' => e = .returned (.int .i64 (kd op)) ∧ w = w' := by
  rcases op_class op with (rfl | rfl | rfl) | (rfl | rfl | rfl | rfl | rfl | rfl | rfl | rfl) | (rfl | rfl) | rfl | h
  case inr.inr.inr.inr =>
    have hk : Hid (kd op = 0) := kd0 h
    obtain ⟨n1, n2, n3, n4, n5, n6, n7, n8, n9, n10, n11, n12, n13, n14⟩ := h
    go_enter Tryd.func20, Tryd.ntmps20
    go_wp2_with fail
    go_ret
    exact ⟨by rw [hk.out]; rfl, rfl⟩
  all_goals
    go_enter Tryd.func20, Tryd.ntmps20
    go_wp2_with fail
    go_ret
    exact ⟨rfl, rfl⟩
theorem box_cells {w : World} {op a b : Int} {t : TypeId} {w' : World} (h : Below (w.alloc (.cells #[.int .i64 op, .int .i64 a, .int .i64 b] t)).heap.size (w.alloc (.cells #[.int .i64 op, .int .i64 a, .int .i64 b] t)) w') :
    w'.cell? ⟨w.heap.size, 0, none⟩ = some (.int .i64 op) ∧ w'.cell? ⟨w.heap.size, 1, none⟩ = some (.int .i64 a) ∧ w'.cell? ⟨w.heap.size, 2, none⟩ = some (.int .i64 b) := by
  have hs : w.heap.size < (w.alloc (.cells #[.int .i64 op, .int .i64 a, .int .i64 b] t)).heap.size := by simp
  refine ⟨?_, ?_, ?_⟩ <;> rw [h.cell hs] <;> simp
theorem box_below {w w' : World} {o : Obj} (h : Below (w.alloc o).heap.size (w.alloc o) w') : Below w.heap.size w w' :=
  ((Below.refl _ _).alloc (Nat.le_refl _) _).trans (h.mono (by simp))
theorem insOk_no {op a b : Int} (h : opNm op = ⟨#[]⟩) : insOk op a b = false := by unfold insOk; rw [decide_eq_true h]; rfl
theorem insOk_kd {op a b : Int} (h : ¬ opNm op = ⟨#[]⟩) : insOk op a b = fits (kd op) a b := by unfold insOk; rw [decide_eq_false h]; rfl
set_option maxHeartbeats 4000000 in
theorem spec_insOk (op a b : Int) (w : World) :
    Calls Tryd.prog 19 #[.agg #[.int .i64 op, .int .i64 a, .int .i64 b]] w fun e w' => e = .returned (.bool (insOk op a b)) ∧ Below w.heap.size w w' := by
  obtain ⟨R, hR⟩ : ∃ R, insOk op a b = R := ⟨_, rfl⟩
  rw [hR]
  have hR' : Hid (insOk op a b = R) := hR
  clear hR
  have hc : Hid _ := fun u => spec_opName op u
  by_cases h0 : opNm op = ⟨#[]⟩
  · rw [h0] at hc
    have hf : Hid (insOk op a b = false) := insOk_no h0
    clear h0
    go_enter Tryd.func19, Tryd.ntmps19
    go_wp2_with (go_at_call 16; refine (hc.out _).mono ?_; rintro e w1 ⟨rfl, b1⟩)
    go_ret
    exact ⟨by rw [← hR'.out, hf.out]; rfl, box_below b1⟩
  · have hf : Hid (fits (kd op) a b = R) := (insOk_kd h0).symm.trans hR'.out
    have hk : Hid _ := fun u => spec_kind op u
    have hkd := kd_is op
    obtain ⟨n1, n2⟩ := str_nil h0
    clear h0 hR'
    generalize opNm op = T at *
    generalize kd op = k at *
    have hw := wrap_same a
    rcases hkd with rfl | rfl | rfl | rfl | rfl
    · go_enter Tryd.func19, Tryd.ntmps19
      go_wp2_with (first | (go_at_call 16; refine (hc.out _).mono ?_; rintro e w1 ⟨rfl, b1⟩; obtain ⟨c0, c1, c2⟩ := box_cells b1) | (go_at_call 20; refine (hk.out _).mono ?_; rintro e w2 ⟨rfl, rfl⟩))
      all_goals (go_ret; refine ⟨?_, box_below b1⟩; rw [← hf.out]; refine congrArg (fun x => Ending.returned (.bool x)) (?_ : (_ : Bool) = _); unfold fits; rw [Bool.eq_iff_iff]; first | (simp; omega) | simp)
    · go_enter Tryd.func19, Tryd.ntmps19
      go_wp2_with (first | (go_at_call 16; refine (hc.out _).mono ?_; rintro e w1 ⟨rfl, b1⟩; obtain ⟨c0, c1, c2⟩ := box_cells b1) | (go_at_call 20; refine (hk.out _).mono ?_; rintro e w2 ⟨rfl, rfl⟩))
      all_goals (go_ret; refine ⟨?_, box_below b1⟩; rw [← hf.out]; refine congrArg (fun x => Ending.returned (.bool x)) (?_ : (_ : Bool) = _); unfold fits; rw [Bool.eq_iff_iff]; first | (simp; omega) | simp)
    · go_enter Tryd.func19, Tryd.ntmps19
      go_wp2_with (first | (go_at_call 16; refine (hc.out _).mono ?_; rintro e w1 ⟨rfl, b1⟩; obtain ⟨c0, c1, c2⟩ := box_cells b1) | (go_at_call 20; refine (hk.out _).mono ?_; rintro e w2 ⟨rfl, rfl⟩))
      all_goals (go_ret; refine ⟨?_, box_below b1⟩; rw [← hf.out]; refine congrArg (fun x => Ending.returned (.bool x)) (?_ : (_ : Bool) = _); unfold fits; rw [Bool.eq_iff_iff]; first | (simp; omega) | simp)
    · go_enter Tryd.func19, Tryd.ntmps19
      go_wp2_with (first | (go_at_call 16; refine (hc.out _).mono ?_; rintro e w1 ⟨rfl, b1⟩; obtain ⟨c0, c1, c2⟩ := box_cells b1) | (go_at_call 20; refine (hk.out _).mono ?_; rintro e w2 ⟨rfl, rfl⟩))
      all_goals (go_ret; refine ⟨?_, box_below b1⟩; rw [← hf.out]; refine congrArg (fun x => Ending.returned (.bool x)) (?_ : (_ : Bool) = _); unfold fits; rw [Bool.eq_iff_iff]; first | (simp; omega) | simp)
    · clear hw
      by_cases hin : -2147483648 ≤ a ∧ a ≤ 2147483647
      · have hq : wrap32 a = a := wrap32_in hin.1 hin.2
        go_enter Tryd.func19, Tryd.ntmps19
        go_wp2_with (first | (go_at_call 16; refine (hc.out _).mono ?_; rintro e w1 ⟨rfl, b1⟩; obtain ⟨c0, c1, c2⟩ := box_cells b1) | (go_at_call 20; refine (hk.out _).mono ?_; rintro e w2 ⟨rfl, rfl⟩))
        go_quiet (first | (go_at_call 17; refine Calls.quiet_of_same ((spec_wrap _ _).mono fun _ _ ⟨h1, h2⟩ => ⟨h1, h2.symm⟩)))
        go_wp2_with fail
        all_goals (go_ret; refine ⟨?_, below_drewN (box_below b1) _⟩; rw [← hf.out]; refine congrArg (fun x => Ending.returned (.bool x)) (?_ : (_ : Bool) = _); unfold fits; rw [Bool.eq_iff_iff]; first | (simp; omega) | simp)
      · have hq : (wrap32 a == a) = false := by rw [wrap_same]; exact decide_eq_false hin
        have hf2 : Hid (fits 4 a b = false) := by
          show fits 4 a b = false
          unfold fits
          simp
          omega
        clear hin
        go_enter Tryd.func19, Tryd.ntmps19
        go_wp2_with (first | (go_at_call 16; refine (hc.out _).mono ?_; rintro e w1 ⟨rfl, b1⟩; obtain ⟨c0, c1, c2⟩ := box_cells b1) | (go_at_call 20; refine (hk.out _).mono ?_; rintro e w2 ⟨rfl, rfl⟩))
        go_quiet (first | (go_at_call 17; refine Calls.quiet_of_same ((spec_wrap _ _).mono fun _ _ ⟨h1, h2⟩ => ⟨h1, h2.symm⟩)))
        go_wp2_with fail
        all_goals (go_ret; exact ⟨by rw [← hf.out, hf2.out]; rfl, below_drewN (box_below b1) _⟩)
/-- What an operation of kind k has: how many of A and B are its own, and what they may be. -/
def fC (k : Int) : Int := if k = 0 then 0 else if k = 3 then 2 else 1
def fLo (k : Int) : Int := if k = 4 then -2147483648 else 0
def fHi (k : Int) : Int := if k = 0 then 0 else if k = 1 then 1 else if k = 2 then 1000 else 2147483647
def fB (k : Int) : Int := if k = 3 then 2 else 0
theorem fits_is (k a b : Int) (hk : k = 0 ∨ k = 1 ∨ k = 2 ∨ k = 3 ∨ k = 4) : fits k a b = decide (fLo k ≤ a ∧ a ≤ fHi k ∧ 0 ≤ b ∧ b ≤ fB k) := by
  rcases hk with rfl | rfl | rfl | rfl | rfl <;> (unfold fits fLo fHi fB; rw [Bool.eq_iff_iff]; simp; try omega)
theorem impl_rangeOfA (op : Int) (w : World) (h : kd op ≠ 0) :
    Calls Tryd.prog 37 #[.int .i64 op] w fun e w' => e = .returned (.tuple #[.int .i64 (fLo (kd op)), .int .i64 (fHi (kd op))]) ∧ w = w' := by
  rcases op_class op with (rfl | rfl | rfl) | (rfl | rfl | rfl | rfl | rfl | rfl | rfl | rfl) | (rfl | rfl) | rfl | h'
  case inr.inr.inr.inr => exact absurd (kd0 h') h
  all_goals
    clear h
    go_enter Tryd.func37, Tryd.ntmps37
    go_wp2_with fail
    go_ret2
    exact ⟨rfl, rfl⟩
set_option maxHeartbeats 2000000 in
theorem impl_fieldsOf (op : Int) (w : World) :
    Calls Tryd.prog 24 #[.int .i64 op] w fun e w' => e = .returned (.agg #[.int .i64 (fC (kd op)), .int .i64 (fLo (kd op)), .int .i64 (fHi (kd op)), .int .i64 (fB (kd op))]) ∧ Below w.heap.size w w' := by
  rcases op_class op with (rfl | rfl | rfl) | (rfl | rfl | rfl | rfl | rfl | rfl | rfl | rfl) | (rfl | rfl) | rfl | h
  case inr.inr.inr.inr =>
    rw [kd0 h]
    obtain ⟨n1, n2, n3, n4, n5, n6, n7, n8, n9, n10, n11, n12, n13, n14⟩ := h
    go_enter Tryd.func24, Tryd.ntmps24
    go_wp2_with fail
    refine bodyPost_ret ?_ rfl ⟨rfl, ((Below.refl _ _).alloc (Nat.le_refl _) _).alloc (by simp) _⟩
    simp [results, go_sem]
    try decide
  all_goals
    go_enter Tryd.func24, Tryd.ntmps24
    go_wp2_with (go_at_call 37; refine (impl_rangeOfA _ _ (by decide)).mono ?_; rintro e w1 ⟨rfl, rfl⟩)
    refine bodyPost_ret ?_ rfl ⟨rfl, ((Below.refl _ _).alloc (Nat.le_refl _) _).alloc (by simp) _⟩
    simp [results, go_sem]
    try decide
set_option maxHeartbeats 2000000 in
theorem impl_fit (k lo hi mb op a b : Int) (w : World) :
    Calls Tryd.prog 41 #[.agg #[.int .i64 k, .int .i64 lo, .int .i64 hi, .int .i64 mb], .agg #[.int .i64 op, .int .i64 a, .int .i64 b]] w fun e w' => e = .returned (.bool (decide (lo ≤ a ∧ a ≤ hi ∧ 0 ≤ b ∧ b ≤ mb))) ∧ Below w.heap.size w w' := by
  go_enter Tryd.func41, Tryd.ntmps41
  go_wp2_with fail
  all_goals (go_ret; refine ⟨?_, ((Below.refl _ _).alloc (Nat.le_refl _) _).alloc (by simp) _⟩; refine congrArg (fun x => Ending.returned (.bool x)) (?_ : (_ : Bool) = _); rw [Bool.eq_iff_iff]; first | (simp; omega) | simp)
end Go.Proofs.YtjbhelcdakhjbaaDoor.InsCalls
