/-
  What the program's small questions on a module's parts answer when they are called.
-/
import Derived.Test.YtffngjgjhialnaaGreatDoorUtfLaw
import Derived.Test.YtffngjgjhialnaaGreatDoorEveryIns
import Derived.Test.YtffngjgjhialnaaGreatDoorShapeImpl
import Derived.Test.YtffngjgjhialnaaGreatDoorModMem
namespace Go.Proofs.YtffngjgjhialnaaGreatDoor.FormCalls
open Go.RowKit PlainOps NameCalls PlainNum NumCalls InsCalls InsImpl PlainShape InsMem PlainAll EveryIns

abbrev Utf (w : World) : Prop := Lib.Utf8Tabs 1 2 w
/-- Within two bounds. -/
def wi (n lo hi : Int) : Bool := decide (lo ≤ n ∧ n ≤ hi)
theorem wi_yes {n lo hi : Int} (h : lo ≤ n ∧ n ≤ hi) : wi n lo hi = true := decide_eq_true h
theorem wi_no {n lo hi : Int} (h : ¬ (lo ≤ n ∧ n ≤ hi)) : wi n lo hi = false := decide_eq_false h
/-- A name that is right: at most 40 bytes of right UTF-8. -/
def nmOk (s : ByteArray) : Bool := decide (s.size ≤ 40) && UtfLaw.okF s s.size 0
def sgOk (p r : Int) : Bool := wi p 0 60 && wi r 0 1
def imOk (ns : Nat) (m n : ByteArray) (s : Int) : Bool := wi s 0 ((ns : Int) - 1) && (nmOk m && nmOk n)
def boOk (l : List I3) : Bool := decide (l.length ≤ 1500) && (allF l l.length 0 && ShapeCalls.shapeOk l)
def fnOk (ns : Nat) (s x : Int) (l : List I3) : Bool := wi s 0 ((ns : Int) - 1) && (wi x 0 60 && boOk l)
def glOk (i : Int) : Bool := wi i (-2147483648) 2147483647
def exOk (s : ByteArray) (k i : Int) : Bool := decide (k = 0 ∨ k = 2 ∨ k = 3) && (nmOk s && wi i 0 1000)
def daOk (p : Int) (n : Nat) : Bool := wi p (-2147483648) 2147483647 && decide (n ≤ 2000)
def meOk (p m : Int) : Bool := if m = -1 then wi p (-1) 2 else wi p 0 2 && wi m p 65536
def coOk (a b c d e f : Nat) : Bool := decide (a ≤ 30 ∧ b + c ≤ 60 ∧ d ≤ 30 ∧ e ≤ 60 ∧ f ≤ 20)
/-- Whether each index from k on, f of them, is right. -/
def allP (p : Nat → Bool) : Nat → Nat → Bool
  | 0, _ => true
  | f + 1, k => if p k = true then allP p f (k + 1) else false
theorem allP_yes {p : Nat → Bool} {f k : Nat} (h : p k = true) : allP p (f + 1) k = allP p f (k + 1) := if_pos h
theorem allP_no {p : Nat → Bool} {f k : Nat} (h : p k = false) : allP p (f + 1) k = false := if_neg (by rw [h]; decide)
theorem allP_congr {p q : Nat → Bool} : ∀ (f k : Nat), (∀ j, k ≤ j → j < k + f → p j = q j) → allP p f k = allP q f k
  | 0, _, _ => rfl
  | f + 1, k, h => by
    rw [allP, allP, h k (Nat.le_refl _) (by omega), allP_congr f (k + 1) (fun j h1 h2 => h j (by omega) (by omega))]
theorem impl_within (n lo hi : Int) (w : World) :
    Calls Tryz.prog 125 #[.int .i64 n, .int .i64 lo, .int .i64 hi] w fun e w' => e = .returned (.bool (wi n lo hi)) ∧ w = w' := by
  by_cases h1 : lo ≤ n
  · by_cases h2 : n ≤ hi
    · rw [wi_yes ⟨h1, h2⟩]
      go_enter Tryz.func125, Tryz.ntmps125
      go_wp2_with fail
      go_ret
      exact ⟨rfl, rfl⟩
    · rw [wi_no (fun h => h2 h.2)]
      go_enter Tryz.func125, Tryz.ntmps125
      go_wp2_with fail
      go_ret
      exact ⟨rfl, rfl⟩
  · rw [wi_no (fun h => h1 h.1)]
    go_enter Tryz.func125, Tryz.ntmps125
    go_wp2_with fail
    go_ret
    exact ⟨rfl, rfl⟩
theorem impl_isNumber (n : Int) (w : World) :
    Calls Tryz.prog 129 #[.int .i64 n] w fun e w' => e = .returned (.bool (wi n (-2147483648) 2147483647)) ∧ w = w' := by
  go_enter Tryz.func129, Tryz.ntmps129
  go_wp2_with (go_at_call 125; refine (impl_within _ _ _ _).mono ?_; rintro e w1 ⟨rfl, rfl⟩)
  go_ret
  exact ⟨rfl, rfl⟩
theorem impl_nameOk (s : ByteArray) (w : World) (hs : s.size ≤ 1048576) (hT : Utf w) :
    Calls Tryz.prog 127 #[.string s] w fun e w' => e = .returned (.bool (nmOk s)) ∧ Below w.heap.size w w' := by
  have hU : Hid (Calls Tryz.prog 140 #[.string s] w fun e w' => e = .returned (.bool (UtfLaw.okF s s.size 0)) ∧ Below w.heap.size w w') := UtfLaw.impl_utfOk s w hs hT
  clear hT
  by_cases h : s.size ≤ 40
  · have h1 : (s.size : Int) ≤ 40 := by omega
    have e1 : Hid (nmOk s = UtfLaw.okF s s.size 0) := by show _ = _; unfold nmOk; rw [decide_eq_true h]; rfl
    rw [e1.out]
    clear e1 h
    generalize UtfLaw.okF s s.size 0 = R at *
    go_enter Tryz.func127, Tryz.ntmps127
    go_wp2_with (go_at_call 140; refine hU.out.mono ?_; rintro e w1 ⟨rfl, b1⟩)
    go_ret
    exact ⟨rfl, b1⟩
  · have h1 : ¬ (s.size : Int) ≤ 40 := by omega
    have e1 : Hid (nmOk s = false) := by show _ = _; unfold nmOk; rw [decide_eq_false h]; rfl
    rw [e1.out]
    clear e1 h hU
    go_enter Tryz.func127, Tryz.ntmps127
    go_wp2_with fail
    go_ret
    exact ⟨rfl, Below.refl _ _⟩
theorem impl_globalOk (m : Bool) (i : Int) (w : World) :
    Calls Tryz.prog 95 #[.agg #[.bool m, .int .i64 i]] w fun e w' => e = .returned (.bool (glOk i)) ∧ Below w.heap.size w w' := by
  go_enter Tryz.func95, Tryz.ntmps95
  go_wp2_with (go_at_call 129; refine (impl_isNumber _ _).mono ?_; rintro e w1 ⟨rfl, rfl⟩)
  go_ret
  exact ⟨rfl, (Below.refl _ _).alloc (Nat.le_refl _) _⟩
theorem impl_sigOk (p r : Int) (w : World) :
    Calls Tryz.prog 89 #[.agg #[.int .i64 p, .int .i64 r]] w fun e w' => e = .returned (.bool (sgOk p r)) ∧ Below w.heap.size w w' := by
  have h1 : Hid (∀ u, Calls Tryz.prog 125 #[.int .i64 p, .int .i64 0, .int .i64 60] u fun e w' => e = .returned (.bool (wi p 0 60)) ∧ u = w') := fun u => impl_within _ _ _ u
  have h2 : Hid (∀ u, Calls Tryz.prog 125 #[.int .i64 r, .int .i64 0, .int .i64 1] u fun e w' => e = .returned (.bool (wi r 0 1)) ∧ u = w') := fun u => impl_within _ _ _ u
  unfold sgOk
  generalize wi p 0 60 = A at *
  generalize wi r 0 1 = B at *
  cases A with
  | false =>
    clear h2
    go_enter Tryz.func89, Tryz.ntmps89
    go_wp2_with (go_at_call 125; refine (h1.out _).mono ?_; rintro e w1 ⟨rfl, rfl⟩)
    go_ret
    exact ⟨rfl, (Below.refl _ _).alloc (Nat.le_refl _) _⟩
  | true =>
    go_enter Tryz.func89, Tryz.ntmps89
    go_wp2_with (go_at_call 125; refine (h1.out _).mono ?_; rintro e w1 ⟨rfl, rfl⟩; clear h1)
    go_wp2_with (go_at_call 125; refine (h2.out _).mono ?_; rintro e w2 ⟨rfl, rfl⟩)
    go_ret
    exact ⟨by cases B <;> rfl, (Below.refl _ _).alloc (Nat.le_refl _) _⟩
theorem impl_dataOk (p : Int) (a : Option Addr) (n c : Nat) (w : World) (hn : n ≤ 1048576) :
    Calls Tryz.prog 99 #[.agg #[.int .i64 p, .slice a n c]] w fun e w' => e = .returned (.bool (daOk p n)) ∧ Below w.heap.size w w' := by
  have h1 : Hid (∀ u, Calls Tryz.prog 129 #[.int .i64 p] u fun e w' => e = .returned (.bool (wi p (-2147483648) 2147483647)) ∧ u = w') := fun u => impl_isNumber _ u
  unfold daOk
  generalize wi p (-2147483648) 2147483647 = A at *
  cases A with
  | false =>
    go_enter Tryz.func99, Tryz.ntmps99
    go_wp2_with (go_at_call 129; refine (h1.out _).mono ?_; rintro e w1 ⟨rfl, rfl⟩)
    go_ret
    exact ⟨rfl, (Below.refl _ _).alloc (Nat.le_refl _) _⟩
  | true =>
    by_cases hb : n ≤ 2000
    · have hb' : (n : Int) ≤ 2000 := by omega
      rw [decide_eq_true hb]
      clear hb
      go_enter Tryz.func99, Tryz.ntmps99
      go_wp2_with (go_at_call 129; refine (h1.out _).mono ?_; rintro e w1 ⟨rfl, rfl⟩)
      go_ret
      exact ⟨rfl, (Below.refl _ _).alloc (Nat.le_refl _) _⟩
    · have hb' : ¬ (n : Int) ≤ 2000 := by omega
      have hd : decide ((n : Int) ≤ 2000) = false := decide_eq_false hb'
      rw [decide_eq_false hb]
      clear hb
      go_enter Tryz.func99, Tryz.ntmps99
      go_wp2_with (go_at_call 129; refine (h1.out _).mono ?_; rintro e w1 ⟨rfl, rfl⟩)
      go_ret
      exact ⟨rfl, (Below.refl _ _).alloc (Nat.le_refl _) _⟩
theorem impl_memoryOk (p m : Int) (w : World) :
    Calls Tryz.prog 87 #[.int .i64 p, .int .i64 m] w fun e w' => e = .returned (.bool (meOk p m)) ∧ w = w' := by
  by_cases hm : m = -1
  · subst hm
    have e1 : Hid (meOk p (-1) = wi p (-1) 2) := rfl
    rw [e1.out]
    go_enter Tryz.func87, Tryz.ntmps87
    go_wp2_with (go_at_call 125; refine (impl_within _ _ _ _).mono ?_; rintro e w1 ⟨rfl, rfl⟩)
    go_ret
    exact ⟨rfl, rfl⟩
  · have e1 : Hid (meOk p m = (wi p 0 2 && wi m p 65536)) := if_neg hm
    rw [e1.out]
    clear e1
    have h1 : Hid (∀ u, Calls Tryz.prog 125 #[.int .i64 p, .int .i64 0, .int .i64 2] u fun e w' => e = .returned (.bool (wi p 0 2)) ∧ u = w') := fun u => impl_within _ _ _ u
    have h2 : Hid (∀ u, Calls Tryz.prog 125 #[.int .i64 m, .int .i64 p, .int .i64 65536] u fun e w' => e = .returned (.bool (wi m p 65536)) ∧ u = w') := fun u => impl_within _ _ _ u
    generalize wi p 0 2 = A at *
    generalize wi m p 65536 = B at *
    cases A with
    | false =>
      clear h2
      go_enter Tryz.func87, Tryz.ntmps87
      go_wp2_with (go_at_call 125; refine (h1.out _).mono ?_; rintro e w1 ⟨rfl, rfl⟩)
      go_ret
      exact ⟨rfl, rfl⟩
    | true =>
      go_enter Tryz.func87, Tryz.ntmps87
      go_wp2_with (go_at_call 125; refine (h1.out _).mono ?_; rintro e w1 ⟨rfl, rfl⟩; clear h1)
      go_wp2_with (go_at_call 125; refine (h2.out _).mono ?_; rintro e w2 ⟨rfl, rfl⟩)
      go_ret
      exact ⟨by cases B <;> rfl, rfl⟩
end Go.Proofs.YtffngjgjhialnaaGreatDoor.FormCalls
