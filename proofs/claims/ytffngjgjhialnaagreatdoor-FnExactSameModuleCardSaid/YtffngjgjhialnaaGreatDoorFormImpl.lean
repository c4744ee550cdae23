/-
  What the program's FormOk answers when it is called. (Written by my formgen2.py.)
-/
import Derived.Test.YtffngjgjhialnaaGreatDoorFormEvery
namespace Go.Proofs.YtffngjgjhialnaaGreatDoor.FormImpl
open Go.RowKit PlainOps NameCalls PlainNum NumCalls InsCalls InsImpl PlainShape InsMem PlainAll EveryIns FormCalls ModMem
theorem impl_hasSig (a0 : Option Addr) (n c0 : Nat) (v1 v2 v3 v4 v5 v6 v7 : Value) (s : Int) (w : World) (hn : n ≤ 1048576) :
    Calls Tryz.prog 126 #[.agg #[.slice a0 n c0, v1, v2, v3, v4, v5, v6, v7], .int .i64 s] w fun e w' => e = .returned (.bool (wi s 0 ((n : Int) - 1))) ∧ Below w.heap.size w w' := by
  go_enter Tryz.func126, Tryz.ntmps126
  go_wp2_with (go_at_call 125; refine (impl_within _ _ _ _).mono ?_; rintro e w1 ⟨rfl, rfl⟩)
  go_ret
  exact ⟨rfl, (Below.refl _ _).alloc (Nat.le_refl _) _⟩
theorem impl_bodyOk (w : World) (a : Option Addr) (cap : Nat) (l : List I3) (h : RdI w a l) (hn : l.length ≤ 1048576) (ht : Tab w) :
    Calls Tryz.prog 128 #[.slice a l.length cap] w fun e w' => e = .returned (.bool (boOk l)) ∧ Below w.heap.size w w' := by
  have hE : Hid (Calls Tryz.prog 141 #[.slice a l.length cap, .func (.func 142) #[] #[]] w fun e w' => e = .returned (.bool (allF l l.length 0)) ∧ Below w.heap.size w w') := every_ins w a cap l h hn ht
  have hS : Hid (∀ u, Below w.heap.size w u → Calls Tryz.prog 143 #[.slice a l.length cap] u fun e w' => e = .returned (.bool (ShapeCalls.shapeOk l)) ∧ Below u.heap.size u w') := fun u hu => ShapeImpl.impl_shapeOk u a cap l (h.later hu) hn
  clear h ht
  unfold boOk
  generalize allF l l.length 0 = A at *
  generalize ShapeCalls.shapeOk l = B at *
  by_cases hb : l.length ≤ 1500
  · have hb' : (l.length : Int) ≤ 1500 := by omega
    rw [decide_eq_true hb]
    clear hb
    generalize l.length = n at *
    cases A with
    | false =>
      clear hS
      go_enter Tryz.func128, Tryz.ntmps128
      go_wp2_with (go_at_call 141; refine hE.out.mono ?_; rintro e w1 ⟨rfl, b1⟩)
      go_ret
      exact ⟨rfl, b1⟩
    | true =>
      go_enter Tryz.func128, Tryz.ntmps128
      go_wp2_with (first | (go_at_call 141; refine hE.out.mono ?_; rintro e w1 ⟨rfl, b1⟩) | (go_at_call 143; refine (hS.out _ b1).mono ?_; rintro e w2 ⟨rfl, b2⟩))
      go_ret
      exact ⟨by cases B <;> rfl, b1.trans (b2.mono b1.size)⟩
  · have hb' : ¬ (l.length : Int) ≤ 1500 := by omega
    have hd : decide ((l.length : Int) ≤ 1500) = false := decide_eq_false hb'
    rw [decide_eq_false hb]
    clear hb hE hS
    generalize l.length = n at *
    go_enter Tryz.func128, Tryz.ntmps128
    go_wp2_with fail
    go_ret
    exact ⟨rfl, Below.refl _ _⟩
set_option maxHeartbeats 4000000 in
theorem impl_importOk (a0 : Option Addr) (n c0 : Nat) (v1 v2 v3 v4 v5 v6 v7 : Value) (s t : ByteArray) (x : Int) (w : World) (hn : n ≤ 1048576) (hs : s.size ≤ 1048576) (ht : t.size ≤ 1048576) (hU : Utf w) :
    Calls Tryz.prog 91 #[.agg #[.slice a0 n c0, v1, v2, v3, v4, v5, v6, v7], .agg #[.string s, .string t, .int .i64 x]] w fun e w' => e = .returned (.bool (imOk n s t x)) ∧ Below w.heap.size w w' := by
  have ba : Below w.heap.size w ((w.alloc (.cells #[.slice a0 n c0, v1, v2, v3, v4, v5, v6, v7] 41)).alloc (.cells #[.string s, .string t, .int .i64 x] 82)) := ((Below.refl _ _).alloc (Nat.le_refl _) _).alloc (by simp) _
  have rb : Hid (((w.alloc (.cells #[.slice a0 n c0, v1, v2, v3, v4, v5, v6, v7] 41)).alloc (.cells #[.string s, .string t, .int .i64 x] 82)).rowIs (w.heap.size + 1) 82 3 (MemFunc.R3 (.string s) (.string t) (.int .i64 x))) := by
    have := MemFunc.r3_made (w.alloc (.cells #[.slice a0 n c0, v1, v2, v3, v4, v5, v6, v7] 41)) (.string s) (.string t) (.int .i64 x) 82
    simp only [World.size_alloc] at this
    exact this
  have k0 : Hid (∀ u, Below w.heap.size w u → Calls Tryz.prog 126 #[.agg #[.slice a0 n c0, v1, v2, v3, v4, v5, v6, v7], .int .i64 x] u fun e w' => e = .returned (.bool (wi x 0 ((n : Int) - 1))) ∧ Below u.heap.size u w') := fun u hu => impl_hasSig a0 n c0 v1 v2 v3 v4 v5 v6 v7 x u hn
  have k1 : Hid (∀ u, Below w.heap.size w u → Calls Tryz.prog 127 #[.string s] u fun e w' => e = .returned (.bool (nmOk s)) ∧ Below u.heap.size u w') := fun u hu => impl_nameOk s u hs (UtfLaw.tabs_later hU hu)
  have k2 : Hid (∀ u, Below w.heap.size w u → Calls Tryz.prog 127 #[.string t] u fun e w' => e = .returned (.bool (nmOk t)) ∧ Below u.heap.size u w') := fun u hu => impl_nameOk t u ht (UtfLaw.tabs_later hU hu)
  clear hU
  unfold imOk
  generalize wi x 0 ((n : Int) - 1) = B0 at *
  generalize nmOk s = B1 at *
  generalize nmOk t = B2 at *
  cases B0 with
  | false =>
    clear k1 k2
    go_enter Tryz.func91, Tryz.ntmps91
    go_wp2_with (go_at_call 126; refine (k0.out _ ba).mono ?_; rintro e w1 ⟨rfl, q0⟩; clear k0; have b1 := ba.trans (q0.mono (ba).size); have r1 : Hid (w1.rowIs (w.heap.size + 1) 82 3 (MemFunc.R3 (.string s) (.string t) (.int .i64 x))) := row_later rb.out q0; obtain ⟨_, _, _, _, _, _⟩ := MemFunc.r3 r1.out)
    go_ret
    exact ⟨rfl, b1⟩
  | true =>
    cases B1 with
    | false =>
      clear k2
      go_enter Tryz.func91, Tryz.ntmps91
      go_wp2_with (go_at_call 126; refine (k0.out _ ba).mono ?_; rintro e w1 ⟨rfl, q0⟩; clear k0; have b1 := ba.trans (q0.mono (ba).size); have r1 : Hid (w1.rowIs (w.heap.size + 1) 82 3 (MemFunc.R3 (.string s) (.string t) (.int .i64 x))) := row_later rb.out q0; obtain ⟨_, _, _, _, _, _⟩ := MemFunc.r3 r1.out)
      go_wp2_with (go_at_call 127; refine (k1.out _ b1).mono ?_; rintro e w2 ⟨rfl, q1⟩; clear k1; have b2 := b1.trans (q1.mono (b1).size); have r2 : Hid (w2.rowIs (w.heap.size + 1) 82 3 (MemFunc.R3 (.string s) (.string t) (.int .i64 x))) := row_later r1.out q1; obtain ⟨_, _, _, _, _, _⟩ := MemFunc.r3 r2.out)
      go_ret
      exact ⟨rfl, b2⟩
    | true =>
      go_enter Tryz.func91, Tryz.ntmps91
      go_wp2_with (go_at_call 126; refine (k0.out _ ba).mono ?_; rintro e w1 ⟨rfl, q0⟩; clear k0; have b1 := ba.trans (q0.mono (ba).size); have r1 : Hid (w1.rowIs (w.heap.size + 1) 82 3 (MemFunc.R3 (.string s) (.string t) (.int .i64 x))) := row_later rb.out q0; obtain ⟨_, _, _, _, _, _⟩ := MemFunc.r3 r1.out)
      go_wp2_with (go_at_call 127; refine (k1.out _ b1).mono ?_; rintro e w2 ⟨rfl, q1⟩; clear k1; have b2 := b1.trans (q1.mono (b1).size); have r2 : Hid (w2.rowIs (w.heap.size + 1) 82 3 (MemFunc.R3 (.string s) (.string t) (.int .i64 x))) := row_later r1.out q1; obtain ⟨_, _, _, _, _, _⟩ := MemFunc.r3 r2.out)
      go_wp2_with (go_at_call 127; refine (k2.out _ b2).mono ?_; rintro e w3 ⟨rfl, q2⟩; clear k2; have b3 := b2.trans (q2.mono (b2).size); have r3 : Hid (w3.rowIs (w.heap.size + 1) 82 3 (MemFunc.R3 (.string s) (.string t) (.int .i64 x))) := row_later r2.out q2; obtain ⟨_, _, _, _, _, _⟩ := MemFunc.r3 r3.out)
      go_ret
      exact ⟨by cases B2 <;> rfl, b3⟩
set_option maxHeartbeats 4000000 in
theorem impl_funcOk (a0 : Option Addr) (n c0 : Nat) (v1 v2 v3 v4 v5 v6 v7 : Value) (s x : Int) (a : Option Addr) (c : Nat) (l : List I3) (w : World) (hn : n ≤ 1048576) (h : RdI w a l) (hl : l.length ≤ 1048576) (ht : Tab w) :
    Calls Tryz.prog 93 #[.agg #[.slice a0 n c0, v1, v2, v3, v4, v5, v6, v7], .agg #[.int .i64 s, .int .i64 x, .slice a l.length c]] w fun e w' => e = .returned (.bool (fnOk n s x l)) ∧ Below w.heap.size w w' := by
  have ba : Below w.heap.size w ((w.alloc (.cells #[.slice a0 n c0, v1, v2, v3, v4, v5, v6, v7] 41)).alloc (.cells #[.int .i64 s, .int .i64 x, .slice a l.length c] 87)) := ((Below.refl _ _).alloc (Nat.le_refl _) _).alloc (by simp) _
  have rb : Hid (((w.alloc (.cells #[.slice a0 n c0, v1, v2, v3, v4, v5, v6, v7] 41)).alloc (.cells #[.int .i64 s, .int .i64 x, .slice a l.length c] 87)).rowIs (w.heap.size + 1) 87 3 (MemFunc.R3 (.int .i64 s) (.int .i64 x) (.slice a l.length c))) := by
    have := MemFunc.r3_made (w.alloc (.cells #[.slice a0 n c0, v1, v2, v3, v4, v5, v6, v7] 41)) (.int .i64 s) (.int .i64 x) (.slice a l.length c) 87
    simp only [World.size_alloc] at this
    exact this
  have k0 : Hid (∀ u, Below w.heap.size w u → Calls Tryz.prog 126 #[.agg #[.slice a0 n c0, v1, v2, v3, v4, v5, v6, v7], .int .i64 s] u fun e w' => e = .returned (.bool (wi s 0 ((n : Int) - 1))) ∧ Below u.heap.size u w') := fun u hu => impl_hasSig a0 n c0 v1 v2 v3 v4 v5 v6 v7 s u hn
  have k1 : Hid (∀ u, Below w.heap.size w u → Calls Tryz.prog 125 #[.int .i64 x, .int .i64 0, .int .i64 60] u fun e w' => e = .returned (.bool (wi x 0 60)) ∧ Below u.heap.size u w') := fun u hu => (impl_within x 0 60 u).mono fun e w' ⟨x, y⟩ => ⟨x, y ▸ Below.refl _ _⟩
  have k2 : Hid (∀ u, Below w.heap.size w u → Calls Tryz.prog 128 #[.slice a l.length c] u fun e w' => e = .returned (.bool (boOk l)) ∧ Below u.heap.size u w') := fun u hu => impl_bodyOk u a c l (h.later hu) hl (ht.later hu)
  clear h ht
  unfold fnOk
  generalize wi s 0 ((n : Int) - 1) = B0 at *
  generalize wi x 0 60 = B1 at *
  generalize boOk l = B2 at *
  cases B0 with
  | false =>
    clear k1 k2
    go_enter Tryz.func93, Tryz.ntmps93
    go_wp2_with (go_at_call 126; refine (k0.out _ ba).mono ?_; rintro e w1 ⟨rfl, q0⟩; clear k0; have b1 := ba.trans (q0.mono (ba).size); have r1 : Hid (w1.rowIs (w.heap.size + 1) 87 3 (MemFunc.R3 (.int .i64 s) (.int .i64 x) (.slice a l.length c))) := row_later rb.out q0; obtain ⟨_, _, _, _, _, _⟩ := MemFunc.r3 r1.out)
    go_ret
    exact ⟨rfl, b1⟩
  | true =>
    cases B1 with
    | false =>
      clear k2
      go_enter Tryz.func93, Tryz.ntmps93
      go_wp2_with (go_at_call 126; refine (k0.out _ ba).mono ?_; rintro e w1 ⟨rfl, q0⟩; clear k0; have b1 := ba.trans (q0.mono (ba).size); have r1 : Hid (w1.rowIs (w.heap.size + 1) 87 3 (MemFunc.R3 (.int .i64 s) (.int .i64 x) (.slice a l.length c))) := row_later rb.out q0; obtain ⟨_, _, _, _, _, _⟩ := MemFunc.r3 r1.out)
      go_wp2_with (go_at_call 125; refine (k1.out _ b1).mono ?_; rintro e w2 ⟨rfl, q1⟩; clear k1; have b2 := b1.trans (q1.mono (b1).size); have r2 : Hid (w2.rowIs (w.heap.size + 1) 87 3 (MemFunc.R3 (.int .i64 s) (.int .i64 x) (.slice a l.length c))) := row_later r1.out q1; obtain ⟨_, _, _, _, _, _⟩ := MemFunc.r3 r2.out)
      go_ret
      exact ⟨rfl, b2⟩
    | true =>
      go_enter Tryz.func93, Tryz.ntmps93
      go_wp2_with (go_at_call 126; refine (k0.out _ ba).mono ?_; rintro e w1 ⟨rfl, q0⟩; clear k0; have b1 := ba.trans (q0.mono (ba).size); have r1 : Hid (w1.rowIs (w.heap.size + 1) 87 3 (MemFunc.R3 (.int .i64 s) (.int .i64 x) (.slice a l.length c))) := row_later rb.out q0; obtain ⟨_, _, _, _, _, _⟩ := MemFunc.r3 r1.out)
      go_wp2_with (go_at_call 125; refine (k1.out _ b1).mono ?_; rintro e w2 ⟨rfl, q1⟩; clear k1; have b2 := b1.trans (q1.mono (b1).size); have r2 : Hid (w2.rowIs (w.heap.size + 1) 87 3 (MemFunc.R3 (.int .i64 s) (.int .i64 x) (.slice a l.length c))) := row_later r1.out q1; obtain ⟨_, _, _, _, _, _⟩ := MemFunc.r3 r2.out)
      go_wp2_with (go_at_call 128; refine (k2.out _ b2).mono ?_; rintro e w3 ⟨rfl, q2⟩; clear k2; have b3 := b2.trans (q2.mono (b2).size); have r3 : Hid (w3.rowIs (w.heap.size + 1) 87 3 (MemFunc.R3 (.int .i64 s) (.int .i64 x) (.slice a l.length c))) := row_later r2.out q2; obtain ⟨_, _, _, _, _, _⟩ := MemFunc.r3 r3.out)
      go_ret
      exact ⟨by cases B2 <;> rfl, b3⟩
theorem impl_exportOk (s : ByteArray) (k i : Int) (w : World) (hs : s.size ≤ 1048576) (hU : Utf w) :
    Calls Tryz.prog 97 #[.agg #[.string s, .int .i64 k, .int .i64 i]] w fun e w' => e = .returned (.bool (exOk s k i)) ∧ Below w.heap.size w w' := by
  have ba : Below w.heap.size w (w.alloc (.cells #[.string s, .int .i64 k, .int .i64 i] 101)) := (Below.refl _ _).alloc (Nat.le_refl _) _
  have rb : Hid ((w.alloc (.cells #[.string s, .int .i64 k, .int .i64 i] 101)).rowIs w.heap.size 101 3 (MemFunc.R3 (.string s) (.int .i64 k) (.int .i64 i))) := MemFunc.r3_made w (.string s) (.int .i64 k) (.int .i64 i) 101
  have k0 : Hid (∀ u, Below w.heap.size w u → Calls Tryz.prog 127 #[.string s] u fun e w' => e = .returned (.bool (nmOk s)) ∧ Below u.heap.size u w') := fun u hu => impl_nameOk s u hs (UtfLaw.tabs_later hU hu)
  have k1 : Hid (∀ u, Calls Tryz.prog 125 #[.int .i64 i, .int .i64 0, .int .i64 1000] u fun e w' => e = .returned (.bool (wi i 0 1000)) ∧ u = w') := fun u => impl_within i 0 1000 u
  clear hU
  unfold exOk
  generalize nmOk s = A at *
  generalize wi i 0 1000 = B at *
  by_cases h0 : k = 0
  · subst h0
    rw [decide_eq_true (show (0 : Int) = 0 ∨ (0 : Int) = 2 ∨ (0 : Int) = 3 from .inl rfl)]
    cases A with
    | false =>
      clear k1
      go_enter Tryz.func97, Tryz.ntmps97
      go_wp2_with (go_at_call 127; refine (k0.out _ ba).mono ?_; rintro e w1 ⟨rfl, q1⟩)
      go_ret
      exact ⟨rfl, ba.trans (q1.mono ba.size)⟩
    | true =>
      go_enter Tryz.func97, Tryz.ntmps97
      go_wp2_with (go_at_call 127; refine (k0.out _ ba).mono ?_; rintro e w1 ⟨rfl, q1⟩; clear k0; have r1 : Hid (w1.rowIs w.heap.size 101 3 (MemFunc.R3 (.string s) (.int .i64 0) (.int .i64 i))) := row_later rb.out q1; obtain ⟨_, _, _, _, _, _⟩ := MemFunc.r3 r1.out)
      go_wp2_with (go_at_call 125; refine (k1.out _).mono ?_; rintro e w2 ⟨rfl, rfl⟩)
      go_ret
      exact ⟨by cases B <;> rfl, ba.trans (q1.mono ba.size)⟩
  · by_cases h2 : k = 2
    · subst h2
      clear h0
      rw [decide_eq_true (show (2 : Int) = 0 ∨ (2 : Int) = 2 ∨ (2 : Int) = 3 from .inr (.inl rfl))]
      cases A with
      | false =>
        clear k1
        go_enter Tryz.func97, Tryz.ntmps97
        go_wp2_with (go_at_call 127; refine (k0.out _ ba).mono ?_; rintro e w1 ⟨rfl, q1⟩)
        go_ret
        exact ⟨rfl, ba.trans (q1.mono ba.size)⟩
      | true =>
        go_enter Tryz.func97, Tryz.ntmps97
        go_wp2_with (go_at_call 127; refine (k0.out _ ba).mono ?_; rintro e w1 ⟨rfl, q1⟩; clear k0; have r1 : Hid (w1.rowIs w.heap.size 101 3 (MemFunc.R3 (.string s) (.int .i64 2) (.int .i64 i))) := row_later rb.out q1; obtain ⟨_, _, _, _, _, _⟩ := MemFunc.r3 r1.out)
        go_wp2_with (go_at_call 125; refine (k1.out _).mono ?_; rintro e w2 ⟨rfl, rfl⟩)
        go_ret
        exact ⟨by cases B <;> rfl, ba.trans (q1.mono ba.size)⟩
    · by_cases h3 : k = 3
      · subst h3
        clear h0 h2
        rw [decide_eq_true (show (3 : Int) = 0 ∨ (3 : Int) = 2 ∨ (3 : Int) = 3 from .inr (.inr rfl))]
        cases A with
        | false =>
          clear k1
          go_enter Tryz.func97, Tryz.ntmps97
          go_wp2_with (go_at_call 127; refine (k0.out _ ba).mono ?_; rintro e w1 ⟨rfl, q1⟩)
          go_ret
          exact ⟨rfl, ba.trans (q1.mono ba.size)⟩
        | true =>
          go_enter Tryz.func97, Tryz.ntmps97
          go_wp2_with (go_at_call 127; refine (k0.out _ ba).mono ?_; rintro e w1 ⟨rfl, q1⟩; clear k0; have r1 : Hid (w1.rowIs w.heap.size 101 3 (MemFunc.R3 (.string s) (.int .i64 3) (.int .i64 i))) := row_later rb.out q1; obtain ⟨_, _, _, _, _, _⟩ := MemFunc.r3 r1.out)
          go_wp2_with (go_at_call 125; refine (k1.out _).mono ?_; rintro e w2 ⟨rfl, rfl⟩)
          go_ret
          exact ⟨by cases B <;> rfl, ba.trans (q1.mono ba.size)⟩
      · rw [decide_eq_false (show ¬ (k = 0 ∨ k = 2 ∨ k = 3) by omega)]
        have d0 : (k == 0) = false := beq_eq_false_iff_ne.2 h0
        have d2 : (k == 2) = false := beq_eq_false_iff_ne.2 h2
        have d3 : (k == 3) = false := beq_eq_false_iff_ne.2 h3
        clear k0 k1 h0 h2 h3
        go_enter Tryz.func97, Tryz.ntmps97
        go_wp2_with fail
        go_ret
        exact ⟨rfl, ba⟩
set_option maxHeartbeats 4000000 in
theorem impl_countsOk (a0 a1 a2 a3 a4 a5 : Option Addr) (n0 n1 n2 n3 n4 n5 c0 c1 c2 c3 c4 c5 : Nat) (pg mo : Int) (w : World) (m0 : n0 ≤ 1048576) (m1 : n1 ≤ 1048576) (m2 : n2 ≤ 1048576) (m3 : n3 ≤ 1048576) (m4 : n4 ≤ 1048576) (m5 : n5 ≤ 1048576) :
    Calls Tryz.prog 86 #[.agg #[.slice a0 n0 c0, .slice a1 n1 c1, .slice a2 n2 c2, .int .i64 pg, .int .i64 mo, .slice a3 n3 c3, .slice a4 n4 c4, .slice a5 n5 c5]] w fun e w' => e = .returned (.bool (coOk n0 n1 n2 n3 n4 n5)) ∧ Below w.heap.size w w' := by
  by_cases h0 : n0 ≤ 30
  · have d0 : (n0 : Int) ≤ 30 := by omega
    by_cases h1 : n1 + n2 ≤ 60
    · have d1 : (n1 : Int) + (n2 : Int) ≤ 60 := by omega
      by_cases h2 : n3 ≤ 30
      · have d2 : (n3 : Int) ≤ 30 := by omega
        by_cases h3 : n4 ≤ 60
        · have d3 : (n4 : Int) ≤ 60 := by omega
          by_cases h4 : n5 ≤ 20
          · have d4 : (n5 : Int) ≤ 20 := by omega
            rw [show coOk n0 n1 n2 n3 n4 n5 = true from decide_eq_true ⟨h0, h1, h2, h3, h4⟩]
            clear h0 h1 h2 h3 h4
            go_enter Tryz.func86, Tryz.ntmps86
            go_wp2_with fail
            go_ret
            exact ⟨rfl, (Below.refl _ _).alloc (Nat.le_refl _) _⟩
          · have d4 : ¬ (n5 : Int) ≤ 20 := by omega
            have e4 : decide ((n5 : Int) ≤ 20) = false := decide_eq_false d4
            rw [show coOk n0 n1 n2 n3 n4 n5 = false from decide_eq_false (fun h => h4 (by omega))]
            clear h0 h1 h2 h3 h4
            go_enter Tryz.func86, Tryz.ntmps86
            go_wp2_with fail
            go_ret
            exact ⟨rfl, (Below.refl _ _).alloc (Nat.le_refl _) _⟩
        · have d3 : ¬ (n4 : Int) ≤ 60 := by omega
          have e3 : decide ((n4 : Int) ≤ 60) = false := decide_eq_false d3
          rw [show coOk n0 n1 n2 n3 n4 n5 = false from decide_eq_false (fun h => h3 (by omega))]
          clear h0 h1 h2 h3
          go_enter Tryz.func86, Tryz.ntmps86
          go_wp2_with fail
          go_ret
          exact ⟨rfl, (Below.refl _ _).alloc (Nat.le_refl _) _⟩
      · have d2 : ¬ (n3 : Int) ≤ 30 := by omega
        have e2 : decide ((n3 : Int) ≤ 30) = false := decide_eq_false d2
        rw [show coOk n0 n1 n2 n3 n4 n5 = false from decide_eq_false (fun h => h2 (by omega))]
        clear h0 h1 h2
        go_enter Tryz.func86, Tryz.ntmps86
        go_wp2_with fail
        go_ret
        exact ⟨rfl, (Below.refl _ _).alloc (Nat.le_refl _) _⟩
    · have d1 : ¬ (n1 : Int) + (n2 : Int) ≤ 60 := by omega
      have e1 : decide ((n1 : Int) + (n2 : Int) ≤ 60) = false := decide_eq_false d1
      rw [show coOk n0 n1 n2 n3 n4 n5 = false from decide_eq_false (fun h => h1 (by omega))]
      clear h0 h1
      go_enter Tryz.func86, Tryz.ntmps86
      go_wp2_with fail
      go_ret
      exact ⟨rfl, (Below.refl _ _).alloc (Nat.le_refl _) _⟩
  · have d0 : ¬ (n0 : Int) ≤ 30 := by omega
    have e0 : decide ((n0 : Int) ≤ 30) = false := decide_eq_false d0
    rw [show coOk n0 n1 n2 n3 n4 n5 = false from decide_eq_false (fun h => h0 (by omega))]
    clear h0
    go_enter Tryz.func86, Tryz.ntmps86
    go_wp2_with fail
    go_ret
    exact ⟨rfl, (Below.refl _ _).alloc (Nat.le_refl _) _⟩
theorem body_at {w : World} {a : Option Addr} {l : List MemFunc.E} (h : MemFunc.Rd w a l) {k : Nat} (hk : k < l.length) : RdI w (MemFunc.at1 l k).ad (MemFunc.at1 l k).body := by
  rcases h with h | ⟨b, off, _, hc⟩
  · omega
  · exact (hc k hk).2.2.2
/-- What FormOk says of a module. -/
def formOk (m : M) : Bool := coOk m.sigs.length m.imps.length m.fns.length m.gls.length m.exs.length m.dat.length && (meOk m.pages m.most && (allP (fun k => sgOk (MemSig.f0At m.sigs k) (MemSig.f1At m.sigs k)) m.sigs.length 0 && (allP (fun k => imOk m.sigs.length (MemImport.f0At m.imps k) (MemImport.f1At m.imps k) (MemImport.f2At m.imps k)) m.imps.length 0 && (allP (fun k => fnOk m.sigs.length (MemFunc.at1 m.fns k).sig (MemFunc.at1 m.fns k).loc (MemFunc.at1 m.fns k).body) m.fns.length 0 && (allP (fun k => glOk (MemGlobal.f1At m.gls k)) m.gls.length 0 && (allP (fun k => exOk (MemExport.f0At m.exs k) (MemExport.f1At m.exs k) (MemExport.f2At m.exs k)) m.exs.length 0 && allP (fun k => daOk (MemData.at1 m.dat k).pos (MemData.at1 m.dat k).n) m.dat.length 0))))))
theorem formOk_same {m m' : M} (s : Same m m') : formOk m' = formOk m := by
  obtain ⟨sigs, imps, fns, pages, most, gls, exs, dat⟩ := m
  obtain ⟨sigs', imps', fns', pages', most', gls', exs', dat'⟩ := m'
  obtain ⟨s0, s1, t2, s2, sp, sm, s3, s4, t5, s5⟩ := s
  dsimp only at *
  subst s0 s1 sp sm s3 s4
  unfold formOk
  dsimp only
  rw [t2, t5, allP_congr (q := fun k => fnOk sigs'.length (MemFunc.at1 fns k).sig (MemFunc.at1 fns k).loc (MemFunc.at1 fns k).body) fns.length 0 (fun j _ hj => by obtain ⟨x, y, z⟩ := s2 j (by omega); rw [x, y, z]), allP_congr (q := fun k => daOk (MemData.at1 dat k).pos (MemData.at1 dat k).n) dat.length 0 (fun j _ hj => by obtain ⟨x, y, z⟩ := s5 j (by omega); rw [x, y])]
structure TI (w u : World) (x0 x1 x2 x3 x4 x5 x6 x7 : Value) : Prop where
  ra : u.rowIs w.heap.size 41 8 (R8 x0 x1 x2 x3 x4 x5 x6 x7)
  bl : Below w.heap.size w u
theorem TI.call {w u u' : World} {x0 x1 x2 x3 x4 x5 x6 x7 : Value} (h : TI w u x0 x1 x2 x3 x4 x5 x6 x7) (q : Below u.heap.size u u') : TI w u' x0 x1 x2 x3 x4 x5 x6 x7 := ⟨row_later h.ra q, h.bl.trans (q.mono h.bl.size)⟩
set_option maxRecDepth 20000 in
set_option maxHeartbeats 16000000 in
theorem impl_formOk (w : World) (p : P) (m : M) (h : Rd w p m) (hs : Small m) (ht : Tab w) (hU : Utf w) :
    Calls Tryz.prog 38 #[val p m] w fun e w' => e = .returned (.bool (formOk m)) ∧ Below w.heap.size w w' := by
  obtain ⟨a0, c0, a1, c1, a2, c2, a3, c3, a4, c4, a5, c5⟩ := p
  obtain ⟨sigs, imps, fns, pages, most, gls, exs, dat⟩ := m
  obtain ⟨h0, h1, h2, h3, h4, h5⟩ := h
  obtain ⟨n0, n1, z1, n2, z2, n3, n4, z4, n5, z5⟩ := hs
  dsimp only at *
  have T0 : Hid (TI w (w.alloc (.cells #[.slice a0 sigs.length c0, .slice a1 imps.length c1, .slice a2 fns.length c2, .int .i64 pages, .int .i64 most, .slice a3 gls.length c3, .slice a4 exs.length c4, .slice a5 dat.length c5] 41)) (.slice a0 sigs.length c0) (.slice a1 imps.length c1) (.slice a2 fns.length c2) (.int .i64 pages) (.int .i64 most) (.slice a3 gls.length c3) (.slice a4 exs.length c4) (.slice a5 dat.length c5)) := ⟨r8_made w (.slice a0 sigs.length c0) (.slice a1 imps.length c1) (.slice a2 fns.length c2) (.int .i64 pages) (.int .i64 most) (.slice a3 gls.length c3) (.slice a4 exs.length c4) (.slice a5 dat.length c5) 41, (Below.refl _ _).alloc (Nat.le_refl _) _⟩
  have k0 : Hid (∀ u, Below w.heap.size w u → Calls Tryz.prog 86 #[.agg #[.slice a0 sigs.length c0, .slice a1 imps.length c1, .slice a2 fns.length c2, .int .i64 pages, .int .i64 most, .slice a3 gls.length c3, .slice a4 exs.length c4, .slice a5 dat.length c5]] u fun e w' => e = .returned (.bool (coOk sigs.length imps.length fns.length gls.length exs.length dat.length)) ∧ Below u.heap.size u w') := fun u _ => impl_countsOk a0 a1 a2 a3 a4 a5 sigs.length imps.length fns.length gls.length exs.length dat.length c0 c1 c2 c3 c4 c5 pages most u n0 n1 n2 n3 n4 n5
  have k1 : Hid (∀ u, Below w.heap.size w u → Calls Tryz.prog 87 #[.int .i64 pages, .int .i64 most] u fun e w' => e = .returned (.bool (meOk pages most)) ∧ Below u.heap.size u w') := fun u _ => (impl_memoryOk pages most u).mono fun e w' ⟨x, y⟩ => ⟨x, y ▸ Below.refl _ _⟩
  have k2 : Hid (∀ u, Below w.heap.size w u → Calls Tryz.prog 88 #[.slice a0 sigs.length c0, .func (.func 89) #[] #[]] u fun e w' => e = .returned (.bool (allP (fun k => sgOk (MemSig.f0At sigs k) (MemSig.f1At sigs k)) sigs.length 0)) ∧ Below u.heap.size u w') := fun u hu => FormEvery.every_Sig u a0 c0 sigs (h0.later hu) n0 _ fun k u' _ _ => impl_sigOk _ _ u'
  have k3 : Hid (∀ u, Below w.heap.size w u → Calls Tryz.prog 90 #[.slice a1 imps.length c1, .func (.func 91) #[.agg #[.slice a0 sigs.length c0, .slice a1 imps.length c1, .slice a2 fns.length c2, .int .i64 pages, .int .i64 most, .slice a3 gls.length c3, .slice a4 exs.length c4, .slice a5 dat.length c5]] #[]] u fun e w' => e = .returned (.bool (allP (fun k => imOk sigs.length (MemImport.f0At imps k) (MemImport.f1At imps k) (MemImport.f2At imps k)) imps.length 0)) ∧ Below u.heap.size u w') := fun u hu => FormEvery.every_Import u a1 c1 imps (h1.later hu) n1 _ _ fun k u' hk hu' => impl_importOk a0 sigs.length c0 _ _ _ _ _ _ _ _ _ _ u' n0 (z1 k hk).1 (z1 k hk).2 (UtfLaw.tabs_later hU (hu.trans (hu'.mono hu.size)))
  have k4 : Hid (∀ u, Below w.heap.size w u → Calls Tryz.prog 92 #[.slice a2 fns.length c2, .func (.func 93) #[.agg #[.slice a0 sigs.length c0, .slice a1 imps.length c1, .slice a2 fns.length c2, .int .i64 pages, .int .i64 most, .slice a3 gls.length c3, .slice a4 exs.length c4, .slice a5 dat.length c5]] #[]] u fun e w' => e = .returned (.bool (allP (fun k => fnOk sigs.length (MemFunc.at1 fns k).sig (MemFunc.at1 fns k).loc (MemFunc.at1 fns k).body) fns.length 0)) ∧ Below u.heap.size u w') := fun u hu => FormEvery.every_Func u a2 c2 fns (h2.later hu) n2 _ _ fun k u' hk hu' => impl_funcOk a0 sigs.length c0 _ _ _ _ _ _ _ _ _ _ _ _ u' n0 ((body_at h2 hk).later (hu.trans (hu'.mono hu.size))) (z2 k hk) (ht.later (hu.trans (hu'.mono hu.size)))
  have k5 : Hid (∀ u, Below w.heap.size w u → Calls Tryz.prog 94 #[.slice a3 gls.length c3, .func (.func 95) #[] #[]] u fun e w' => e = .returned (.bool (allP (fun k => glOk (MemGlobal.f1At gls k)) gls.length 0)) ∧ Below u.heap.size u w') := fun u hu => FormEvery.every_Global u a3 c3 gls (h3.later hu) n3 _ fun k u' _ _ => impl_globalOk _ _ u'
  have k6 : Hid (∀ u, Below w.heap.size w u → Calls Tryz.prog 96 #[.slice a4 exs.length c4, .func (.func 97) #[] #[]] u fun e w' => e = .returned (.bool (allP (fun k => exOk (MemExport.f0At exs k) (MemExport.f1At exs k) (MemExport.f2At exs k)) exs.length 0)) ∧ Below u.heap.size u w') := fun u hu => FormEvery.every_Export u a4 c4 exs (h4.later hu) n4 _ fun k u' hk hu' => impl_exportOk _ _ _ u' (z4 k hk) (UtfLaw.tabs_later hU (hu.trans (hu'.mono hu.size)))
  have k7 : Hid (∀ u, Below w.heap.size w u → Calls Tryz.prog 98 #[.slice a5 dat.length c5, .func (.func 99) #[] #[]] u fun e w' => e = .returned (.bool (allP (fun k => daOk (MemData.at1 dat k).pos (MemData.at1 dat k).n) dat.length 0)) ∧ Below u.heap.size u w') := fun u hu => FormEvery.every_Data u a5 c5 dat (h5.later hu) n5 _ fun k u' hk _ => impl_dataOk _ _ _ _ u' (z5 k hk)
  clear h0 h1 h2 h3 h4 h5 n0 n1 n2 n3 n4 n5 z1 z2 z4 z5 ht hU
  simp only [val, formOk]
  generalize coOk sigs.length imps.length fns.length gls.length exs.length dat.length = B0 at *
  generalize meOk pages most = B1 at *
  generalize allP (fun k => sgOk (MemSig.f0At sigs k) (MemSig.f1At sigs k)) sigs.length 0 = B2 at *
  generalize allP (fun k => imOk sigs.length (MemImport.f0At imps k) (MemImport.f1At imps k) (MemImport.f2At imps k)) imps.length 0 = B3 at *
  generalize allP (fun k => fnOk sigs.length (MemFunc.at1 fns k).sig (MemFunc.at1 fns k).loc (MemFunc.at1 fns k).body) fns.length 0 = B4 at *
  generalize allP (fun k => glOk (MemGlobal.f1At gls k)) gls.length 0 = B5 at *
  generalize allP (fun k => exOk (MemExport.f0At exs k) (MemExport.f1At exs k) (MemExport.f2At exs k)) exs.length 0 = B6 at *
  generalize allP (fun k => daOk (MemData.at1 dat k).pos (MemData.at1 dat k).n) dat.length 0 = B7 at *
  generalize sigs.length = l0 at *
  generalize imps.length = l1 at *
  generalize fns.length = l2 at *
  generalize gls.length = l3 at *
  generalize exs.length = l4 at *
  generalize dat.length = l5 at *
  cases B0 with
  | false =>
    clear k1 k2 k3 k4 k5 k6 k7
    go_enter Tryz.func38, Tryz.ntmps38
    go_wp2_with (go_at_call 86; refine (k0.out _ T0.out.bl).mono ?_; rintro e w1 ⟨rfl, q0⟩; clear k0; have T1 : Hid _ := T0.out.call q0; obtain ⟨_, _, _, _, _, _, _, _⟩ := r8 T1.out.ra)
    go_ret
    exact ⟨rfl, T1.out.bl⟩
  | true =>
    cases B1 with
    | false =>
      clear k2 k3 k4 k5 k6 k7
      go_enter Tryz.func38, Tryz.ntmps38
      go_wp2_with (go_at_call 86; refine (k0.out _ T0.out.bl).mono ?_; rintro e w1 ⟨rfl, q0⟩; clear k0; have T1 : Hid _ := T0.out.call q0; obtain ⟨_, _, _, _, _, _, _, _⟩ := r8 T1.out.ra)
      go_wp2_with (go_at_call 87; refine (k1.out _ T1.out.bl).mono ?_; rintro e w2 ⟨rfl, q1⟩; clear k1; have T2 : Hid _ := T1.out.call q1; obtain ⟨_, _, _, _, _, _, _, _⟩ := r8 T2.out.ra)
      go_ret
      exact ⟨rfl, T2.out.bl⟩
    | true =>
      cases B2 with
      | false =>
        clear k3 k4 k5 k6 k7
        go_enter Tryz.func38, Tryz.ntmps38
        go_wp2_with (go_at_call 86; refine (k0.out _ T0.out.bl).mono ?_; rintro e w1 ⟨rfl, q0⟩; clear k0; have T1 : Hid _ := T0.out.call q0; obtain ⟨_, _, _, _, _, _, _, _⟩ := r8 T1.out.ra)
        go_wp2_with (go_at_call 87; refine (k1.out _ T1.out.bl).mono ?_; rintro e w2 ⟨rfl, q1⟩; clear k1; have T2 : Hid _ := T1.out.call q1; obtain ⟨_, _, _, _, _, _, _, _⟩ := r8 T2.out.ra)
        go_wp2_with (go_at_call 88; refine (k2.out _ T2.out.bl).mono ?_; rintro e w3 ⟨rfl, q2⟩; clear k2; have T3 : Hid _ := T2.out.call q2; obtain ⟨_, _, _, _, _, _, _, _⟩ := r8 T3.out.ra)
        go_ret
        exact ⟨rfl, T3.out.bl⟩
      | true =>
        cases B3 with
        | false =>
          clear k4 k5 k6 k7
          go_enter Tryz.func38, Tryz.ntmps38
          go_wp2_with (go_at_call 86; refine (k0.out _ T0.out.bl).mono ?_; rintro e w1 ⟨rfl, q0⟩; clear k0; have T1 : Hid _ := T0.out.call q0; obtain ⟨_, _, _, _, _, _, _, _⟩ := r8 T1.out.ra)
          go_wp2_with (go_at_call 87; refine (k1.out _ T1.out.bl).mono ?_; rintro e w2 ⟨rfl, q1⟩; clear k1; have T2 : Hid _ := T1.out.call q1; obtain ⟨_, _, _, _, _, _, _, _⟩ := r8 T2.out.ra)
          go_wp2_with (go_at_call 88; refine (k2.out _ T2.out.bl).mono ?_; rintro e w3 ⟨rfl, q2⟩; clear k2; have T3 : Hid _ := T2.out.call q2; obtain ⟨_, _, _, _, _, _, _, _⟩ := r8 T3.out.ra)
          go_wp2_with (go_at_call 90; refine (k3.out _ T3.out.bl).mono ?_; rintro e w4 ⟨rfl, q3⟩; clear k3; have T4 : Hid _ := T3.out.call q3; obtain ⟨_, _, _, _, _, _, _, _⟩ := r8 T4.out.ra)
          go_ret
          exact ⟨rfl, T4.out.bl⟩
        | true =>
          cases B4 with
          | false =>
            clear k5 k6 k7
            go_enter Tryz.func38, Tryz.ntmps38
            go_wp2_with (go_at_call 86; refine (k0.out _ T0.out.bl).mono ?_; rintro e w1 ⟨rfl, q0⟩; clear k0; have T1 : Hid _ := T0.out.call q0; obtain ⟨_, _, _, _, _, _, _, _⟩ := r8 T1.out.ra)
            go_wp2_with (go_at_call 87; refine (k1.out _ T1.out.bl).mono ?_; rintro e w2 ⟨rfl, q1⟩; clear k1; have T2 : Hid _ := T1.out.call q1; obtain ⟨_, _, _, _, _, _, _, _⟩ := r8 T2.out.ra)
            go_wp2_with (go_at_call 88; refine (k2.out _ T2.out.bl).mono ?_; rintro e w3 ⟨rfl, q2⟩; clear k2; have T3 : Hid _ := T2.out.call q2; obtain ⟨_, _, _, _, _, _, _, _⟩ := r8 T3.out.ra)
            go_wp2_with (go_at_call 90; refine (k3.out _ T3.out.bl).mono ?_; rintro e w4 ⟨rfl, q3⟩; clear k3; have T4 : Hid _ := T3.out.call q3; obtain ⟨_, _, _, _, _, _, _, _⟩ := r8 T4.out.ra)
            go_wp2_with (go_at_call 92; refine (k4.out _ T4.out.bl).mono ?_; rintro e w5 ⟨rfl, q4⟩; clear k4; have T5 : Hid _ := T4.out.call q4; obtain ⟨_, _, _, _, _, _, _, _⟩ := r8 T5.out.ra)
            go_ret
            exact ⟨rfl, T5.out.bl⟩
          | true =>
            cases B5 with
            | false =>
              clear k6 k7
              go_enter Tryz.func38, Tryz.ntmps38
              go_wp2_with (go_at_call 86; refine (k0.out _ T0.out.bl).mono ?_; rintro e w1 ⟨rfl, q0⟩; clear k0; have T1 : Hid _ := T0.out.call q0; obtain ⟨_, _, _, _, _, _, _, _⟩ := r8 T1.out.ra)
              go_wp2_with (go_at_call 87; refine (k1.out _ T1.out.bl).mono ?_; rintro e w2 ⟨rfl, q1⟩; clear k1; have T2 : Hid _ := T1.out.call q1; obtain ⟨_, _, _, _, _, _, _, _⟩ := r8 T2.out.ra)
              go_wp2_with (go_at_call 88; refine (k2.out _ T2.out.bl).mono ?_; rintro e w3 ⟨rfl, q2⟩; clear k2; have T3 : Hid _ := T2.out.call q2; obtain ⟨_, _, _, _, _, _, _, _⟩ := r8 T3.out.ra)
              go_wp2_with (go_at_call 90; refine (k3.out _ T3.out.bl).mono ?_; rintro e w4 ⟨rfl, q3⟩; clear k3; have T4 : Hid _ := T3.out.call q3; obtain ⟨_, _, _, _, _, _, _, _⟩ := r8 T4.out.ra)
              go_wp2_with (go_at_call 92; refine (k4.out _ T4.out.bl).mono ?_; rintro e w5 ⟨rfl, q4⟩; clear k4; have T5 : Hid _ := T4.out.call q4; obtain ⟨_, _, _, _, _, _, _, _⟩ := r8 T5.out.ra)
              go_wp2_with (go_at_call 94; refine (k5.out _ T5.out.bl).mono ?_; rintro e w6 ⟨rfl, q5⟩; clear k5; have T6 : Hid _ := T5.out.call q5; obtain ⟨_, _, _, _, _, _, _, _⟩ := r8 T6.out.ra)
              go_ret
              exact ⟨rfl, T6.out.bl⟩
            | true =>
              cases B6 with
              | false =>
                clear k7
                go_enter Tryz.func38, Tryz.ntmps38
                go_wp2_with (go_at_call 86; refine (k0.out _ T0.out.bl).mono ?_; rintro e w1 ⟨rfl, q0⟩; clear k0; have T1 : Hid _ := T0.out.call q0; obtain ⟨_, _, _, _, _, _, _, _⟩ := r8 T1.out.ra)
                go_wp2_with (go_at_call 87; refine (k1.out _ T1.out.bl).mono ?_; rintro e w2 ⟨rfl, q1⟩; clear k1; have T2 : Hid _ := T1.out.call q1; obtain ⟨_, _, _, _, _, _, _, _⟩ := r8 T2.out.ra)
                go_wp2_with (go_at_call 88; refine (k2.out _ T2.out.bl).mono ?_; rintro e w3 ⟨rfl, q2⟩; clear k2; have T3 : Hid _ := T2.out.call q2; obtain ⟨_, _, _, _, _, _, _, _⟩ := r8 T3.out.ra)
                go_wp2_with (go_at_call 90; refine (k3.out _ T3.out.bl).mono ?_; rintro e w4 ⟨rfl, q3⟩; clear k3; have T4 : Hid _ := T3.out.call q3; obtain ⟨_, _, _, _, _, _, _, _⟩ := r8 T4.out.ra)
                go_wp2_with (go_at_call 92; refine (k4.out _ T4.out.bl).mono ?_; rintro e w5 ⟨rfl, q4⟩; clear k4; have T5 : Hid _ := T4.out.call q4; obtain ⟨_, _, _, _, _, _, _, _⟩ := r8 T5.out.ra)
                go_wp2_with (go_at_call 94; refine (k5.out _ T5.out.bl).mono ?_; rintro e w6 ⟨rfl, q5⟩; clear k5; have T6 : Hid _ := T5.out.call q5; obtain ⟨_, _, _, _, _, _, _, _⟩ := r8 T6.out.ra)
                go_wp2_with (go_at_call 96; refine (k6.out _ T6.out.bl).mono ?_; rintro e w7 ⟨rfl, q6⟩; clear k6; have T7 : Hid _ := T6.out.call q6; obtain ⟨_, _, _, _, _, _, _, _⟩ := r8 T7.out.ra)
                go_ret
                exact ⟨rfl, T7.out.bl⟩
              | true =>
                go_enter Tryz.func38, Tryz.ntmps38
                go_wp2_with (go_at_call 86; refine (k0.out _ T0.out.bl).mono ?_; rintro e w1 ⟨rfl, q0⟩; clear k0; have T1 : Hid _ := T0.out.call q0; obtain ⟨_, _, _, _, _, _, _, _⟩ := r8 T1.out.ra)
                go_wp2_with (go_at_call 87; refine (k1.out _ T1.out.bl).mono ?_; rintro e w2 ⟨rfl, q1⟩; clear k1; have T2 : Hid _ := T1.out.call q1; obtain ⟨_, _, _, _, _, _, _, _⟩ := r8 T2.out.ra)
                go_wp2_with (go_at_call 88; refine (k2.out _ T2.out.bl).mono ?_; rintro e w3 ⟨rfl, q2⟩; clear k2; have T3 : Hid _ := T2.out.call q2; obtain ⟨_, _, _, _, _, _, _, _⟩ := r8 T3.out.ra)
                go_wp2_with (go_at_call 90; refine (k3.out _ T3.out.bl).mono ?_; rintro e w4 ⟨rfl, q3⟩; clear k3; have T4 : Hid _ := T3.out.call q3; obtain ⟨_, _, _, _, _, _, _, _⟩ := r8 T4.out.ra)
                go_wp2_with (go_at_call 92; refine (k4.out _ T4.out.bl).mono ?_; rintro e w5 ⟨rfl, q4⟩; clear k4; have T5 : Hid _ := T4.out.call q4; obtain ⟨_, _, _, _, _, _, _, _⟩ := r8 T5.out.ra)
                go_wp2_with (go_at_call 94; refine (k5.out _ T5.out.bl).mono ?_; rintro e w6 ⟨rfl, q5⟩; clear k5; have T6 : Hid _ := T5.out.call q5; obtain ⟨_, _, _, _, _, _, _, _⟩ := r8 T6.out.ra)
                go_wp2_with (go_at_call 96; refine (k6.out _ T6.out.bl).mono ?_; rintro e w7 ⟨rfl, q6⟩; clear k6; have T7 : Hid _ := T6.out.call q6; obtain ⟨_, _, _, _, _, _, _, _⟩ := r8 T7.out.ra)
                go_wp2_with (go_at_call 98; refine (k7.out _ T7.out.bl).mono ?_; rintro e w8 ⟨rfl, q7⟩; clear k7; have T8 : Hid _ := T7.out.call q7; obtain ⟨_, _, _, _, _, _, _, _⟩ := r8 T8.out.ra)
                go_ret
                exact ⟨by cases B7 <;> rfl, T8.out.bl⟩
end Go.Proofs.YtffngjgjhialnaaGreatDoor.FormImpl
