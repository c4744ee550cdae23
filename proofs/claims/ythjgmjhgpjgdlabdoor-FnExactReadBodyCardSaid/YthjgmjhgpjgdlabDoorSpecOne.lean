/-
  An instruction read by the specification.
-/
import Derived.Test.YthjgmjhgpjgdlabDoorSpecRd
import Derived.Test.YthjgmjhgpjgdlabDoorPlainIns
import Derived.Test.YthjgmjhgpjgdlabDoorInsCalls
import Derived.Test.YthjgmjhgpjgdlabDoorInsMem
namespace Go.Proofs.YthjgmjhgpjgdlabDoor.SpecOne
open Go.RowKit PlainOps NameCalls PlainNum PlainLeb PlainGet PlainRd PlainIns NumCalls ByteMem PutU SpecRd InsCalls PlainShape

theorem grown_alloc {w W : World} {q : Option Nat} (h : w.grownBy W q) (o : Obj) : w.grownBy (W.alloc o) q := h.trans (World.grownBy_alloc W o q)
theorem grown_set {w W : World} {q : Option Nat} (h : w.grownBy W q) {p j : Nat} (hp : w.heap.size ≤ p) (v : Value) : w.grownBy (W.setCell ⟨p, j, none⟩ v) q :=
  ⟨h.os, h.tape, h.output, by rw [World.size_setCell]; exact h.size, fun k hk hne => (Below.heap_setCell _ _ _ _ (by show k ≠ p; omega)).trans (h.block k hk hne)⟩
abbrev boxI (x y z : Value) : Obj := .cells #[x, y, z] 38 (0, 0)
theorem blk_facts {W : World} {q : Nat} {x y z : Value} (h : W.heap[q]? = some (boxI x y z)) :
    W.cell? ⟨q, 0, none⟩ = some x ∧ W.cell? ⟨q, 1, none⟩ = some y ∧ W.cell? ⟨q, 2, none⟩ = some z ∧ W.frozen? ⟨q, 0, none⟩ = false ∧ W.frozen? ⟨q, 1, none⟩ = false ∧ W.frozen? ⟨q, 2, none⟩ = false := by
  refine ⟨?_, ?_, ?_, ?_, ?_, ?_⟩ <;> simp [World.cell?, World.frozen?, h]
theorem blk_set {W : World} {q : Nat} {x y z : Value} (h : W.heap[q]? = some (boxI x y z)) (v : Value) :
    (W.setCell ⟨q, 0, none⟩ v).heap[q]? = some (boxI v y z) ∧ (W.setCell ⟨q, 1, none⟩ v).heap[q]? = some (boxI x v z) ∧ (W.setCell ⟨q, 2, none⟩ v).heap[q]? = some (boxI x y v) := by
  obtain ⟨hlt, hk⟩ := Array.getElem?_eq_some_iff.1 h
  refine ⟨?_, ?_, ?_⟩
  all_goals
    show (W.heap.modify q _)[q]? = _
    rw [Array.getElem?_eq_getElem (by rw [Array.size_modify]; exact hlt), Array.getElem_modify_self, hk]
    rfl
/-- What is stored into a result of three cells, cell by cell, is read from it. -/
theorem res_facts {W : World} {q : Nat} {x y z : Value} (h : W.heap[q]? = some (boxI x y z)) (v0 v1 v2 : Value) :
    W.cell? ⟨q, 0, none⟩ = some x ∧ W.frozen? ⟨q, 0, none⟩ = false ∧ (W.setCell ⟨q, 0, none⟩ v0).cell? ⟨q, 1, none⟩ = some y ∧ (W.setCell ⟨q, 0, none⟩ v0).frozen? ⟨q, 1, none⟩ = false ∧
    ((W.setCell ⟨q, 0, none⟩ v0).setCell ⟨q, 1, none⟩ v1).cell? ⟨q, 2, none⟩ = some z ∧ ((W.setCell ⟨q, 0, none⟩ v0).setCell ⟨q, 1, none⟩ v1).frozen? ⟨q, 2, none⟩ = false ∧
    (((W.setCell ⟨q, 0, none⟩ v0).setCell ⟨q, 1, none⟩ v1).setCell ⟨q, 2, none⟩ v2).cell? ⟨q, 0, none⟩ = some v0 ∧ (((W.setCell ⟨q, 0, none⟩ v0).setCell ⟨q, 1, none⟩ v1).setCell ⟨q, 2, none⟩ v2).cell? ⟨q, 1, none⟩ = some v1 ∧
    (((W.setCell ⟨q, 0, none⟩ v0).setCell ⟨q, 1, none⟩ v1).setCell ⟨q, 2, none⟩ v2).cell? ⟨q, 2, none⟩ = some v2 := by
  have h1 := (blk_set h v0).1
  have h2 := (blk_set h1 v1).2.1
  have h3 := (blk_set h2 v2).2.2
  have a := blk_facts h
  have b := blk_facts h1
  have c := blk_facts h2
  have d := blk_facts h3
  exact ⟨a.1, a.2.2.2.1, b.2.1, b.2.2.2.2.1, c.2.2.1, c.2.2.2.2.2, d.1, d.2.1, d.2.2.1⟩
theorem blk_kept {w w' : World} {r q : Nat} {o : Obj} (hg : w.grownBy w' (some r)) (h : w.heap[q]? = some o) (hq : q ≠ r) : w'.heap[q]? = some o :=
  (hg.block q (Array.getElem?_eq_some_iff.1 h).1 (fun e => hq (by injection e))).trans h
theorem blk_new (w : World) (x y z : Value) : (w.alloc (.cells #[x, y, z] 38)).heap[w.heap.size]? = some (boxI x y z) := World.alloc_heap_new w _
theorem blk_past {w : World} {q : Nat} {o : Obj} (h : w.heap[q]? = some o) (o' : Obj) : (w.alloc o').heap[q]? = some o := (Below.heap_alloc _ _ _ (Array.getElem?_eq_some_iff.1 h).1).trans h
theorem blk_other {W : World} {q p j : Nat} {o : Obj} (h : W.heap[q]? = some o) (v : Value) (hne : q ≠ p) : (W.setCell ⟨p, j, none⟩ v).heap[q]? = some o := (Below.heap_setCell _ _ _ _ (by exact hne)).trans h
theorem blk_below {w w' : World} {q : Nat} {o : Obj} (hb : Below w.heap.size w w') (h : w.heap[q]? = some o) : w'.heap[q]? = some o := (hb.block q (Array.getElem?_eq_some_iff.1 h).1).trans h
theorem grown_bel {w W w' : World} {q : Option Nat} (h : w.grownBy W q) (hb : Below W.heap.size W w') : w.grownBy w' q := h.trans ⟨hb.os, hb.tape, hb.output, hb.size, fun k hk _ => hb.block k hk⟩
theorem kd_not {o : Int} (h : kd o ≠ 0) : (o == 63) = false ∧ (o == 64) = false := by
  constructor
  · rw [beq_eq_false_iff_ne]; intro e; subst e; exact h (by decide)
  · rw [beq_eq_false_iff_ne]; intro e; subst e; exact h (by decide)
theorem op_named {o : Int} (h : opNm o = ⟨#[]⟩) : kd o = 0 ∧ (o == 63) = false ∧ (o == 64) = false := by
  refine ⟨?_, ?_, ?_⟩
  · rcases op_class o with h1 | h1 | h1 | h1 | h1
    · rcases h1 with rfl | rfl | rfl <;> (revert h; decide +kernel)
    · rcases h1 with rfl | rfl | rfl | rfl | rfl | rfl | rfl | rfl <;> (revert h; decide +kernel)
    · rcases h1 with rfl | rfl <;> (revert h; decide +kernel)
    · subst h1; revert h; decide +kernel
    · exact kd0 h1
  · rw [beq_eq_false_iff_ne]; intro e; subst e; revert h; decide +kernel
  · rw [beq_eq_false_iff_ne]; intro e; subst e; revert h; decide +kernel
set_option maxHeartbeats 4000000 in
set_option maxRecDepth 20000 in
theorem one2 (r b off cap : Nat) (bs : List UInt8) (p : Nat) (bad : Bool) (w : World) (h : SR w r b off cap bs p bad) (hp : p < bs.length) (hl : bs.length ≤ 1048576) (u : UInt8) (hu : byAt bs p = u) (hop : ¬ opNm (u.toNat : Int) = ⟨#[]⟩) (hk : kd (u.toNat : Int) = 2) (n k : Nat) (hg : gU (bs.drop (p + 1)) = some (n, k)) :
    Calls Tryd.prog 25 #[.pointer (some ⟨r, 0, none⟩)] w fun e w' => e = .returned (.agg #[.int .i64 (u.toNat : Int), .int .i64 (n : Int), .int .i64 0]) ∧ SR w' r b off cap bs (p + 1 + k) bad ∧ w.grownBy w' (some r) := by
  have hrl := h.isLt
  have hbl := h.lt
  have hN : Hid (Calls Tryd.prog 38 #[.pointer (some ⟨r, 0, none⟩)] (w.alloc (.cells #[.int .i64 0, .int .i64 0, .int .i64 0] 38)) fun e w' => e = .returned (.int .i64 (u.toNat : Int)) ∧ SR w' r b off cap bs (p + 1) bad ∧ (w.alloc (.cells #[.int .i64 0, .int .i64 0, .int .i64 0] 38)).grownBy w' (some r)) := by
    have := byte_yes r b off cap bs p bad _ (h.alloc (.cells #[.int .i64 0, .int .i64 0, .int .i64 0] 38)) hp (by omega)
    rw [hu] at this
    exact this
  have hO : Hid (∀ x, Calls Tryd.prog 29 #[.int .i64 (u.toNat : Int)] x fun e w' => e = .returned (.string (opNm (u.toNat : Int))) ∧ Below x.heap.size x w') := fun x => spec_opName (u.toNat : Int) x
  have hK : Hid (∀ x, Calls Tryd.prog 30 #[.int .i64 (u.toNat : Int)] x fun e w' => e = .returned (.int .i64 2) ∧ x = w') := fun x => by have := spec_kind (u.toNat : Int) x; rw [hk] at this; exact this
  obtain ⟨t63, t64⟩ := kd_not (o := (u.toNat : Int)) (by omega)
  have hU : Hid (∀ x, SR x r b off cap bs (p + 1) bad → Calls Tryd.prog 39 #[.pointer (some ⟨r, 0, none⟩)] x fun e w' => e = .returned (.int .i64 (n : Int)) ∧ SR w' r b off cap bs (p + 1 + k) bad ∧ x.grownBy w' (some r)) := fun x hx => u_yes r b off cap bs (p + 1) bad x hx n k hg (by omega)
  obtain ⟨n1, n2⟩ := str_nil hop
  have hu8 := u.toNat_lt
  clear h hop hu hg hk
  generalize opNm (u.toNat : Int) = T at *
  generalize u.toNat = o at *
  go_enter Tryd.func25, Tryd.ntmps25
  go_wp2_with (first | (go_at_call 38; refine hN.out.mono ?_; rintro e w1 ⟨rfl, k1, g1⟩; have k1' : Hid (SR w1 r b off cap bs (p + 1) bad) := k1; have g1' : Hid (w.grownBy w1 (some r)) := (World.grownBy_alloc w _ _).trans g1; have q1 : Hid (w1.heap[w.heap.size]? = some (boxI (.int .i64 0) (.int .i64 0) (.int .i64 0))) := blk_kept g1 (blk_new _ _ _ _) (by omega); have z1 : w.heap.size < w1.heap.size := Nat.lt_of_lt_of_le (by simp) g1.size; clear k1 g1 hN) | (go_at_call 30; refine (hK.out _).mono ?_; rintro e w4 ⟨rfl, rfl⟩; clear hK) | (go_at_call 39; refine (hU.out _ (k1'.out.alloc _)).mono ?_; rintro e w5 ⟨rfl, k5, g5⟩; obtain ⟨c0, c1, c2, f0, f1, f2⟩ := blk_facts (blk_kept g5 (blk_new w1 _ _ _) (by omega)); have kA : Hid (SR (w5.setCell ⟨w1.heap.size, 1, none⟩ (.int .i64 (n : Int))) r b off cap bs (p + 1 + k) bad) := k5.set (by omega) (by omega); have gA : Hid (w.grownBy (w5.setCell ⟨w1.heap.size, 1, none⟩ (.int .i64 (n : Int))) (some r)) := grown_set ((grown_alloc g1'.out _).trans g5) (by omega) _; have qA : Hid (((w5.setCell ⟨w1.heap.size, 1, none⟩ (.int .i64 (n : Int)))).heap[w1.heap.size]? = some (boxI (.int .i64 (o : Int)) (.int .i64 (n : Int)) (.int .i64 0))) := (blk_set (blk_kept g5 (blk_new w1 _ _ _) (by omega)) (.int .i64 (n : Int))).2.1; have pA : Hid (((w5.setCell ⟨w1.heap.size, 1, none⟩ (.int .i64 (n : Int)))).heap[w.heap.size]? = some (boxI (.int .i64 0) (.int .i64 0) (.int .i64 0))) := blk_other (p := w1.heap.size) (j := 1) (blk_kept g5 (blk_past q1.out _) (by omega)) (.int .i64 (n : Int)) (by omega); clear k5 g5 hU) | (go_at_call 29; refine (hO.out _).mono ?_; rintro e w6 ⟨rfl, b6⟩; have k6 : Hid (SR w6 r b off cap bs (p + 1 + k) bad) := kA.out.below b6; have g6 : Hid (w.grownBy w6 (some r)) := grown_bel gA.out b6; have q6 := blk_below b6 qA.out; have p6 := blk_below b6 pA.out; obtain ⟨d0, d1, d2, _, _, _⟩ := blk_facts q6; obtain ⟨e0, e1, e2, e3, e4, e5, e6, e7, e8⟩ := res_facts p6 (.int .i64 (o : Int)) (.int .i64 (n : Int)) (.int .i64 0); clear b6 q6 p6 hO))
  refine bodyPost_ret (v := .agg #[.int .i64 (o : Int), .int .i64 (n : Int), .int .i64 0]) ?_ rfl ⟨rfl, ?_, ?_⟩
  · simp [results, go_sem, e6, e7, e8]
  · exact (((k6.out).set (by omega) (by omega)).set (by omega) (by omega)).set (by omega) (by omega)
  · exact grown_set (grown_set (grown_set (g6.out) (Nat.le_refl _) _) (Nat.le_refl _) _) (Nat.le_refl _) _
set_option maxHeartbeats 4000000 in
set_option maxRecDepth 20000 in
theorem one2_no (r b off cap : Nat) (bs : List UInt8) (p : Nat) (bad : Bool) (w : World) (h : SR w r b off cap bs p bad) (hp : p < bs.length) (hl : bs.length ≤ 1048576) (u : UInt8) (hu : byAt bs p = u) (hop : ¬ opNm (u.toNat : Int) = ⟨#[]⟩) (hk : kd (u.toNat : Int) = 2) (hg : gU (bs.drop (p + 1)) = none) :
    Calls Tryd.prog 25 #[.pointer (some ⟨r, 0, none⟩)] w fun e w' => (∃ x y z : Int, e = .returned (.agg #[.int .i64 x, .int .i64 y, .int .i64 z])) ∧ (∃ p', SR w' r b off cap bs p' true) ∧ w.grownBy w' (some r) := by
  have hrl := h.isLt
  have hbl := h.lt
  have hN : Hid (Calls Tryd.prog 38 #[.pointer (some ⟨r, 0, none⟩)] (w.alloc (.cells #[.int .i64 0, .int .i64 0, .int .i64 0] 38)) fun e w' => e = .returned (.int .i64 (u.toNat : Int)) ∧ SR w' r b off cap bs (p + 1) bad ∧ (w.alloc (.cells #[.int .i64 0, .int .i64 0, .int .i64 0] 38)).grownBy w' (some r)) := by
    have := byte_yes r b off cap bs p bad _ (h.alloc (.cells #[.int .i64 0, .int .i64 0, .int .i64 0] 38)) hp (by omega)
    rw [hu] at this
    exact this
  have hO : Hid (∀ x, Calls Tryd.prog 29 #[.int .i64 (u.toNat : Int)] x fun e w' => e = .returned (.string (opNm (u.toNat : Int))) ∧ Below x.heap.size x w') := fun x => spec_opName (u.toNat : Int) x
  have hK : Hid (∀ x, Calls Tryd.prog 30 #[.int .i64 (u.toNat : Int)] x fun e w' => e = .returned (.int .i64 2) ∧ x = w') := fun x => by have := spec_kind (u.toNat : Int) x; rw [hk] at this; exact this
  obtain ⟨t63, t64⟩ := kd_not (o := (u.toNat : Int)) (by omega)
  have hU : Hid (∀ x, SR x r b off cap bs (p + 1) bad → Calls Tryd.prog 39 #[.pointer (some ⟨r, 0, none⟩)] x fun e w' => e = .returned (.int .i64 0) ∧ SR w' r b off cap bs (p + 1) true ∧ x.grownBy w' (some r)) := fun x hx => u_no r b off cap bs (p + 1) bad x hx hg (by omega)
  obtain ⟨n1, n2⟩ := str_nil hop
  have hu8 := u.toNat_lt
  clear h hop hu hg hk
  generalize opNm (u.toNat : Int) = T at *
  generalize u.toNat = o at *
  go_enter Tryd.func25, Tryd.ntmps25
  go_wp2_with (first | (go_at_call 38; refine hN.out.mono ?_; rintro e w1 ⟨rfl, k1, g1⟩; have k1' : Hid (SR w1 r b off cap bs (p + 1) bad) := k1; have g1' : Hid (w.grownBy w1 (some r)) := (World.grownBy_alloc w _ _).trans g1; have q1 : Hid (w1.heap[w.heap.size]? = some (boxI (.int .i64 0) (.int .i64 0) (.int .i64 0))) := blk_kept g1 (blk_new _ _ _ _) (by omega); have z1 : w.heap.size < w1.heap.size := Nat.lt_of_lt_of_le (by simp) g1.size; clear k1 g1 hN) | (go_at_call 30; refine (hK.out _).mono ?_; rintro e w4 ⟨rfl, rfl⟩; clear hK) | (go_at_call 39; refine (hU.out _ (k1'.out.alloc _)).mono ?_; rintro e w5 ⟨rfl, k5, g5⟩; obtain ⟨c0, c1, c2, f0, f1, f2⟩ := blk_facts (blk_kept g5 (blk_new w1 _ _ _) (by omega)); have kA : Hid (SR (w5.setCell ⟨w1.heap.size, 1, none⟩ (.int .i64 0)) r b off cap bs (p + 1) true) := k5.set (by omega) (by omega); have gA : Hid (w.grownBy (w5.setCell ⟨w1.heap.size, 1, none⟩ (.int .i64 0)) (some r)) := grown_set ((grown_alloc g1'.out _).trans g5) (by omega) _; have qA : Hid (((w5.setCell ⟨w1.heap.size, 1, none⟩ (.int .i64 0))).heap[w1.heap.size]? = some (boxI (.int .i64 (o : Int)) (.int .i64 0) (.int .i64 0))) := (blk_set (blk_kept g5 (blk_new w1 _ _ _) (by omega)) (.int .i64 0)).2.1; have pA : Hid (((w5.setCell ⟨w1.heap.size, 1, none⟩ (.int .i64 0))).heap[w.heap.size]? = some (boxI (.int .i64 0) (.int .i64 0) (.int .i64 0))) := blk_other (p := w1.heap.size) (j := 1) (blk_kept g5 (blk_past q1.out _) (by omega)) (.int .i64 0) (by omega); clear k5 g5 hU) | (go_at_call 29; refine (hO.out _).mono ?_; rintro e w6 ⟨rfl, b6⟩; have k6 : Hid (SR w6 r b off cap bs (p + 1) true) := kA.out.below b6; have g6 : Hid (w.grownBy w6 (some r)) := grown_bel gA.out b6; have q6 := blk_below b6 qA.out; have p6 := blk_below b6 pA.out; obtain ⟨d0, d1, d2, _, _, _⟩ := blk_facts q6; obtain ⟨e0, e1, e2, e3, e4, e5, e6, e7, e8⟩ := res_facts p6 (.int .i64 (o : Int)) (.int .i64 0) (.int .i64 0); clear b6 q6 p6 hO))
  refine bodyPost_ret (v := .agg #[.int .i64 (o : Int), .int .i64 0, .int .i64 0]) ?_ rfl ⟨⟨_, _, _, rfl⟩, ⟨p + 1, ?_⟩, ?_⟩
  · simp [results, go_sem, e6, e7, e8]
  · exact (((k6.out).set (by omega) (by omega)).set (by omega) (by omega)).set (by omega) (by omega)
  · exact grown_set (grown_set (grown_set (g6.out) (Nat.le_refl _) _) (Nat.le_refl _) _) (Nat.le_refl _) _
set_option maxHeartbeats 4000000 in
set_option maxRecDepth 20000 in
theorem one4 (r b off cap : Nat) (bs : List UInt8) (p : Nat) (bad : Bool) (w : World) (h : SR w r b off cap bs p bad) (hp : p < bs.length) (hl : bs.length ≤ 1048576) (u : UInt8) (hu : byAt bs p = u) (hop : ¬ opNm (u.toNat : Int) = ⟨#[]⟩) (hk : kd (u.toNat : Int) = 4) (n : Int) (k : Nat) (hg : gS (bs.drop (p + 1)) = some (n, k)) :
    Calls Tryd.prog 25 #[.pointer (some ⟨r, 0, none⟩)] w fun e w' => e = .returned (.agg #[.int .i64 (u.toNat : Int), .int .i64 n, .int .i64 0]) ∧ SR w' r b off cap bs (p + 1 + k) bad ∧ w.grownBy w' (some r) := by
  have hrl := h.isLt
  have hbl := h.lt
  have hN : Hid (Calls Tryd.prog 38 #[.pointer (some ⟨r, 0, none⟩)] (w.alloc (.cells #[.int .i64 0, .int .i64 0, .int .i64 0] 38)) fun e w' => e = .returned (.int .i64 (u.toNat : Int)) ∧ SR w' r b off cap bs (p + 1) bad ∧ (w.alloc (.cells #[.int .i64 0, .int .i64 0, .int .i64 0] 38)).grownBy w' (some r)) := by
    have := byte_yes r b off cap bs p bad _ (h.alloc (.cells #[.int .i64 0, .int .i64 0, .int .i64 0] 38)) hp (by omega)
    rw [hu] at this
    exact this
  have hO : Hid (∀ x, Calls Tryd.prog 29 #[.int .i64 (u.toNat : Int)] x fun e w' => e = .returned (.string (opNm (u.toNat : Int))) ∧ Below x.heap.size x w') := fun x => spec_opName (u.toNat : Int) x
  have hK : Hid (∀ x, Calls Tryd.prog 30 #[.int .i64 (u.toNat : Int)] x fun e w' => e = .returned (.int .i64 4) ∧ x = w') := fun x => by have := spec_kind (u.toNat : Int) x; rw [hk] at this; exact this
  obtain ⟨t63, t64⟩ := kd_not (o := (u.toNat : Int)) (by omega)
  have hU : Hid (∀ x, SR x r b off cap bs (p + 1) bad → Calls Tryd.prog 40 #[.pointer (some ⟨r, 0, none⟩)] x fun e w' => e = .returned (.int .i64 n) ∧ SR w' r b off cap bs (p + 1 + k) bad ∧ x.grownBy w' (some r)) := fun x hx => s_yes r b off cap bs (p + 1) bad x hx n k hg (by omega)
  obtain ⟨n1, n2⟩ := str_nil hop
  have hu8 := u.toNat_lt
  clear h hop hu hg hk
  generalize opNm (u.toNat : Int) = T at *
  generalize u.toNat = o at *
  go_enter Tryd.func25, Tryd.ntmps25
  go_wp2_with (first | (go_at_call 38; refine hN.out.mono ?_; rintro e w1 ⟨rfl, k1, g1⟩; have k1' : Hid (SR w1 r b off cap bs (p + 1) bad) := k1; have g1' : Hid (w.grownBy w1 (some r)) := (World.grownBy_alloc w _ _).trans g1; have q1 : Hid (w1.heap[w.heap.size]? = some (boxI (.int .i64 0) (.int .i64 0) (.int .i64 0))) := blk_kept g1 (blk_new _ _ _ _) (by omega); have z1 : w.heap.size < w1.heap.size := Nat.lt_of_lt_of_le (by simp) g1.size; clear k1 g1 hN) | (go_at_call 30; refine (hK.out _).mono ?_; rintro e w4 ⟨rfl, rfl⟩; clear hK) | (go_at_call 40; refine (hU.out _ (k1'.out.alloc _)).mono ?_; rintro e w5 ⟨rfl, k5, g5⟩; obtain ⟨c0, c1, c2, f0, f1, f2⟩ := blk_facts (blk_kept g5 (blk_new w1 _ _ _) (by omega)); have kA : Hid (SR (w5.setCell ⟨w1.heap.size, 1, none⟩ (.int .i64 n)) r b off cap bs (p + 1 + k) bad) := k5.set (by omega) (by omega); have gA : Hid (w.grownBy (w5.setCell ⟨w1.heap.size, 1, none⟩ (.int .i64 n)) (some r)) := grown_set ((grown_alloc g1'.out _).trans g5) (by omega) _; have qA : Hid (((w5.setCell ⟨w1.heap.size, 1, none⟩ (.int .i64 n))).heap[w1.heap.size]? = some (boxI (.int .i64 (o : Int)) (.int .i64 n) (.int .i64 0))) := (blk_set (blk_kept g5 (blk_new w1 _ _ _) (by omega)) (.int .i64 n)).2.1; have pA : Hid (((w5.setCell ⟨w1.heap.size, 1, none⟩ (.int .i64 n))).heap[w.heap.size]? = some (boxI (.int .i64 0) (.int .i64 0) (.int .i64 0))) := blk_other (p := w1.heap.size) (j := 1) (blk_kept g5 (blk_past q1.out _) (by omega)) (.int .i64 n) (by omega); clear k5 g5 hU) | (go_at_call 29; refine (hO.out _).mono ?_; rintro e w6 ⟨rfl, b6⟩; have k6 : Hid (SR w6 r b off cap bs (p + 1 + k) bad) := kA.out.below b6; have g6 : Hid (w.grownBy w6 (some r)) := grown_bel gA.out b6; have q6 := blk_below b6 qA.out; have p6 := blk_below b6 pA.out; obtain ⟨d0, d1, d2, _, _, _⟩ := blk_facts q6; obtain ⟨e0, e1, e2, e3, e4, e5, e6, e7, e8⟩ := res_facts p6 (.int .i64 (o : Int)) (.int .i64 n) (.int .i64 0); clear b6 q6 p6 hO))
  refine bodyPost_ret (v := .agg #[.int .i64 (o : Int), .int .i64 n, .int .i64 0]) ?_ rfl ⟨rfl, ?_, ?_⟩
  · simp [results, go_sem, e6, e7, e8]
  · exact (((k6.out).set (by omega) (by omega)).set (by omega) (by omega)).set (by omega) (by omega)
  · exact grown_set (grown_set (grown_set (g6.out) (Nat.le_refl _) _) (Nat.le_refl _) _) (Nat.le_refl _) _
set_option maxHeartbeats 4000000 in
set_option maxRecDepth 20000 in
theorem one4_no (r b off cap : Nat) (bs : List UInt8) (p : Nat) (bad : Bool) (w : World) (h : SR w r b off cap bs p bad) (hp : p < bs.length) (hl : bs.length ≤ 1048576) (u : UInt8) (hu : byAt bs p = u) (hop : ¬ opNm (u.toNat : Int) = ⟨#[]⟩) (hk : kd (u.toNat : Int) = 4) (hg : gS (bs.drop (p + 1)) = none) :
    Calls Tryd.prog 25 #[.pointer (some ⟨r, 0, none⟩)] w fun e w' => (∃ x y z : Int, e = .returned (.agg #[.int .i64 x, .int .i64 y, .int .i64 z])) ∧ (∃ p', SR w' r b off cap bs p' true) ∧ w.grownBy w' (some r) := by
  have hrl := h.isLt
  have hbl := h.lt
  have hN : Hid (Calls Tryd.prog 38 #[.pointer (some ⟨r, 0, none⟩)] (w.alloc (.cells #[.int .i64 0, .int .i64 0, .int .i64 0] 38)) fun e w' => e = .returned (.int .i64 (u.toNat : Int)) ∧ SR w' r b off cap bs (p + 1) bad ∧ (w.alloc (.cells #[.int .i64 0, .int .i64 0, .int .i64 0] 38)).grownBy w' (some r)) := by
    have := byte_yes r b off cap bs p bad _ (h.alloc (.cells #[.int .i64 0, .int .i64 0, .int .i64 0] 38)) hp (by omega)
    rw [hu] at this
    exact this
  have hO : Hid (∀ x, Calls Tryd.prog 29 #[.int .i64 (u.toNat : Int)] x fun e w' => e = .returned (.string (opNm (u.toNat : Int))) ∧ Below x.heap.size x w') := fun x => spec_opName (u.toNat : Int) x
  have hK : Hid (∀ x, Calls Tryd.prog 30 #[.int .i64 (u.toNat : Int)] x fun e w' => e = .returned (.int .i64 4) ∧ x = w') := fun x => by have := spec_kind (u.toNat : Int) x; rw [hk] at this; exact this
  obtain ⟨t63, t64⟩ := kd_not (o := (u.toNat : Int)) (by omega)
  have hU : Hid (∀ x, SR x r b off cap bs (p + 1) bad → Calls Tryd.prog 40 #[.pointer (some ⟨r, 0, none⟩)] x fun e w' => e = .returned (.int .i64 0) ∧ SR w' r b off cap bs (p + 1) true ∧ x.grownBy w' (some r)) := fun x hx => s_no r b off cap bs (p + 1) bad x hx hg (by omega)
  obtain ⟨n1, n2⟩ := str_nil hop
  have hu8 := u.toNat_lt
  clear h hop hu hg hk
  generalize opNm (u.toNat : Int) = T at *
  generalize u.toNat = o at *
  go_enter Tryd.func25, Tryd.ntmps25
  go_wp2_with (first | (go_at_call 38; refine hN.out.mono ?_; rintro e w1 ⟨rfl, k1, g1⟩; have k1' : Hid (SR w1 r b off cap bs (p + 1) bad) := k1; have g1' : Hid (w.grownBy w1 (some r)) := (World.grownBy_alloc w _ _).trans g1; have q1 : Hid (w1.heap[w.heap.size]? = some (boxI (.int .i64 0) (.int .i64 0) (.int .i64 0))) := blk_kept g1 (blk_new _ _ _ _) (by omega); have z1 : w.heap.size < w1.heap.size := Nat.lt_of_lt_of_le (by simp) g1.size; clear k1 g1 hN) | (go_at_call 30; refine (hK.out _).mono ?_; rintro e w4 ⟨rfl, rfl⟩; clear hK) | (go_at_call 40; refine (hU.out _ (k1'.out.alloc _)).mono ?_; rintro e w5 ⟨rfl, k5, g5⟩; obtain ⟨c0, c1, c2, f0, f1, f2⟩ := blk_facts (blk_kept g5 (blk_new w1 _ _ _) (by omega)); have kA : Hid (SR (w5.setCell ⟨w1.heap.size, 1, none⟩ (.int .i64 0)) r b off cap bs (p + 1) true) := k5.set (by omega) (by omega); have gA : Hid (w.grownBy (w5.setCell ⟨w1.heap.size, 1, none⟩ (.int .i64 0)) (some r)) := grown_set ((grown_alloc g1'.out _).trans g5) (by omega) _; have qA : Hid (((w5.setCell ⟨w1.heap.size, 1, none⟩ (.int .i64 0))).heap[w1.heap.size]? = some (boxI (.int .i64 (o : Int)) (.int .i64 0) (.int .i64 0))) := (blk_set (blk_kept g5 (blk_new w1 _ _ _) (by omega)) (.int .i64 0)).2.1; have pA : Hid (((w5.setCell ⟨w1.heap.size, 1, none⟩ (.int .i64 0))).heap[w.heap.size]? = some (boxI (.int .i64 0) (.int .i64 0) (.int .i64 0))) := blk_other (p := w1.heap.size) (j := 1) (blk_kept g5 (blk_past q1.out _) (by omega)) (.int .i64 0) (by omega); clear k5 g5 hU) | (go_at_call 29; refine (hO.out _).mono ?_; rintro e w6 ⟨rfl, b6⟩; have k6 : Hid (SR w6 r b off cap bs (p + 1) true) := kA.out.below b6; have g6 : Hid (w.grownBy w6 (some r)) := grown_bel gA.out b6; have q6 := blk_below b6 qA.out; have p6 := blk_below b6 pA.out; obtain ⟨d0, d1, d2, _, _, _⟩ := blk_facts q6; obtain ⟨e0, e1, e2, e3, e4, e5, e6, e7, e8⟩ := res_facts p6 (.int .i64 (o : Int)) (.int .i64 0) (.int .i64 0); clear b6 q6 p6 hO))
  refine bodyPost_ret (v := .agg #[.int .i64 (o : Int), .int .i64 0, .int .i64 0]) ?_ rfl ⟨⟨_, _, _, rfl⟩, ⟨p + 1, ?_⟩, ?_⟩
  · simp [results, go_sem, e6, e7, e8]
  · exact (((k6.out).set (by omega) (by omega)).set (by omega) (by omega)).set (by omega) (by omega)
  · exact grown_set (grown_set (grown_set (g6.out) (Nat.le_refl _) _) (Nat.le_refl _) _) (Nat.le_refl _) _
set_option maxHeartbeats 4000000 in
set_option maxRecDepth 20000 in
theorem one3 (r b off cap : Nat) (bs : List UInt8) (p : Nat) (bad : Bool) (w : World) (h : SR w r b off cap bs p bad) (hp : p < bs.length) (hl : bs.length ≤ 1048576) (u : UInt8) (hu : byAt bs p = u) (hop : ¬ opNm (u.toNat : Int) = ⟨#[]⟩) (hk : kd (u.toNat : Int) = 3) (n k m j : Nat) (hg : gU (bs.drop (p + 1)) = some (n, k)) (hg2 : gU (bs.drop (p + 1 + k)) = some (m, j)) :
    Calls Tryd.prog 25 #[.pointer (some ⟨r, 0, none⟩)] w fun e w' => e = .returned (.agg #[.int .i64 (u.toNat : Int), .int .i64 (m : Int), .int .i64 (n : Int)]) ∧ SR w' r b off cap bs (p + 1 + k + j) bad ∧ w.grownBy w' (some r) := by
  have hrl := h.isLt
  have hbl := h.lt
  have hN : Hid (Calls Tryd.prog 38 #[.pointer (some ⟨r, 0, none⟩)] (w.alloc (.cells #[.int .i64 0, .int .i64 0, .int .i64 0] 38)) fun e w' => e = .returned (.int .i64 (u.toNat : Int)) ∧ SR w' r b off cap bs (p + 1) bad ∧ (w.alloc (.cells #[.int .i64 0, .int .i64 0, .int .i64 0] 38)).grownBy w' (some r)) := by
    have := byte_yes r b off cap bs p bad _ (h.alloc (.cells #[.int .i64 0, .int .i64 0, .int .i64 0] 38)) hp (by omega)
    rw [hu] at this
    exact this
  have hO : Hid (∀ x, Calls Tryd.prog 29 #[.int .i64 (u.toNat : Int)] x fun e w' => e = .returned (.string (opNm (u.toNat : Int))) ∧ Below x.heap.size x w') := fun x => spec_opName (u.toNat : Int) x
  have hK : Hid (∀ x, Calls Tryd.prog 30 #[.int .i64 (u.toNat : Int)] x fun e w' => e = .returned (.int .i64 3) ∧ x = w') := fun x => by have := spec_kind (u.toNat : Int) x; rw [hk] at this; exact this
  obtain ⟨t63, t64⟩ := kd_not (o := (u.toNat : Int)) (by omega)
  have hU : Hid (∀ x, SR x r b off cap bs (p + 1) bad → Calls Tryd.prog 39 #[.pointer (some ⟨r, 0, none⟩)] x fun e w' => e = .returned (.int .i64 (n : Int)) ∧ SR w' r b off cap bs (p + 1 + k) bad ∧ x.grownBy w' (some r)) := fun x hx => u_yes r b off cap bs (p + 1) bad x hx n k hg (by omega)
  have hU2 : Hid (∀ x, SR x r b off cap bs (p + 1 + k) bad → Calls Tryd.prog 39 #[.pointer (some ⟨r, 0, none⟩)] x fun e w' => e = .returned (.int .i64 (m : Int)) ∧ SR w' r b off cap bs (p + 1 + k + j) bad ∧ x.grownBy w' (some r)) := fun x hx => u_yes r b off cap bs (p + 1 + k) bad x hx m j hg2 (by omega)
  obtain ⟨n1, n2⟩ := str_nil hop
  have hu8 := u.toNat_lt
  clear h hop hu hg hg2 hk
  generalize opNm (u.toNat : Int) = T at *
  generalize u.toNat = o at *
  go_enter Tryd.func25, Tryd.ntmps25
  go_wp2_with (first | (go_at_call 38; refine hN.out.mono ?_; rintro e w1 ⟨rfl, k1, g1⟩; have k1' : Hid (SR w1 r b off cap bs (p + 1) bad) := k1; have g1' : Hid (w.grownBy w1 (some r)) := (World.grownBy_alloc w _ _).trans g1; have q1 : Hid (w1.heap[w.heap.size]? = some (boxI (.int .i64 0) (.int .i64 0) (.int .i64 0))) := blk_kept g1 (blk_new _ _ _ _) (by omega); have z1 : w.heap.size < w1.heap.size := Nat.lt_of_lt_of_le (by simp) g1.size; clear k1 g1 hN) | (go_at_call 30; refine (hK.out _).mono ?_; rintro e w4 ⟨rfl, rfl⟩; clear hK) | (go_at_call 39; refine (hU.out _ (k1'.out.alloc _)).mono ?_; rintro e w5 ⟨rfl, k5, g5⟩; obtain ⟨c0, c1, c2, f0, f1, f2⟩ := blk_facts (blk_kept g5 (blk_new w1 _ _ _) (by omega)); have kF : Hid (SR (w5.setCell ⟨w1.heap.size, 2, none⟩ (.int .i64 (n : Int))) r b off cap bs (p + 1 + k) bad) := k5.set (by omega) (by omega); have gF : Hid (w.grownBy (w5.setCell ⟨w1.heap.size, 2, none⟩ (.int .i64 (n : Int))) (some r)) := grown_set ((grown_alloc g1'.out _).trans g5) (by omega) _; have qF : Hid (((w5.setCell ⟨w1.heap.size, 2, none⟩ (.int .i64 (n : Int)))).heap[w1.heap.size]? = some (boxI (.int .i64 (o : Int)) (.int .i64 0) (.int .i64 (n : Int)))) := (blk_set (blk_kept g5 (blk_new w1 _ _ _) (by omega)) (.int .i64 (n : Int))).2.2; have pF : Hid (((w5.setCell ⟨w1.heap.size, 2, none⟩ (.int .i64 (n : Int)))).heap[w.heap.size]? = some (boxI (.int .i64 0) (.int .i64 0) (.int .i64 0))) := blk_other (p := w1.heap.size) (j := 2) (blk_kept g5 (blk_past q1.out _) (by omega)) (.int .i64 (n : Int)) (by omega); clear k5 g5 hU) | (go_at_call 39; refine (hU2.out _ kF.out).mono ?_; rintro e w8 ⟨rfl, k8, g8⟩; obtain ⟨a0, a1, a2, b0, b1, b2⟩ := blk_facts (blk_kept g8 qF.out (by omega)); have kA : Hid (SR (w8.setCell ⟨w1.heap.size, 1, none⟩ (.int .i64 (m : Int))) r b off cap bs (p + 1 + k + j) bad) := k8.set (by omega) (by omega); have gA : Hid (w.grownBy (w8.setCell ⟨w1.heap.size, 1, none⟩ (.int .i64 (m : Int))) (some r)) := grown_set (gF.out.trans g8) (by omega) _; have qA : Hid (((w8.setCell ⟨w1.heap.size, 1, none⟩ (.int .i64 (m : Int)))).heap[w1.heap.size]? = some (boxI (.int .i64 (o : Int)) (.int .i64 (m : Int)) (.int .i64 (n : Int)))) := (blk_set (blk_kept g8 qF.out (by omega)) (.int .i64 (m : Int))).2.1; have pA : Hid (((w8.setCell ⟨w1.heap.size, 1, none⟩ (.int .i64 (m : Int)))).heap[w.heap.size]? = some (boxI (.int .i64 0) (.int .i64 0) (.int .i64 0))) := blk_other (p := w1.heap.size) (j := 1) (blk_kept g8 pF.out (by omega)) (.int .i64 (m : Int)) (by omega); clear k8 g8 hU2) | (go_at_call 29; refine (hO.out _).mono ?_; rintro e w6 ⟨rfl, b6⟩; have k6 : Hid (SR w6 r b off cap bs (p + 1 + k + j) bad) := kA.out.below b6; have g6 : Hid (w.grownBy w6 (some r)) := grown_bel gA.out b6; have q6 := blk_below b6 qA.out; have p6 := blk_below b6 pA.out; obtain ⟨d0, d1, d2, _, _, _⟩ := blk_facts q6; obtain ⟨e0, e1, e2, e3, e4, e5, e6, e7, e8⟩ := res_facts p6 (.int .i64 (o : Int)) (.int .i64 (m : Int)) (.int .i64 (n : Int)); clear b6 q6 p6 hO))
  refine bodyPost_ret (v := .agg #[.int .i64 (o : Int), .int .i64 (m : Int), .int .i64 (n : Int)]) ?_ rfl ⟨rfl, ?_, ?_⟩
  · simp [results, go_sem, e6, e7, e8]
  · exact (((k6.out).set (by omega) (by omega)).set (by omega) (by omega)).set (by omega) (by omega)
  · exact grown_set (grown_set (grown_set (g6.out) (Nat.le_refl _) _) (Nat.le_refl _) _) (Nat.le_refl _) _
set_option maxHeartbeats 4000000 in
set_option maxRecDepth 20000 in
theorem one3_no2 (r b off cap : Nat) (bs : List UInt8) (p : Nat) (bad : Bool) (w : World) (h : SR w r b off cap bs p bad) (hp : p < bs.length) (hl : bs.length ≤ 1048576) (u : UInt8) (hu : byAt bs p = u) (hop : ¬ opNm (u.toNat : Int) = ⟨#[]⟩) (hk : kd (u.toNat : Int) = 3) (n k : Nat) (hg : gU (bs.drop (p + 1)) = some (n, k)) (hg2 : gU (bs.drop (p + 1 + k)) = none) :
    Calls Tryd.prog 25 #[.pointer (some ⟨r, 0, none⟩)] w fun e w' => (∃ x y z : Int, e = .returned (.agg #[.int .i64 x, .int .i64 y, .int .i64 z])) ∧ (∃ p', SR w' r b off cap bs p' true) ∧ w.grownBy w' (some r) := by
  have hrl := h.isLt
  have hbl := h.lt
  have hN : Hid (Calls Tryd.prog 38 #[.pointer (some ⟨r, 0, none⟩)] (w.alloc (.cells #[.int .i64 0, .int .i64 0, .int .i64 0] 38)) fun e w' => e = .returned (.int .i64 (u.toNat : Int)) ∧ SR w' r b off cap bs (p + 1) bad ∧ (w.alloc (.cells #[.int .i64 0, .int .i64 0, .int .i64 0] 38)).grownBy w' (some r)) := by
    have := byte_yes r b off cap bs p bad _ (h.alloc (.cells #[.int .i64 0, .int .i64 0, .int .i64 0] 38)) hp (by omega)
    rw [hu] at this
    exact this
  have hO : Hid (∀ x, Calls Tryd.prog 29 #[.int .i64 (u.toNat : Int)] x fun e w' => e = .returned (.string (opNm (u.toNat : Int))) ∧ Below x.heap.size x w') := fun x => spec_opName (u.toNat : Int) x
  have hK : Hid (∀ x, Calls Tryd.prog 30 #[.int .i64 (u.toNat : Int)] x fun e w' => e = .returned (.int .i64 3) ∧ x = w') := fun x => by have := spec_kind (u.toNat : Int) x; rw [hk] at this; exact this
  obtain ⟨t63, t64⟩ := kd_not (o := (u.toNat : Int)) (by omega)
  have hU : Hid (∀ x, SR x r b off cap bs (p + 1) bad → Calls Tryd.prog 39 #[.pointer (some ⟨r, 0, none⟩)] x fun e w' => e = .returned (.int .i64 (n : Int)) ∧ SR w' r b off cap bs (p + 1 + k) bad ∧ x.grownBy w' (some r)) := fun x hx => u_yes r b off cap bs (p + 1) bad x hx n k hg (by omega)
  have hU2 : Hid (∀ x, SR x r b off cap bs (p + 1 + k) bad → Calls Tryd.prog 39 #[.pointer (some ⟨r, 0, none⟩)] x fun e w' => e = .returned (.int .i64 0) ∧ SR w' r b off cap bs (p + 1 + k) true ∧ x.grownBy w' (some r)) := fun x hx => u_no r b off cap bs (p + 1 + k) bad x hx hg2 (by omega)
  obtain ⟨n1, n2⟩ := str_nil hop
  have hu8 := u.toNat_lt
  clear h hop hu hg hg2 hk
  generalize opNm (u.toNat : Int) = T at *
  generalize u.toNat = o at *
  go_enter Tryd.func25, Tryd.ntmps25
  go_wp2_with (first | (go_at_call 38; refine hN.out.mono ?_; rintro e w1 ⟨rfl, k1, g1⟩; have k1' : Hid (SR w1 r b off cap bs (p + 1) bad) := k1; have g1' : Hid (w.grownBy w1 (some r)) := (World.grownBy_alloc w _ _).trans g1; have q1 : Hid (w1.heap[w.heap.size]? = some (boxI (.int .i64 0) (.int .i64 0) (.int .i64 0))) := blk_kept g1 (blk_new _ _ _ _) (by omega); have z1 : w.heap.size < w1.heap.size := Nat.lt_of_lt_of_le (by simp) g1.size; clear k1 g1 hN) | (go_at_call 30; refine (hK.out _).mono ?_; rintro e w4 ⟨rfl, rfl⟩; clear hK) | (go_at_call 39; refine (hU.out _ (k1'.out.alloc _)).mono ?_; rintro e w5 ⟨rfl, k5, g5⟩; obtain ⟨c0, c1, c2, f0, f1, f2⟩ := blk_facts (blk_kept g5 (blk_new w1 _ _ _) (by omega)); have kF : Hid (SR (w5.setCell ⟨w1.heap.size, 2, none⟩ (.int .i64 (n : Int))) r b off cap bs (p + 1 + k) bad) := k5.set (by omega) (by omega); have gF : Hid (w.grownBy (w5.setCell ⟨w1.heap.size, 2, none⟩ (.int .i64 (n : Int))) (some r)) := grown_set ((grown_alloc g1'.out _).trans g5) (by omega) _; have qF : Hid (((w5.setCell ⟨w1.heap.size, 2, none⟩ (.int .i64 (n : Int)))).heap[w1.heap.size]? = some (boxI (.int .i64 (o : Int)) (.int .i64 0) (.int .i64 (n : Int)))) := (blk_set (blk_kept g5 (blk_new w1 _ _ _) (by omega)) (.int .i64 (n : Int))).2.2; have pF : Hid (((w5.setCell ⟨w1.heap.size, 2, none⟩ (.int .i64 (n : Int)))).heap[w.heap.size]? = some (boxI (.int .i64 0) (.int .i64 0) (.int .i64 0))) := blk_other (p := w1.heap.size) (j := 2) (blk_kept g5 (blk_past q1.out _) (by omega)) (.int .i64 (n : Int)) (by omega); clear k5 g5 hU) | (go_at_call 39; refine (hU2.out _ kF.out).mono ?_; rintro e w8 ⟨rfl, k8, g8⟩; obtain ⟨a0, a1, a2, b0, b1, b2⟩ := blk_facts (blk_kept g8 qF.out (by omega)); have kA : Hid (SR (w8.setCell ⟨w1.heap.size, 1, none⟩ (.int .i64 0)) r b off cap bs (p + 1 + k) true) := k8.set (by omega) (by omega); have gA : Hid (w.grownBy (w8.setCell ⟨w1.heap.size, 1, none⟩ (.int .i64 0)) (some r)) := grown_set (gF.out.trans g8) (by omega) _; have qA : Hid (((w8.setCell ⟨w1.heap.size, 1, none⟩ (.int .i64 0))).heap[w1.heap.size]? = some (boxI (.int .i64 (o : Int)) (.int .i64 0) (.int .i64 (n : Int)))) := (blk_set (blk_kept g8 qF.out (by omega)) (.int .i64 0)).2.1; have pA : Hid (((w8.setCell ⟨w1.heap.size, 1, none⟩ (.int .i64 0))).heap[w.heap.size]? = some (boxI (.int .i64 0) (.int .i64 0) (.int .i64 0))) := blk_other (p := w1.heap.size) (j := 1) (blk_kept g8 pF.out (by omega)) (.int .i64 0) (by omega); clear k8 g8 hU2) | (go_at_call 29; refine (hO.out _).mono ?_; rintro e w6 ⟨rfl, b6⟩; have k6 : Hid (SR w6 r b off cap bs (p + 1 + k) true) := kA.out.below b6; have g6 : Hid (w.grownBy w6 (some r)) := grown_bel gA.out b6; have q6 := blk_below b6 qA.out; have p6 := blk_below b6 pA.out; obtain ⟨d0, d1, d2, _, _, _⟩ := blk_facts q6; obtain ⟨e0, e1, e2, e3, e4, e5, e6, e7, e8⟩ := res_facts p6 (.int .i64 (o : Int)) (.int .i64 0) (.int .i64 (n : Int)); clear b6 q6 p6 hO))
  refine bodyPost_ret (v := .agg #[.int .i64 (o : Int), .int .i64 0, .int .i64 (n : Int)]) ?_ rfl ⟨⟨_, _, _, rfl⟩, ⟨p + 1 + k, ?_⟩, ?_⟩
  · simp [results, go_sem, e6, e7, e8]
  · exact (((k6.out).set (by omega) (by omega)).set (by omega) (by omega)).set (by omega) (by omega)
  · exact grown_set (grown_set (grown_set (g6.out) (Nat.le_refl _) _) (Nat.le_refl _) _) (Nat.le_refl _) _
set_option maxHeartbeats 4000000 in
set_option maxRecDepth 20000 in
theorem one3_no (r b off cap : Nat) (bs : List UInt8) (p : Nat) (bad : Bool) (w : World) (h : SR w r b off cap bs p bad) (hp : p < bs.length) (hl : bs.length ≤ 1048576) (u : UInt8) (hu : byAt bs p = u) (hop : ¬ opNm (u.toNat : Int) = ⟨#[]⟩) (hk : kd (u.toNat : Int) = 3) (hg : gU (bs.drop (p + 1)) = none) :
    Calls Tryd.prog 25 #[.pointer (some ⟨r, 0, none⟩)] w fun e w' => (∃ x y z : Int, e = .returned (.agg #[.int .i64 x, .int .i64 y, .int .i64 z])) ∧ (∃ p', SR w' r b off cap bs p' true) ∧ w.grownBy w' (some r) := by
  have hrl := h.isLt
  have hbl := h.lt
  have hN : Hid (Calls Tryd.prog 38 #[.pointer (some ⟨r, 0, none⟩)] (w.alloc (.cells #[.int .i64 0, .int .i64 0, .int .i64 0] 38)) fun e w' => e = .returned (.int .i64 (u.toNat : Int)) ∧ SR w' r b off cap bs (p + 1) bad ∧ (w.alloc (.cells #[.int .i64 0, .int .i64 0, .int .i64 0] 38)).grownBy w' (some r)) := by
    have := byte_yes r b off cap bs p bad _ (h.alloc (.cells #[.int .i64 0, .int .i64 0, .int .i64 0] 38)) hp (by omega)
    rw [hu] at this
    exact this
  have hO : Hid (∀ x, Calls Tryd.prog 29 #[.int .i64 (u.toNat : Int)] x fun e w' => e = .returned (.string (opNm (u.toNat : Int))) ∧ Below x.heap.size x w') := fun x => spec_opName (u.toNat : Int) x
  have hK : Hid (∀ x, Calls Tryd.prog 30 #[.int .i64 (u.toNat : Int)] x fun e w' => e = .returned (.int .i64 3) ∧ x = w') := fun x => by have := spec_kind (u.toNat : Int) x; rw [hk] at this; exact this
  obtain ⟨t63, t64⟩ := kd_not (o := (u.toNat : Int)) (by omega)
  have hU : Hid (∀ x, SR x r b off cap bs (p + 1) bad → Calls Tryd.prog 39 #[.pointer (some ⟨r, 0, none⟩)] x fun e w' => e = .returned (.int .i64 0) ∧ SR w' r b off cap bs (p + 1) true ∧ x.grownBy w' (some r)) := fun x hx => u_no r b off cap bs (p + 1) bad x hx hg (by omega)
  have hU2 : Hid (∀ x, SR x r b off cap bs (p + 1) true → Calls Tryd.prog 39 #[.pointer (some ⟨r, 0, none⟩)] x fun e w' => (∃ n : Int, e = .returned (.int .i64 n)) ∧ (∃ p', SR w' r b off cap bs p' true) ∧ x.grownBy w' (some r)) := fun x hx => u_any r b off cap bs (p + 1) x hx (by omega)
  obtain ⟨n1, n2⟩ := str_nil hop
  have hu8 := u.toNat_lt
  clear h hop hu hg hk
  generalize opNm (u.toNat : Int) = T at *
  generalize u.toNat = o at *
  go_enter Tryd.func25, Tryd.ntmps25
  go_wp2_with (first | (go_at_call 38; refine hN.out.mono ?_; rintro e w1 ⟨rfl, k1, g1⟩; have k1' : Hid (SR w1 r b off cap bs (p + 1) bad) := k1; have g1' : Hid (w.grownBy w1 (some r)) := (World.grownBy_alloc w _ _).trans g1; have q1 : Hid (w1.heap[w.heap.size]? = some (boxI (.int .i64 0) (.int .i64 0) (.int .i64 0))) := blk_kept g1 (blk_new _ _ _ _) (by omega); have z1 : w.heap.size < w1.heap.size := Nat.lt_of_lt_of_le (by simp) g1.size; clear k1 g1 hN) | (go_at_call 30; refine (hK.out _).mono ?_; rintro e w4 ⟨rfl, rfl⟩; clear hK) | (go_at_call 39; refine (hU.out _ (k1'.out.alloc _)).mono ?_; rintro e w5 ⟨rfl, k5, g5⟩; obtain ⟨c0, c1, c2, f0, f1, f2⟩ := blk_facts (blk_kept g5 (blk_new w1 _ _ _) (by omega)); have kF : Hid (SR (w5.setCell ⟨w1.heap.size, 2, none⟩ (.int .i64 0)) r b off cap bs (p + 1) true) := k5.set (by omega) (by omega); have gF : Hid (w.grownBy (w5.setCell ⟨w1.heap.size, 2, none⟩ (.int .i64 0)) (some r)) := grown_set ((grown_alloc g1'.out _).trans g5) (by omega) _; have qF : Hid (((w5.setCell ⟨w1.heap.size, 2, none⟩ (.int .i64 0))).heap[w1.heap.size]? = some (boxI (.int .i64 (o : Int)) (.int .i64 0) (.int .i64 0))) := (blk_set (blk_kept g5 (blk_new w1 _ _ _) (by omega)) (.int .i64 0)).2.2; have pF : Hid (((w5.setCell ⟨w1.heap.size, 2, none⟩ (.int .i64 0))).heap[w.heap.size]? = some (boxI (.int .i64 0) (.int .i64 0) (.int .i64 0))) := blk_other (p := w1.heap.size) (j := 2) (blk_kept g5 (blk_past q1.out _) (by omega)) (.int .i64 0) (by omega); clear k5 g5 hU) | (go_at_call 39; refine (hU2.out _ kF.out).mono ?_; rintro e w8 ⟨⟨x8, rfl⟩, ⟨p8, k8⟩, g8⟩; obtain ⟨a0, a1, a2, b0, b1, b2⟩ := blk_facts (blk_kept g8 qF.out (by omega)); have kA : Hid (SR (w8.setCell ⟨w1.heap.size, 1, none⟩ (.int .i64 x8)) r b off cap bs p8 true) := k8.set (by omega) (by omega); have gA : Hid (w.grownBy (w8.setCell ⟨w1.heap.size, 1, none⟩ (.int .i64 x8)) (some r)) := grown_set (gF.out.trans g8) (by omega) _; have qA : Hid (((w8.setCell ⟨w1.heap.size, 1, none⟩ (.int .i64 x8))).heap[w1.heap.size]? = some (boxI (.int .i64 (o : Int)) (.int .i64 x8) (.int .i64 0))) := (blk_set (blk_kept g8 qF.out (by omega)) (.int .i64 x8)).2.1; have pA : Hid (((w8.setCell ⟨w1.heap.size, 1, none⟩ (.int .i64 x8))).heap[w.heap.size]? = some (boxI (.int .i64 0) (.int .i64 0) (.int .i64 0))) := blk_other (p := w1.heap.size) (j := 1) (blk_kept g8 pF.out (by omega)) (.int .i64 x8) (by omega); clear k8 g8 hU2) | (go_at_call 29; refine (hO.out _).mono ?_; rintro e w6 ⟨rfl, b6⟩; have k6 : Hid (SR w6 r b off cap bs p8 true) := kA.out.below b6; have g6 : Hid (w.grownBy w6 (some r)) := grown_bel gA.out b6; have q6 := blk_below b6 qA.out; have p6 := blk_below b6 pA.out; obtain ⟨d0, d1, d2, _, _, _⟩ := blk_facts q6; obtain ⟨e0, e1, e2, e3, e4, e5, e6, e7, e8⟩ := res_facts p6 (.int .i64 (o : Int)) (.int .i64 x8) (.int .i64 0); clear b6 q6 p6 hO))
  refine bodyPost_ret (v := .agg #[.int .i64 (o : Int), .int .i64 x8, .int .i64 0]) ?_ rfl ⟨⟨_, _, _, rfl⟩, ⟨p8, ?_⟩, ?_⟩
  · simp [results, go_sem, e6, e7, e8]
  · exact (((k6.out).set (by omega) (by omega)).set (by omega) (by omega)).set (by omega) (by omega)
  · exact grown_set (grown_set (grown_set (g6.out) (Nat.le_refl _) _) (Nat.le_refl _) _) (Nat.le_refl _) _
set_option maxHeartbeats 4000000 in
set_option maxRecDepth 20000 in
theorem one1_0 (r b off cap : Nat) (bs : List UInt8) (p : Nat) (bad : Bool) (w : World) (h : SR w r b off cap bs p bad) (hp : p < bs.length) (hl : bs.length ≤ 1048576) (u : UInt8) (hu : byAt bs p = u) (hop : ¬ opNm (u.toNat : Int) = ⟨#[]⟩) (hk : kd (u.toNat : Int) = 1) (hp1 : p + 1 < bs.length) (hx0 : byAt bs (p + 1) = 64) :
    Calls Tryd.prog 25 #[.pointer (some ⟨r, 0, none⟩)] w fun e w' => e = .returned (.agg #[.int .i64 (u.toNat : Int), .int .i64 0, .int .i64 0]) ∧ SR w' r b off cap bs (p + 1 + 1) bad ∧ w.grownBy w' (some r) := by
  have hrl := h.isLt
  have hbl := h.lt
  have hN : Hid (Calls Tryd.prog 38 #[.pointer (some ⟨r, 0, none⟩)] (w.alloc (.cells #[.int .i64 0, .int .i64 0, .int .i64 0] 38)) fun e w' => e = .returned (.int .i64 (u.toNat : Int)) ∧ SR w' r b off cap bs (p + 1) bad ∧ (w.alloc (.cells #[.int .i64 0, .int .i64 0, .int .i64 0] 38)).grownBy w' (some r)) := by
    have := byte_yes r b off cap bs p bad _ (h.alloc (.cells #[.int .i64 0, .int .i64 0, .int .i64 0] 38)) hp (by omega)
    rw [hu] at this
    exact this
  have hO : Hid (∀ x, Calls Tryd.prog 29 #[.int .i64 (u.toNat : Int)] x fun e w' => e = .returned (.string (opNm (u.toNat : Int))) ∧ Below x.heap.size x w') := fun x => spec_opName (u.toNat : Int) x
  have hK : Hid (∀ x, Calls Tryd.prog 30 #[.int .i64 (u.toNat : Int)] x fun e w' => e = .returned (.int .i64 1) ∧ x = w') := fun x => by have := spec_kind (u.toNat : Int) x; rw [hk] at this; exact this
  obtain ⟨t63, t64⟩ := kd_not (o := (u.toNat : Int)) (by omega)
  have hU : Hid (∀ x, SR x r b off cap bs (p + 1) bad → Calls Tryd.prog 38 #[.pointer (some ⟨r, 0, none⟩)] x fun e w' => e = .returned (.int .i64 64) ∧ SR w' r b off cap bs (p + 1 + 1) bad ∧ x.grownBy w' (some r)) := fun x hx => by have := byte_yes r b off cap bs (p + 1) bad x hx hp1 (by omega); rw [hx0] at this; exact this
  obtain ⟨n1, n2⟩ := str_nil hop
  have hu8 := u.toNat_lt
  clear h hop hu hx0 hk
  generalize opNm (u.toNat : Int) = T at *
  generalize u.toNat = o at *
  go_enter Tryd.func25, Tryd.ntmps25
  go_wp2_with (first | (go_at_call 38; refine hN.out.mono ?_; rintro e w1 ⟨rfl, k1, g1⟩; have k1' : Hid (SR w1 r b off cap bs (p + 1) bad) := k1; have g1' : Hid (w.grownBy w1 (some r)) := (World.grownBy_alloc w _ _).trans g1; have q1 : Hid (w1.heap[w.heap.size]? = some (boxI (.int .i64 0) (.int .i64 0) (.int .i64 0))) := blk_kept g1 (blk_new _ _ _ _) (by omega); have z1 : w.heap.size < w1.heap.size := Nat.lt_of_lt_of_le (by simp) g1.size; clear k1 g1 hN) | (go_at_call 30; refine (hK.out _).mono ?_; rintro e w4 ⟨rfl, rfl⟩; clear hK) | (go_at_call 38; refine (hU.out _ (k1'.out.alloc _)).mono ?_; rintro e w5 ⟨rfl, k5, g5⟩; have kA : Hid (SR w5 r b off cap bs (p + 1 + 1) bad) := k5; have gA : Hid (w.grownBy w5 (some r)) := (grown_alloc g1'.out _).trans g5; have qA : Hid ((w5).heap[w1.heap.size]? = some (boxI (.int .i64 (o : Int)) (.int .i64 0) (.int .i64 0))) := blk_kept g5 (blk_new w1 _ _ _) (by omega); have pA : Hid ((w5).heap[w.heap.size]? = some (boxI (.int .i64 0) (.int .i64 0) (.int .i64 0))) := blk_kept g5 (blk_past q1.out _) (by omega); obtain ⟨c0, c1, c2, f0, f1, f2⟩ := blk_facts qA.out; clear k5 g5 hU) | (go_at_call 29; refine (hO.out _).mono ?_; rintro e w6 ⟨rfl, b6⟩; have k6 : Hid (SR w6 r b off cap bs (p + 1 + 1) bad) := kA.out.below b6; have g6 : Hid (w.grownBy w6 (some r)) := grown_bel gA.out b6; have q6 := blk_below b6 qA.out; have p6 := blk_below b6 pA.out; obtain ⟨d0, d1, d2, _, _, _⟩ := blk_facts q6; obtain ⟨e0, e1, e2, e3, e4, e5, e6, e7, e8⟩ := res_facts p6 (.int .i64 (o : Int)) (.int .i64 0) (.int .i64 0); clear b6 q6 p6 hO))
  refine bodyPost_ret (v := .agg #[.int .i64 (o : Int), .int .i64 0, .int .i64 0]) ?_ rfl ⟨rfl, ?_, ?_⟩
  · simp [results, go_sem, e6, e7, e8]
  · exact (((k6.out).set (by omega) (by omega)).set (by omega) (by omega)).set (by omega) (by omega)
  · exact grown_set (grown_set (grown_set (g6.out) (Nat.le_refl _) _) (Nat.le_refl _) _) (Nat.le_refl _) _
set_option maxHeartbeats 4000000 in
set_option maxRecDepth 20000 in
theorem one1_1 (r b off cap : Nat) (bs : List UInt8) (p : Nat) (bad : Bool) (w : World) (h : SR w r b off cap bs p bad) (hp : p < bs.length) (hl : bs.length ≤ 1048576) (u : UInt8) (hu : byAt bs p = u) (hop : ¬ opNm (u.toNat : Int) = ⟨#[]⟩) (hk : kd (u.toNat : Int) = 1) (hp1 : p + 1 < bs.length) (hx0 : byAt bs (p + 1) = 127) :
    Calls Tryd.prog 25 #[.pointer (some ⟨r, 0, none⟩)] w fun e w' => e = .returned (.agg #[.int .i64 (u.toNat : Int), .int .i64 1, .int .i64 0]) ∧ SR w' r b off cap bs (p + 1 + 1) bad ∧ w.grownBy w' (some r) := by
  have hrl := h.isLt
  have hbl := h.lt
  have hN : Hid (Calls Tryd.prog 38 #[.pointer (some ⟨r, 0, none⟩)] (w.alloc (.cells #[.int .i64 0, .int .i64 0, .int .i64 0] 38)) fun e w' => e = .returned (.int .i64 (u.toNat : Int)) ∧ SR w' r b off cap bs (p + 1) bad ∧ (w.alloc (.cells #[.int .i64 0, .int .i64 0, .int .i64 0] 38)).grownBy w' (some r)) := by
    have := byte_yes r b off cap bs p bad _ (h.alloc (.cells #[.int .i64 0, .int .i64 0, .int .i64 0] 38)) hp (by omega)
    rw [hu] at this
    exact this
  have hO : Hid (∀ x, Calls Tryd.prog 29 #[.int .i64 (u.toNat : Int)] x fun e w' => e = .returned (.string (opNm (u.toNat : Int))) ∧ Below x.heap.size x w') := fun x => spec_opName (u.toNat : Int) x
  have hK : Hid (∀ x, Calls Tryd.prog 30 #[.int .i64 (u.toNat : Int)] x fun e w' => e = .returned (.int .i64 1) ∧ x = w') := fun x => by have := spec_kind (u.toNat : Int) x; rw [hk] at this; exact this
  obtain ⟨t63, t64⟩ := kd_not (o := (u.toNat : Int)) (by omega)
  have hU : Hid (∀ x, SR x r b off cap bs (p + 1) bad → Calls Tryd.prog 38 #[.pointer (some ⟨r, 0, none⟩)] x fun e w' => e = .returned (.int .i64 127) ∧ SR w' r b off cap bs (p + 1 + 1) bad ∧ x.grownBy w' (some r)) := fun x hx => by have := byte_yes r b off cap bs (p + 1) bad x hx hp1 (by omega); rw [hx0] at this; exact this
  obtain ⟨n1, n2⟩ := str_nil hop
  have hu8 := u.toNat_lt
  clear h hop hu hx0 hk
  generalize opNm (u.toNat : Int) = T at *
  generalize u.toNat = o at *
  go_enter Tryd.func25, Tryd.ntmps25
  go_wp2_with (first | (go_at_call 38; refine hN.out.mono ?_; rintro e w1 ⟨rfl, k1, g1⟩; have k1' : Hid (SR w1 r b off cap bs (p + 1) bad) := k1; have g1' : Hid (w.grownBy w1 (some r)) := (World.grownBy_alloc w _ _).trans g1; have q1 : Hid (w1.heap[w.heap.size]? = some (boxI (.int .i64 0) (.int .i64 0) (.int .i64 0))) := blk_kept g1 (blk_new _ _ _ _) (by omega); have z1 : w.heap.size < w1.heap.size := Nat.lt_of_lt_of_le (by simp) g1.size; clear k1 g1 hN) | (go_at_call 30; refine (hK.out _).mono ?_; rintro e w4 ⟨rfl, rfl⟩; clear hK) | (go_at_call 38; refine (hU.out _ (k1'.out.alloc _)).mono ?_; rintro e w5 ⟨rfl, k5, g5⟩; obtain ⟨c0, c1, c2, f0, f1, f2⟩ := blk_facts (blk_kept g5 (blk_new w1 _ _ _) (by omega)); have kA : Hid (SR (w5.setCell ⟨w1.heap.size, 1, none⟩ (.int .i64 1)) r b off cap bs (p + 1 + 1) bad) := k5.set (by omega) (by omega); have gA : Hid (w.grownBy (w5.setCell ⟨w1.heap.size, 1, none⟩ (.int .i64 1)) (some r)) := grown_set ((grown_alloc g1'.out _).trans g5) (by omega) _; have qA : Hid (((w5.setCell ⟨w1.heap.size, 1, none⟩ (.int .i64 1))).heap[w1.heap.size]? = some (boxI (.int .i64 (o : Int)) (.int .i64 1) (.int .i64 0))) := (blk_set (blk_kept g5 (blk_new w1 _ _ _) (by omega)) (.int .i64 1)).2.1; have pA : Hid (((w5.setCell ⟨w1.heap.size, 1, none⟩ (.int .i64 1))).heap[w.heap.size]? = some (boxI (.int .i64 0) (.int .i64 0) (.int .i64 0))) := blk_other (p := w1.heap.size) (j := 1) (blk_kept g5 (blk_past q1.out _) (by omega)) (.int .i64 1) (by omega); clear k5 g5 hU) | (go_at_call 29; refine (hO.out _).mono ?_; rintro e w6 ⟨rfl, b6⟩; have k6 : Hid (SR w6 r b off cap bs (p + 1 + 1) bad) := kA.out.below b6; have g6 : Hid (w.grownBy w6 (some r)) := grown_bel gA.out b6; have q6 := blk_below b6 qA.out; have p6 := blk_below b6 pA.out; obtain ⟨d0, d1, d2, _, _, _⟩ := blk_facts q6; obtain ⟨e0, e1, e2, e3, e4, e5, e6, e7, e8⟩ := res_facts p6 (.int .i64 (o : Int)) (.int .i64 1) (.int .i64 0); clear b6 q6 p6 hO))
  refine bodyPost_ret (v := .agg #[.int .i64 (o : Int), .int .i64 1, .int .i64 0]) ?_ rfl ⟨rfl, ?_, ?_⟩
  · simp [results, go_sem, e6, e7, e8]
  · exact (((k6.out).set (by omega) (by omega)).set (by omega) (by omega)).set (by omega) (by omega)
  · exact grown_set (grown_set (grown_set (g6.out) (Nat.le_refl _) _) (Nat.le_refl _) _) (Nat.le_refl _) _
set_option maxHeartbeats 4000000 in
set_option maxRecDepth 20000 in
theorem one1_no (r b off cap : Nat) (bs : List UInt8) (p : Nat) (bad : Bool) (w : World) (h : SR w r b off cap bs p bad) (hp : p < bs.length) (hl : bs.length ≤ 1048576) (u : UInt8) (hu : byAt bs p = u) (hop : ¬ opNm (u.toNat : Int) = ⟨#[]⟩) (hk : kd (u.toNat : Int) = 1) (x0 : UInt8) (hp1 : p + 1 < bs.length) (hx0 : byAt bs (p + 1) = x0) (h64 : ¬ x0 = 64) (h127 : ¬ x0 = 127) :
    Calls Tryd.prog 25 #[.pointer (some ⟨r, 0, none⟩)] w fun e w' => (∃ x y z : Int, e = .returned (.agg #[.int .i64 x, .int .i64 y, .int .i64 z])) ∧ (∃ p', SR w' r b off cap bs p' true) ∧ w.grownBy w' (some r) := by
  have hrl := h.isLt
  have hbl := h.lt
  have hN : Hid (Calls Tryd.prog 38 #[.pointer (some ⟨r, 0, none⟩)] (w.alloc (.cells #[.int .i64 0, .int .i64 0, .int .i64 0] 38)) fun e w' => e = .returned (.int .i64 (u.toNat : Int)) ∧ SR w' r b off cap bs (p + 1) bad ∧ (w.alloc (.cells #[.int .i64 0, .int .i64 0, .int .i64 0] 38)).grownBy w' (some r)) := by
    have := byte_yes r b off cap bs p bad _ (h.alloc (.cells #[.int .i64 0, .int .i64 0, .int .i64 0] 38)) hp (by omega)
    rw [hu] at this
    exact this
  have hO : Hid (∀ x, Calls Tryd.prog 29 #[.int .i64 (u.toNat : Int)] x fun e w' => e = .returned (.string (opNm (u.toNat : Int))) ∧ Below x.heap.size x w') := fun x => spec_opName (u.toNat : Int) x
  have hK : Hid (∀ x, Calls Tryd.prog 30 #[.int .i64 (u.toNat : Int)] x fun e w' => e = .returned (.int .i64 1) ∧ x = w') := fun x => by have := spec_kind (u.toNat : Int) x; rw [hk] at this; exact this
  obtain ⟨t63, t64⟩ := kd_not (o := (u.toNat : Int)) (by omega)
  have hU : Hid (∀ x, SR x r b off cap bs (p + 1) bad → Calls Tryd.prog 38 #[.pointer (some ⟨r, 0, none⟩)] x fun e w' => e = .returned (.int .i64 (x0.toNat : Int)) ∧ SR w' r b off cap bs (p + 1 + 1) bad ∧ x.grownBy w' (some r)) := fun x hx => by have := byte_yes r b off cap bs (p + 1) bad x hx hp1 (by omega); rw [hx0] at this; exact this
  have t1 : ((x0.toNat : Int) == 64) = false := by rw [beq_eq_false_iff_ne]; intro e; exact h64 (UInt8.toNat_inj.1 (by show x0.toNat = 64; omega))
  have t2 : ((x0.toNat : Int) == 127) = false := by rw [beq_eq_false_iff_ne]; intro e; exact h127 (UInt8.toNat_inj.1 (by show x0.toNat = 127; omega))
  obtain ⟨n1, n2⟩ := str_nil hop
  have hu8 := u.toNat_lt
  clear h hop hu hx0 hk h64 h127
  generalize opNm (u.toNat : Int) = T at *
  generalize u.toNat = o at *
  generalize (x0.toNat : Int) = y at *
  go_enter Tryd.func25, Tryd.ntmps25
  go_wp2_with (first | (go_at_call 38; refine hN.out.mono ?_; rintro e w1 ⟨rfl, k1, g1⟩; have k1' : Hid (SR w1 r b off cap bs (p + 1) bad) := k1; have g1' : Hid (w.grownBy w1 (some r)) := (World.grownBy_alloc w _ _).trans g1; have q1 : Hid (w1.heap[w.heap.size]? = some (boxI (.int .i64 0) (.int .i64 0) (.int .i64 0))) := blk_kept g1 (blk_new _ _ _ _) (by omega); have z1 : w.heap.size < w1.heap.size := Nat.lt_of_lt_of_le (by simp) g1.size; clear k1 g1 hN) | (go_at_call 30; refine (hK.out _).mono ?_; rintro e w4 ⟨rfl, rfl⟩; clear hK) | (go_at_call 38; refine (hU.out _ (k1'.out.alloc _)).mono ?_; rintro e w5 ⟨rfl, k5, g5⟩; obtain ⟨y0, y1, y2, y3, y4⟩ := k5.facts; have kA : Hid (SR (w5.setCell ⟨r, 2, none⟩ (.bool true)) r b off cap bs (p + 1 + 1) true) := k5.spoil; have gA : Hid (w.grownBy (w5.setCell ⟨r, 2, none⟩ (.bool true)) (some r)) := grown_setr ((grown_alloc g1'.out _).trans g5) _; have qA : Hid (((w5.setCell ⟨r, 2, none⟩ (.bool true))).heap[w1.heap.size]? = some (boxI (.int .i64 (o : Int)) (.int .i64 0) (.int .i64 0))) := blk_other (p := r) (j := 2) (blk_kept g5 (blk_new w1 _ _ _) (by omega)) (.bool true) (by omega); have pA : Hid (((w5.setCell ⟨r, 2, none⟩ (.bool true))).heap[w.heap.size]? = some (boxI (.int .i64 0) (.int .i64 0) (.int .i64 0))) := blk_other (p := r) (j := 2) (blk_kept g5 (blk_past q1.out _) (by omega)) (.bool true) (by omega); obtain ⟨c0, c1, c2, f0, f1, f2⟩ := blk_facts qA.out; clear k5 g5 hU) | (go_at_call 29; refine (hO.out _).mono ?_; rintro e w6 ⟨rfl, b6⟩; have k6 : Hid (SR w6 r b off cap bs (p + 1 + 1) true) := kA.out.below b6; have g6 : Hid (w.grownBy w6 (some r)) := grown_bel gA.out b6; have q6 := blk_below b6 qA.out; have p6 := blk_below b6 pA.out; obtain ⟨d0, d1, d2, _, _, _⟩ := blk_facts q6; obtain ⟨e0, e1, e2, e3, e4, e5, e6, e7, e8⟩ := res_facts p6 (.int .i64 (o : Int)) (.int .i64 0) (.int .i64 0); clear b6 q6 p6 hO))
  refine bodyPost_ret (v := .agg #[.int .i64 (o : Int), .int .i64 0, .int .i64 0]) ?_ rfl ⟨⟨_, _, _, rfl⟩, ⟨p + 1 + 1, ?_⟩, ?_⟩
  · simp [results, go_sem, e6, e7, e8]
  · exact (((k6.out).set (by omega) (by omega)).set (by omega) (by omega)).set (by omega) (by omega)
  · exact grown_set (grown_set (grown_set (g6.out) (Nat.le_refl _) _) (Nat.le_refl _) _) (Nat.le_refl _) _
set_option maxHeartbeats 4000000 in
set_option maxRecDepth 20000 in
theorem one1_end (r b off cap : Nat) (bs : List UInt8) (p : Nat) (bad : Bool) (w : World) (h : SR w r b off cap bs p bad) (hp : p < bs.length) (hl : bs.length ≤ 1048576) (u : UInt8) (hu : byAt bs p = u) (hop : ¬ opNm (u.toNat : Int) = ⟨#[]⟩) (hk : kd (u.toNat : Int) = 1) (hp1 : p + 1 = bs.length) :
    Calls Tryd.prog 25 #[.pointer (some ⟨r, 0, none⟩)] w fun e w' => (∃ x y z : Int, e = .returned (.agg #[.int .i64 x, .int .i64 y, .int .i64 z])) ∧ (∃ p', SR w' r b off cap bs p' true) ∧ w.grownBy w' (some r) := by
  have hrl := h.isLt
  have hbl := h.lt
  have hN : Hid (Calls Tryd.prog 38 #[.pointer (some ⟨r, 0, none⟩)] (w.alloc (.cells #[.int .i64 0, .int .i64 0, .int .i64 0] 38)) fun e w' => e = .returned (.int .i64 (u.toNat : Int)) ∧ SR w' r b off cap bs (p + 1) bad ∧ (w.alloc (.cells #[.int .i64 0, .int .i64 0, .int .i64 0] 38)).grownBy w' (some r)) := by
    have := byte_yes r b off cap bs p bad _ (h.alloc (.cells #[.int .i64 0, .int .i64 0, .int .i64 0] 38)) hp (by omega)
    rw [hu] at this
    exact this
  have hO : Hid (∀ x, Calls Tryd.prog 29 #[.int .i64 (u.toNat : Int)] x fun e w' => e = .returned (.string (opNm (u.toNat : Int))) ∧ Below x.heap.size x w') := fun x => spec_opName (u.toNat : Int) x
  have hK : Hid (∀ x, Calls Tryd.prog 30 #[.int .i64 (u.toNat : Int)] x fun e w' => e = .returned (.int .i64 1) ∧ x = w') := fun x => by have := spec_kind (u.toNat : Int) x; rw [hk] at this; exact this
  obtain ⟨t63, t64⟩ := kd_not (o := (u.toNat : Int)) (by omega)
  have hU : Hid (∀ x, SR x r b off cap bs (p + 1) bad → Calls Tryd.prog 38 #[.pointer (some ⟨r, 0, none⟩)] x fun e w' => e = .returned (.int .i64 0) ∧ SR w' r b off cap bs (p + 1) true ∧ x.grownBy w' (some r)) := fun x hx => byte_no r b off cap bs (p + 1) bad x hx hp1
  obtain ⟨n1, n2⟩ := str_nil hop
  have hu8 := u.toNat_lt
  clear h hop hu hk hp1
  generalize opNm (u.toNat : Int) = T at *
  generalize u.toNat = o at *
  go_enter Tryd.func25, Tryd.ntmps25
  go_wp2_with (first | (go_at_call 38; refine hN.out.mono ?_; rintro e w1 ⟨rfl, k1, g1⟩; have k1' : Hid (SR w1 r b off cap bs (p + 1) bad) := k1; have g1' : Hid (w.grownBy w1 (some r)) := (World.grownBy_alloc w _ _).trans g1; have q1 : Hid (w1.heap[w.heap.size]? = some (boxI (.int .i64 0) (.int .i64 0) (.int .i64 0))) := blk_kept g1 (blk_new _ _ _ _) (by omega); have z1 : w.heap.size < w1.heap.size := Nat.lt_of_lt_of_le (by simp) g1.size; clear k1 g1 hN) | (go_at_call 30; refine (hK.out _).mono ?_; rintro e w4 ⟨rfl, rfl⟩; clear hK) | (go_at_call 38; refine (hU.out _ (k1'.out.alloc _)).mono ?_; rintro e w5 ⟨rfl, k5, g5⟩; obtain ⟨y0, y1, y2, y3, y4⟩ := k5.facts; have kA : Hid (SR (w5.setCell ⟨r, 2, none⟩ (.bool true)) r b off cap bs (p + 1) true) := k5.spoil; have gA : Hid (w.grownBy (w5.setCell ⟨r, 2, none⟩ (.bool true)) (some r)) := grown_setr ((grown_alloc g1'.out _).trans g5) _; have qA : Hid (((w5.setCell ⟨r, 2, none⟩ (.bool true))).heap[w1.heap.size]? = some (boxI (.int .i64 (o : Int)) (.int .i64 0) (.int .i64 0))) := blk_other (p := r) (j := 2) (blk_kept g5 (blk_new w1 _ _ _) (by omega)) (.bool true) (by omega); have pA : Hid (((w5.setCell ⟨r, 2, none⟩ (.bool true))).heap[w.heap.size]? = some (boxI (.int .i64 0) (.int .i64 0) (.int .i64 0))) := blk_other (p := r) (j := 2) (blk_kept g5 (blk_past q1.out _) (by omega)) (.bool true) (by omega); obtain ⟨c0, c1, c2, f0, f1, f2⟩ := blk_facts qA.out; clear k5 g5 hU) | (go_at_call 29; refine (hO.out _).mono ?_; rintro e w6 ⟨rfl, b6⟩; have k6 : Hid (SR w6 r b off cap bs (p + 1) true) := kA.out.below b6; have g6 : Hid (w.grownBy w6 (some r)) := grown_bel gA.out b6; have q6 := blk_below b6 qA.out; have p6 := blk_below b6 pA.out; obtain ⟨d0, d1, d2, _, _, _⟩ := blk_facts q6; obtain ⟨e0, e1, e2, e3, e4, e5, e6, e7, e8⟩ := res_facts p6 (.int .i64 (o : Int)) (.int .i64 0) (.int .i64 0); clear b6 q6 p6 hO))
  refine bodyPost_ret (v := .agg #[.int .i64 (o : Int), .int .i64 0, .int .i64 0]) ?_ rfl ⟨⟨_, _, _, rfl⟩, ⟨p + 1, ?_⟩, ?_⟩
  · simp [results, go_sem, e6, e7, e8]
  · exact (((k6.out).set (by omega) (by omega)).set (by omega) (by omega)).set (by omega) (by omega)
  · exact grown_set (grown_set (grown_set (g6.out) (Nat.le_refl _) _) (Nat.le_refl _) _) (Nat.le_refl _) _
set_option maxHeartbeats 4000000 in
set_option maxRecDepth 20000 in
theorem one5 (r b off cap : Nat) (bs : List UInt8) (p : Nat) (bad : Bool) (w : World) (h : SR w r b off cap bs p bad) (hp : p < bs.length) (hl : bs.length ≤ 1048576) (u : UInt8) (hu : byAt bs p = u) (hop : ¬ opNm (u.toNat : Int) = ⟨#[]⟩) (hk : kd (u.toNat : Int) = 0) (ho : (u.toNat : Int) = 63 ∨ (u.toNat : Int) = 64) (hp1 : p + 1 < bs.length) (hx0 : ((byAt bs (p + 1)).toNat : Int) = 0) :
    Calls Tryd.prog 25 #[.pointer (some ⟨r, 0, none⟩)] w fun e w' => e = .returned (.agg #[.int .i64 (u.toNat : Int), .int .i64 0, .int .i64 0]) ∧ SR w' r b off cap bs (p + 1 + 1) bad ∧ w.grownBy w' (some r) := by
  have hrl := h.isLt
  have hbl := h.lt
  have hN : Hid (Calls Tryd.prog 38 #[.pointer (some ⟨r, 0, none⟩)] (w.alloc (.cells #[.int .i64 0, .int .i64 0, .int .i64 0] 38)) fun e w' => e = .returned (.int .i64 (u.toNat : Int)) ∧ SR w' r b off cap bs (p + 1) bad ∧ (w.alloc (.cells #[.int .i64 0, .int .i64 0, .int .i64 0] 38)).grownBy w' (some r)) := by
    have := byte_yes r b off cap bs p bad _ (h.alloc (.cells #[.int .i64 0, .int .i64 0, .int .i64 0] 38)) hp (by omega)
    rw [hu] at this
    exact this
  have hO : Hid (∀ x, Calls Tryd.prog 29 #[.int .i64 (u.toNat : Int)] x fun e w' => e = .returned (.string (opNm (u.toNat : Int))) ∧ Below x.heap.size x w') := fun x => spec_opName (u.toNat : Int) x
  have hK : Hid (∀ x, Calls Tryd.prog 30 #[.int .i64 (u.toNat : Int)] x fun e w' => e = .returned (.int .i64 0) ∧ x = w') := fun x => by have := spec_kind (u.toNat : Int) x; rw [hk] at this; exact this
  have hbb : (((u.toNat : Int) == 63) = true) ∨ (((u.toNat : Int) == 63) = false ∧ ((u.toNat : Int) == 64) = true) := by
    rcases ho with e | e
    · exact .inl (by simp [e])
    · exact .inr ⟨by simp [e], by simp [e]⟩
  have hU : Hid (∀ x, SR x r b off cap bs (p + 1) bad → Calls Tryd.prog 41 #[.pointer (some ⟨r, 0, none⟩), .int .i64 0] x fun e w' => e = .returned (.tuple #[]) ∧ SR w' r b off cap bs (p + 1 + 1) bad ∧ x.grownBy w' (some r)) := fun x hx => must_yes r b off cap bs (p + 1) bad 0 x hx hp1 hx0 (by omega)
  obtain ⟨n1, n2⟩ := str_nil hop
  have hu8 := u.toNat_lt
  clear h hop hu hx0 hk ho
  generalize opNm (u.toNat : Int) = T at *
  generalize u.toNat = o at *
  rcases hbb with t63 | ⟨t63, t64⟩
  all_goals
    go_enter Tryd.func25, Tryd.ntmps25
    go_wp2_with (first | (go_at_call 38; refine hN.out.mono ?_; rintro e w1 ⟨rfl, k1, g1⟩; have k1' : Hid (SR w1 r b off cap bs (p + 1) bad) := k1; have g1' : Hid (w.grownBy w1 (some r)) := (World.grownBy_alloc w _ _).trans g1; have q1 : Hid (w1.heap[w.heap.size]? = some (boxI (.int .i64 0) (.int .i64 0) (.int .i64 0))) := blk_kept g1 (blk_new _ _ _ _) (by omega); have z1 : w.heap.size < w1.heap.size := Nat.lt_of_lt_of_le (by simp) g1.size; clear k1 g1 hN) | (go_at_call 30; refine (hK.out _).mono ?_; rintro e w4 ⟨rfl, rfl⟩; clear hK) | (go_at_call 41; refine (hU.out _ (k1'.out.alloc _)).mono ?_; rintro e w5 ⟨rfl, k5, g5⟩; have kA : Hid (SR w5 r b off cap bs (p + 1 + 1) bad) := k5; have gA : Hid (w.grownBy w5 (some r)) := (grown_alloc g1'.out _).trans g5; have qA : Hid ((w5).heap[w1.heap.size]? = some (boxI (.int .i64 (o : Int)) (.int .i64 0) (.int .i64 0))) := blk_kept g5 (blk_new w1 _ _ _) (by omega); have pA : Hid ((w5).heap[w.heap.size]? = some (boxI (.int .i64 0) (.int .i64 0) (.int .i64 0))) := blk_kept g5 (blk_past q1.out _) (by omega); obtain ⟨c0, c1, c2, f0, f1, f2⟩ := blk_facts qA.out; clear k5 g5 hU) | (go_at_call 29; refine (hO.out _).mono ?_; rintro e w6 ⟨rfl, b6⟩; have k6 : Hid (SR w6 r b off cap bs (p + 1 + 1) bad) := kA.out.below b6; have g6 : Hid (w.grownBy w6 (some r)) := grown_bel gA.out b6; have q6 := blk_below b6 qA.out; have p6 := blk_below b6 pA.out; obtain ⟨d0, d1, d2, _, _, _⟩ := blk_facts q6; obtain ⟨e0, e1, e2, e3, e4, e5, e6, e7, e8⟩ := res_facts p6 (.int .i64 (o : Int)) (.int .i64 0) (.int .i64 0); clear b6 q6 p6 hO))
    refine bodyPost_ret (v := .agg #[.int .i64 (o : Int), .int .i64 0, .int .i64 0]) ?_ rfl ⟨rfl, ?_, ?_⟩
    · simp [results, go_sem, e6, e7, e8]
    · exact (((k6.out).set (by omega) (by omega)).set (by omega) (by omega)).set (by omega) (by omega)
    · exact grown_set (grown_set (grown_set (g6.out) (Nat.le_refl _) _) (Nat.le_refl _) _) (Nat.le_refl _) _
set_option maxHeartbeats 4000000 in
set_option maxRecDepth 20000 in
theorem one5_no (r b off cap : Nat) (bs : List UInt8) (p : Nat) (bad : Bool) (w : World) (h : SR w r b off cap bs p bad) (hp : p < bs.length) (hl : bs.length ≤ 1048576) (u : UInt8) (hu : byAt bs p = u) (hop : ¬ opNm (u.toNat : Int) = ⟨#[]⟩) (hk : kd (u.toNat : Int) = 0) (ho : (u.toNat : Int) = 63 ∨ (u.toNat : Int) = 64) (hx0 : p + 1 < bs.length → ((byAt bs (p + 1)).toNat : Int) ≠ 0) :
    Calls Tryd.prog 25 #[.pointer (some ⟨r, 0, none⟩)] w fun e w' => (∃ x y z : Int, e = .returned (.agg #[.int .i64 x, .int .i64 y, .int .i64 z])) ∧ (∃ p', SR w' r b off cap bs p' true) ∧ w.grownBy w' (some r) := by
  have hrl := h.isLt
  have hbl := h.lt
  have hN : Hid (Calls Tryd.prog 38 #[.pointer (some ⟨r, 0, none⟩)] (w.alloc (.cells #[.int .i64 0, .int .i64 0, .int .i64 0] 38)) fun e w' => e = .returned (.int .i64 (u.toNat : Int)) ∧ SR w' r b off cap bs (p + 1) bad ∧ (w.alloc (.cells #[.int .i64 0, .int .i64 0, .int .i64 0] 38)).grownBy w' (some r)) := by
    have := byte_yes r b off cap bs p bad _ (h.alloc (.cells #[.int .i64 0, .int .i64 0, .int .i64 0] 38)) hp (by omega)
    rw [hu] at this
    exact this
  have hO : Hid (∀ x, Calls Tryd.prog 29 #[.int .i64 (u.toNat : Int)] x fun e w' => e = .returned (.string (opNm (u.toNat : Int))) ∧ Below x.heap.size x w') := fun x => spec_opName (u.toNat : Int) x
  have hK : Hid (∀ x, Calls Tryd.prog 30 #[.int .i64 (u.toNat : Int)] x fun e w' => e = .returned (.int .i64 0) ∧ x = w') := fun x => by have := spec_kind (u.toNat : Int) x; rw [hk] at this; exact this
  have hbb : (((u.toNat : Int) == 63) = true) ∨ (((u.toNat : Int) == 63) = false ∧ ((u.toNat : Int) == 64) = true) := by
    rcases ho with e | e
    · exact .inl (by simp [e])
    · exact .inr ⟨by simp [e], by simp [e]⟩
  have hU : Hid (∀ x, SR x r b off cap bs (p + 1) bad → Calls Tryd.prog 41 #[.pointer (some ⟨r, 0, none⟩), .int .i64 0] x fun e w' => e = .returned (.tuple #[]) ∧ (∃ p', SR w' r b off cap bs p' true) ∧ x.grownBy w' (some r)) := fun x hx => must_no r b off cap bs (p + 1) bad 0 x hx hx0 (by omega)
  obtain ⟨n1, n2⟩ := str_nil hop
  have hu8 := u.toNat_lt
  clear h hop hu hx0 hk ho
  generalize opNm (u.toNat : Int) = T at *
  generalize u.toNat = o at *
  rcases hbb with t63 | ⟨t63, t64⟩
  all_goals
    go_enter Tryd.func25, Tryd.ntmps25
    go_wp2_with (first | (go_at_call 38; refine hN.out.mono ?_; rintro e w1 ⟨rfl, k1, g1⟩; have k1' : Hid (SR w1 r b off cap bs (p + 1) bad) := k1; have g1' : Hid (w.grownBy w1 (some r)) := (World.grownBy_alloc w _ _).trans g1; have q1 : Hid (w1.heap[w.heap.size]? = some (boxI (.int .i64 0) (.int .i64 0) (.int .i64 0))) := blk_kept g1 (blk_new _ _ _ _) (by omega); have z1 : w.heap.size < w1.heap.size := Nat.lt_of_lt_of_le (by simp) g1.size; clear k1 g1 hN) | (go_at_call 30; refine (hK.out _).mono ?_; rintro e w4 ⟨rfl, rfl⟩; clear hK) | (go_at_call 41; refine (hU.out _ (k1'.out.alloc _)).mono ?_; rintro e w5 ⟨rfl, ⟨p5, k5⟩, g5⟩; have kA : Hid (SR w5 r b off cap bs p5 true) := k5; have gA : Hid (w.grownBy w5 (some r)) := (grown_alloc g1'.out _).trans g5; have qA : Hid ((w5).heap[w1.heap.size]? = some (boxI (.int .i64 (o : Int)) (.int .i64 0) (.int .i64 0))) := blk_kept g5 (blk_new w1 _ _ _) (by omega); have pA : Hid ((w5).heap[w.heap.size]? = some (boxI (.int .i64 0) (.int .i64 0) (.int .i64 0))) := blk_kept g5 (blk_past q1.out _) (by omega); obtain ⟨c0, c1, c2, f0, f1, f2⟩ := blk_facts qA.out; clear k5 g5 hU) | (go_at_call 29; refine (hO.out _).mono ?_; rintro e w6 ⟨rfl, b6⟩; have k6 : Hid (SR w6 r b off cap bs p5 true) := kA.out.below b6; have g6 : Hid (w.grownBy w6 (some r)) := grown_bel gA.out b6; have q6 := blk_below b6 qA.out; have p6 := blk_below b6 pA.out; obtain ⟨d0, d1, d2, _, _, _⟩ := blk_facts q6; obtain ⟨e0, e1, e2, e3, e4, e5, e6, e7, e8⟩ := res_facts p6 (.int .i64 (o : Int)) (.int .i64 0) (.int .i64 0); clear b6 q6 p6 hO))
    refine bodyPost_ret (v := .agg #[.int .i64 (o : Int), .int .i64 0, .int .i64 0]) ?_ rfl ⟨⟨_, _, _, rfl⟩, ⟨p5, ?_⟩, ?_⟩
    · simp [results, go_sem, e6, e7, e8]
    · exact (((k6.out).set (by omega) (by omega)).set (by omega) (by omega)).set (by omega) (by omega)
    · exact grown_set (grown_set (grown_set (g6.out) (Nat.le_refl _) _) (Nat.le_refl _) _) (Nat.le_refl _) _
set_option maxHeartbeats 4000000 in
set_option maxRecDepth 20000 in
theorem one0 (r b off cap : Nat) (bs : List UInt8) (p : Nat) (bad : Bool) (w : World) (h : SR w r b off cap bs p bad) (hp : p < bs.length) (hl : bs.length ≤ 1048576) (u : UInt8) (hu : byAt bs p = u) (hop : ¬ opNm (u.toNat : Int) = ⟨#[]⟩) (hk : kd (u.toNat : Int) = 0) (ho : ¬ ((u.toNat : Int) = 63 ∨ (u.toNat : Int) = 64)) :
    Calls Tryd.prog 25 #[.pointer (some ⟨r, 0, none⟩)] w fun e w' => e = .returned (.agg #[.int .i64 (u.toNat : Int), .int .i64 0, .int .i64 0]) ∧ SR w' r b off cap bs (p + 1) bad ∧ w.grownBy w' (some r) := by
  have hrl := h.isLt
  have hbl := h.lt
  have hN : Hid (Calls Tryd.prog 38 #[.pointer (some ⟨r, 0, none⟩)] (w.alloc (.cells #[.int .i64 0, .int .i64 0, .int .i64 0] 38)) fun e w' => e = .returned (.int .i64 (u.toNat : Int)) ∧ SR w' r b off cap bs (p + 1) bad ∧ (w.alloc (.cells #[.int .i64 0, .int .i64 0, .int .i64 0] 38)).grownBy w' (some r)) := by
    have := byte_yes r b off cap bs p bad _ (h.alloc (.cells #[.int .i64 0, .int .i64 0, .int .i64 0] 38)) hp (by omega)
    rw [hu] at this
    exact this
  have hO : Hid (∀ x, Calls Tryd.prog 29 #[.int .i64 (u.toNat : Int)] x fun e w' => e = .returned (.string (opNm (u.toNat : Int))) ∧ Below x.heap.size x w') := fun x => spec_opName (u.toNat : Int) x
  have hK : Hid (∀ x, Calls Tryd.prog 30 #[.int .i64 (u.toNat : Int)] x fun e w' => e = .returned (.int .i64 0) ∧ x = w') := fun x => by have := spec_kind (u.toNat : Int) x; rw [hk] at this; exact this
  have t63 : ((u.toNat : Int) == 63) = false := by rw [beq_eq_false_iff_ne]; omega
  have t64 : ((u.toNat : Int) == 64) = false := by rw [beq_eq_false_iff_ne]; omega
  obtain ⟨n1, n2⟩ := str_nil hop
  have hu8 := u.toNat_lt
  clear h hop hu hk ho
  generalize opNm (u.toNat : Int) = T at *
  generalize u.toNat = o at *
  go_enter Tryd.func25, Tryd.ntmps25
  go_wp2_with (first | (go_at_call 38; refine hN.out.mono ?_; rintro e w1 ⟨rfl, k1, g1⟩; have k1' : Hid (SR w1 r b off cap bs (p + 1) bad) := k1; have g1' : Hid (w.grownBy w1 (some r)) := (World.grownBy_alloc w _ _).trans g1; have q1 : Hid (w1.heap[w.heap.size]? = some (boxI (.int .i64 0) (.int .i64 0) (.int .i64 0))) := blk_kept g1 (blk_new _ _ _ _) (by omega); have z1 : w.heap.size < w1.heap.size := Nat.lt_of_lt_of_le (by simp) g1.size; clear k1 g1 hN) | (go_at_call 30; refine (hK.out _).mono ?_; rintro e w4 ⟨rfl, rfl⟩; clear hK; have kA : Hid (SR (w1.alloc (.cells #[.int .i64 (o : Int), .int .i64 0, .int .i64 0] 38)) r b off cap bs (p + 1) bad) := k1'.out.alloc _; have gA : Hid (w.grownBy (w1.alloc (.cells #[.int .i64 (o : Int), .int .i64 0, .int .i64 0] 38)) (some r)) := grown_alloc g1'.out _; have qA : Hid ((w1.alloc (.cells #[.int .i64 (o : Int), .int .i64 0, .int .i64 0] 38)).heap[w1.heap.size]? = some (boxI (.int .i64 (o : Int)) (.int .i64 0) (.int .i64 0))) := blk_new w1 _ _ _; have pA : Hid ((w1.alloc (.cells #[.int .i64 (o : Int), .int .i64 0, .int .i64 0] 38)).heap[w.heap.size]? = some (boxI (.int .i64 0) (.int .i64 0) (.int .i64 0))) := blk_past q1.out _) | (go_at_call 29; refine (hO.out _).mono ?_; rintro e w6 ⟨rfl, b6⟩; have k6 : Hid (SR w6 r b off cap bs (p + 1) bad) := kA.out.below b6; have g6 : Hid (w.grownBy w6 (some r)) := grown_bel gA.out b6; have q6 := blk_below b6 qA.out; have p6 := blk_below b6 pA.out; obtain ⟨d0, d1, d2, _, _, _⟩ := blk_facts q6; obtain ⟨e0, e1, e2, e3, e4, e5, e6, e7, e8⟩ := res_facts p6 (.int .i64 (o : Int)) (.int .i64 0) (.int .i64 0); clear b6 q6 p6 hO))
  refine bodyPost_ret (v := .agg #[.int .i64 (o : Int), .int .i64 0, .int .i64 0]) ?_ rfl ⟨rfl, ?_, ?_⟩
  · simp [results, go_sem, e6, e7, e8]
  · exact (((k6.out).set (by omega) (by omega)).set (by omega) (by omega)).set (by omega) (by omega)
  · exact grown_set (grown_set (grown_set (g6.out) (Nat.le_refl _) _) (Nat.le_refl _) _) (Nat.le_refl _) _
set_option maxHeartbeats 4000000 in
set_option maxRecDepth 20000 in
theorem one_none (r b off cap : Nat) (bs : List UInt8) (p : Nat) (bad : Bool) (w : World) (h : SR w r b off cap bs p bad) (hp : p < bs.length) (hl : bs.length ≤ 1048576) (u : UInt8) (hu : byAt bs p = u) (hop : opNm (u.toNat : Int) = ⟨#[]⟩) :
    Calls Tryd.prog 25 #[.pointer (some ⟨r, 0, none⟩)] w fun e w' => (∃ x y z : Int, e = .returned (.agg #[.int .i64 x, .int .i64 y, .int .i64 z])) ∧ (∃ p', SR w' r b off cap bs p' true) ∧ w.grownBy w' (some r) := by
  have hrl := h.isLt
  have hbl := h.lt
  have hN : Hid (Calls Tryd.prog 38 #[.pointer (some ⟨r, 0, none⟩)] (w.alloc (.cells #[.int .i64 0, .int .i64 0, .int .i64 0] 38)) fun e w' => e = .returned (.int .i64 (u.toNat : Int)) ∧ SR w' r b off cap bs (p + 1) bad ∧ (w.alloc (.cells #[.int .i64 0, .int .i64 0, .int .i64 0] 38)).grownBy w' (some r)) := by
    have := byte_yes r b off cap bs p bad _ (h.alloc (.cells #[.int .i64 0, .int .i64 0, .int .i64 0] 38)) hp (by omega)
    rw [hu] at this
    exact this
  have hO : Hid (∀ x, Calls Tryd.prog 29 #[.int .i64 (u.toNat : Int)] x fun e w' => e = .returned (.string (opNm (u.toNat : Int))) ∧ Below x.heap.size x w') := fun x => spec_opName (u.toNat : Int) x
  obtain ⟨hk, t63, t64⟩ := op_named hop
  have hK : Hid (∀ x, Calls Tryd.prog 30 #[.int .i64 (u.toNat : Int)] x fun e w' => e = .returned (.int .i64 0) ∧ x = w') := fun x => by have := spec_kind (u.toNat : Int) x; rw [hk] at this; exact this
  rw [hop] at hO
  have hu8 := u.toNat_lt
  clear h hop hu hk
  generalize u.toNat = o at *
  go_enter Tryd.func25, Tryd.ntmps25
  go_wp2_with (first | (go_at_call 38; refine hN.out.mono ?_; rintro e w1 ⟨rfl, k1, g1⟩; have k1' : Hid (SR w1 r b off cap bs (p + 1) bad) := k1; have g1' : Hid (w.grownBy w1 (some r)) := (World.grownBy_alloc w _ _).trans g1; have q1 : Hid (w1.heap[w.heap.size]? = some (boxI (.int .i64 0) (.int .i64 0) (.int .i64 0))) := blk_kept g1 (blk_new _ _ _ _) (by omega); have z1 : w.heap.size < w1.heap.size := Nat.lt_of_lt_of_le (by simp) g1.size; clear k1 g1 hN) | (go_at_call 30; refine (hK.out _).mono ?_; rintro e w4 ⟨rfl, rfl⟩; clear hK; have kA : Hid (SR (w1.alloc (.cells #[.int .i64 (o : Int), .int .i64 0, .int .i64 0] 38)) r b off cap bs (p + 1) bad) := k1'.out.alloc _; have gA : Hid (w.grownBy (w1.alloc (.cells #[.int .i64 (o : Int), .int .i64 0, .int .i64 0] 38)) (some r)) := grown_alloc g1'.out _; have qA : Hid ((w1.alloc (.cells #[.int .i64 (o : Int), .int .i64 0, .int .i64 0] 38)).heap[w1.heap.size]? = some (boxI (.int .i64 (o : Int)) (.int .i64 0) (.int .i64 0))) := blk_new w1 _ _ _; have pA : Hid ((w1.alloc (.cells #[.int .i64 (o : Int), .int .i64 0, .int .i64 0] 38)).heap[w.heap.size]? = some (boxI (.int .i64 0) (.int .i64 0) (.int .i64 0))) := blk_past q1.out _) | (go_at_call 29; refine (hO.out _).mono ?_; rintro e w6 ⟨rfl, b6⟩; have k6 : Hid (SR w6 r b off cap bs (p + 1) bad) := kA.out.below b6; have g6 : Hid (w.grownBy w6 (some r)) := grown_bel gA.out b6; have q6 := blk_below b6 qA.out; have p6 := blk_below b6 pA.out; obtain ⟨y0, y1, y2, y3, y4⟩ := k6.out.facts; have q7 := blk_other (p := r) (j := 2) q6 (.bool true) (by omega); have p7 := blk_other (p := r) (j := 2) p6 (.bool true) (by omega); obtain ⟨d0, d1, d2, _, _, _⟩ := blk_facts q7; obtain ⟨e0, e1, e2, e3, e4, e5, e6, e7, e8⟩ := res_facts p7 (.int .i64 (o : Int)) (.int .i64 0) (.int .i64 0); clear b6 q6 p6 q7 p7 hO))
  refine bodyPost_ret (v := .agg #[.int .i64 (o : Int), .int .i64 0, .int .i64 0]) ?_ rfl ⟨⟨_, _, _, rfl⟩, ⟨p + 1, ?_⟩, ?_⟩
  · simp [results, go_sem, e6, e7, e8]
  · exact (((k6.out.spoil).set (by omega) (by omega)).set (by omega) (by omega)).set (by omega) (by omega)
  · exact grown_set (grown_set (grown_set (grown_setr (g6.out) _) (Nat.le_refl _) _) (Nat.le_refl _) _) (Nat.le_refl _) _
end Go.Proofs.YthjgmjhgpjgdlabDoor.SpecOne
