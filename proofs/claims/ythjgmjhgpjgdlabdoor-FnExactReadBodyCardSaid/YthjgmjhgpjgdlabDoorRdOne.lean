/-
  An instruction read by the program.
-/
import Derived.Test.YthjgmjhgpjgdlabDoorReadNum
import Derived.Test.YthjgmjhgpjgdlabDoorPlainIns
import Derived.Test.YthjgmjhgpjgdlabDoorWrIns
namespace Go.Proofs.YthjgmjhgpjgdlabDoor.RdOne
open Go.RowKit PlainOps NameCalls PlainNum PlainLeb PlainGet PlainRd PlainIns NumCalls ByteMem PutU Reader ReadNum InsCalls PlainShape WrIns

theorem which2 (x : UInt8) : which [64, 127] x = if x = 64 then 0 else if x = 127 then 1 else -1 := by
  unfold which
  by_cases h1 : x = 64
  · subst h1; decide
  · by_cases h2 : x = 127
    · subst h2; decide
    · rw [if_neg h1, if_neg h2]
      simp [Lib.indexByte]
      rw [if_neg (fun e => h1 e.symm), if_neg (fun e => h2 e.symm)]
theorem which1 (d x : UInt8) : which [d] x = if x = d then 0 else -1 := by
  unfold which
  by_cases h : x = d
  · subst h; simp [Lib.indexByte]
  · have h' : ¬ d = x := fun e => h e.symm
    simp [Lib.indexByte, h, h']
theorem grown_alloc {w W : World} {q : Option Nat} (h : w.grownBy W q) (o : Obj) : w.grownBy (W.alloc o) q := h.trans (World.grownBy_alloc W o q)
theorem grown_set {w W : World} {q : Option Nat} (h : w.grownBy W q) {p j : Nat} (hp : w.heap.size ≤ p) (v : Value) : w.grownBy (W.setCell ⟨p, j, none⟩ v) q :=
  ⟨h.os, h.tape, h.output, by rw [World.size_setCell]; exact h.size, fun k hk hne => (Below.heap_setCell _ _ _ _ (by show k ≠ p; omega)).trans (h.block k hk hne)⟩
theorem Tab.kept {w w' : World} {q : Option Nat} (h : Tab w) (hg : w.grownBy w' q) (hne : some 0 ≠ q) : Tab w' := fun j hj => hg.cell (h j hj) hne
abbrev boxI (x y z : Value) : Obj := .cells #[x, y, z] 38 (0, 0)
theorem blk_facts {W : World} {q : Nat} {x y z : Value} (h : W.heap[q]? = some (boxI x y z)) :
    W.cell? ⟨q, 0, none⟩ = some x ∧ W.cell? ⟨q, 1, none⟩ = some y ∧ W.cell? ⟨q, 2, none⟩ = some z ∧ W.frozen? ⟨q, 0, none⟩ = false ∧ W.frozen? ⟨q, 1, none⟩ = false ∧ W.frozen? ⟨q, 2, none⟩ = false := by
  refine ⟨?_, ?_, ?_, ?_, ?_, ?_⟩ <;> simp [World.cell?, World.frozen?, h]
theorem blk_set {W : World} {q : Nat} {x y z : Value} (h : W.heap[q]? = some (boxI x y z)) (v : Value) :
    (W.setCell ⟨q, 0, none⟩ v).heap[q]? = some (boxI v y z) ∧ (W.setCell ⟨q, 1, none⟩ v).heap[q]? = some (boxI x v z) ∧ (W.setCell ⟨q, 2, none⟩ v).heap[q]? = some (boxI x y v) := by
  obtain ⟨hlt, hk⟩ := Array.getElem?_eq_some_iff.1 h
  refine ⟨?_, ?_, ?_⟩
  all_goals
    show (W.heap.modify q _)[q]? = _
    rw [Array.getElem?_eq_getElem (by rw [Array.size_modify]; exact hlt), Array.getElem_modify_self, hk]
    rfl
/-- What is stored into a result of three cells, cell by cell, is read from it. -/
theorem res_facts {W : World} {q : Nat} {x y z : Value} (h : W.heap[q]? = some (boxI x y z)) (v0 v1 v2 : Value) :
    W.cell? ⟨q, 0, none⟩ = some x ∧ W.frozen? ⟨q, 0, none⟩ = false ∧ (W.setCell ⟨q, 0, none⟩ v0).cell? ⟨q, 1, none⟩ = some y ∧ (W.setCell ⟨q, 0, none⟩ v0).frozen? ⟨q, 1, none⟩ = false ∧
    ((W.setCell ⟨q, 0, none⟩ v0).setCell ⟨q, 1, none⟩ v1).cell? ⟨q, 2, none⟩ = some z ∧ ((W.setCell ⟨q, 0, none⟩ v0).setCell ⟨q, 1, none⟩ v1).frozen? ⟨q, 2, none⟩ = false ∧
    (((W.setCell ⟨q, 0, none⟩ v0).setCell ⟨q, 1, none⟩ v1).setCell ⟨q, 2, none⟩ v2).cell? ⟨q, 0, none⟩ = some v0 ∧ (((W.setCell ⟨q, 0, none⟩ v0).setCell ⟨q, 1, none⟩ v1).setCell ⟨q, 2, none⟩ v2).cell? ⟨q, 1, none⟩ = some v1 ∧
    (((W.setCell ⟨q, 0, none⟩ v0).setCell ⟨q, 1, none⟩ v1).setCell ⟨q, 2, none⟩ v2).cell? ⟨q, 2, none⟩ = some v2 := by
  have h1 := (blk_set h v0).1
  have h2 := (blk_set h1 v1).2.1
  have h3 := (blk_set h2 v2).2.2
  have a := blk_facts h
  have b := blk_facts h1
  have c := blk_facts h2
  have d := blk_facts h3
  exact ⟨a.1, a.2.2.2.1, b.2.1, b.2.2.2.2.1, c.2.2.1, c.2.2.2.2.2, d.1, d.2.1, d.2.2.1⟩
theorem blk_kept {w w' : World} {r q : Nat} {o : Obj} (hg : w.grownBy w' (some r)) (h : w.heap[q]? = some o) (hq : q ≠ r) : w'.heap[q]? = some o :=
  (hg.block q (Array.getElem?_eq_some_iff.1 h).1 (fun e => hq (by injection e))).trans h
theorem blk_new (w : World) (x y z : Value) : (w.alloc (.cells #[x, y, z] 38)).heap[w.heap.size]? = some (boxI x y z) := World.alloc_heap_new w _
theorem blk_past {w : World} {q : Nat} {o : Obj} (h : w.heap[q]? = some o) (o' : Obj) : (w.alloc o').heap[q]? = some o := (Below.heap_alloc _ _ _ (Array.getElem?_eq_some_iff.1 h).1).trans h
theorem _root_.Go.Proofs.YthjgmjhgpjgdlabDoor.ReadNum.RdX.set {w : World} {r : Nat} {c : Int} {b : Nat} {bs : List UInt8} (h : RdX w r c b bs) {p j : Nat} {v : Value} (hp : p ≠ r) (hb : p ≠ b) : RdX (w.setCell ⟨p, j, none⟩ v) r c b bs := by
  obtain ⟨o, k, x⟩ := h
  exact ⟨o, k, x.of (Below.heap_setCell _ _ _ _ (by exact hp.symm)) (Below.heap_setCell _ _ _ _ (by exact hb.symm))⟩
theorem blk_other {W : World} {q p j : Nat} {o : Obj} (h : W.heap[q]? = some o) (v : Value) (hne : q ≠ p) : (W.setCell ⟨p, j, none⟩ v).heap[q]? = some o := (Below.heap_setCell _ _ _ _ (by exact hne)).trans h
set_option maxHeartbeats 4000000 in
set_option maxRecDepth 20000 in
theorem one2 (r : Nat) (c : Int) (b : Nat) (u : UInt8) (rest : List UInt8) (w : World) (h : RdX w r c b (u :: rest)) (hl : rest.length ≤ 1048575) (ht : Tab w) (hgr : 0 ≠ r)
    (hop : ¬ opNm (u.toNat : Int) = ⟨#[]⟩) (hk : kd (u.toNat : Int) = 2) (n k : Nat) (hg : gU rest = some (n, k)) :
    Calls Tryd.prog 44 #[.pointer (some ⟨r, 0, none⟩)] w fun e w' => e = .returned (.agg #[.int .i64 (u.toNat : Int), .int .i64 (n : Int), .int .i64 0]) ∧ RdX w' r c b (rest.drop k) ∧ w.grownBy w' (some r) := by
  have hrl := h.isLt
  have hbl := h.lt
  have hN : Hid (Calls Tryd.prog 58 #[.pointer (some ⟨r, 0, none⟩)] (w.alloc (.cells #[.int .i64 0, .int .i64 0, .int .i64 0] 38)) fun e w' => e = .returned (.int .u8 (u.toNat : Int)) ∧ RdX w' r c b rest ∧ (w.alloc (.cells #[.int .i64 0, .int .i64 0, .int .i64 0] 38)).grownBy w' (some r)) := by
    obtain ⟨off, cap, x⟩ := h.alloc (.cells #[.int .i64 0, .int .i64 0, .int .i64 0] 38)
    exact (next_yes r c b off cap u rest _ x).mono fun _ _ ⟨e1, ⟨o, e2⟩, e3⟩ => ⟨e1, ⟨_, _, e2⟩, e3⟩
  have hO : Hid (∀ x, Tab x → Calls Tryd.prog 34 #[.int .i64 (u.toNat : Int)] x fun e w' => e = .returned (.string (opNm (u.toNat : Int))) ∧ x = w') := fun x hx => impl_opName (u.toNat : Int) x hx
  have hB : Hid (∀ x, Calls Tryd.prog 52 #[.int .i64 (u.toNat : Int)] x fun e w' => e = .returned (.int .i64 2) ∧ x = w') := fun x => by have := behind (u.toNat : Int) x; rw [bh1 (by omega), hk] at this; exact this
  have hR : Hid (∀ x, RdX x r c b rest → Calls Tryd.prog 61 #[.pointer (some ⟨r, 0, none⟩)] x fun e w' => e = .returned (.int .i64 (n : Int)) ∧ RdX w' r c b (rest.drop k) ∧ x.grownBy w' (some r)) := fun x hx => number_yes r c b rest x hx n k hg (by omega)
  have ht' : Hid (Tab w) := ht
  obtain ⟨n1, n2⟩ := str_nil hop
  have hu := u.toNat_lt
  clear h ht hop hg hk
  generalize opNm (u.toNat : Int) = T at *
  generalize u.toNat = o at *
  go_enter Tryd.func44, Tryd.ntmps44
  go_wp2_with (first | (go_at_call 58; refine hN.out.mono ?_; rintro e w1 ⟨rfl, k1, g1⟩; have k1' : Hid (RdX w1 r c b rest) := k1; have g1' : Hid (w.grownBy w1 (some r)) := (World.grownBy_alloc w _ _).trans g1; have q1 : Hid (w1.heap[w.heap.size]? = some (boxI (.int .i64 0) (.int .i64 0) (.int .i64 0))) := blk_kept g1 (blk_new _ _ _ _) (by omega); have z1 : w.heap.size < w1.heap.size := Nat.lt_of_lt_of_le (by simp) g1.size; clear k1 g1 hN) | (go_at_call 34; refine (hO.out _ (Tab.kept ht'.out (grown_alloc g1'.out _) (fun e => hgr (Option.some.inj e)))).mono ?_; rintro e w2 ⟨rfl, rfl⟩; clear hO) | (go_at_call 59; refine (must_yes _ _).mono ?_; rintro e w3 ⟨rfl, rfl⟩) | (go_at_call 52; refine (hB.out _).mono ?_; rintro e w4 ⟨rfl, rfl⟩; clear hB) | (go_at_call 61; refine (hR.out _ (k1'.out.alloc _)).mono ?_; rintro e w5 ⟨rfl, k5, g5⟩; have k5' : Hid (RdX w5 r c b (rest.drop k)) := k5; have g5' : Hid (w.grownBy w5 (some r)) := (grown_alloc g1'.out _).trans g5; have q5 := blk_kept g5 (blk_new w1 _ _ _) (by omega); have p5 := blk_kept g5 (blk_past q1.out _) (by omega); obtain ⟨c0, c1, c2, f0, f1, f2⟩ := blk_facts q5; have s5 := (blk_set q5 (.int .i64 (n : Int))).2.1; obtain ⟨d0, d1, d2, _, _, _⟩ := blk_facts s5; have p6 := blk_other (p := w1.heap.size) (j := 1) p5 (.int .i64 (n : Int)) (by omega); obtain ⟨e0, e1, e2, e3, e4, e5, e6, e7, e8⟩ := res_facts p6 (.int .i64 (o : Int)) (.int .i64 (n : Int)) (.int .i64 0); clear s5 p6 q5 p5 k5 g5 hR))
  refine bodyPost_ret ?_ rfl ⟨rfl, ?_, ?_⟩
  · simp [results, go_sem, e6, e7, e8]
  · exact ((((k5'.out).set (by omega) (by omega)).set (by omega) (by omega)).set (by omega) (by omega)).set (by omega) (by omega)
  · exact grown_set (grown_set (grown_set (grown_set (g5'.out) (by omega) _) (Nat.le_refl _) _) (Nat.le_refl _) _) (Nat.le_refl _) _
set_option maxHeartbeats 4000000 in
set_option maxRecDepth 20000 in
theorem one2_no (r : Nat) (c : Int) (b : Nat) (u : UInt8) (rest : List UInt8) (w : World) (h : RdX w r c b (u :: rest)) (hl : rest.length ≤ 1048575) (ht : Tab w) (hgr : 0 ≠ r)
    (hop : ¬ opNm (u.toNat : Int) = ⟨#[]⟩) (hk : kd (u.toNat : Int) = 2) (hg : gU rest = none) :
    Calls Tryd.prog 44 #[.pointer (some ⟨r, 0, none⟩)] w fun e w' => e = gave c ∧ w.grownBy w' (some r) := by
  have hrl := h.isLt
  have hbl := h.lt
  have hN : Hid (Calls Tryd.prog 58 #[.pointer (some ⟨r, 0, none⟩)] (w.alloc (.cells #[.int .i64 0, .int .i64 0, .int .i64 0] 38)) fun e w' => e = .returned (.int .u8 (u.toNat : Int)) ∧ RdX w' r c b rest ∧ (w.alloc (.cells #[.int .i64 0, .int .i64 0, .int .i64 0] 38)).grownBy w' (some r)) := by
    obtain ⟨off, cap, x⟩ := h.alloc (.cells #[.int .i64 0, .int .i64 0, .int .i64 0] 38)
    exact (next_yes r c b off cap u rest _ x).mono fun _ _ ⟨e1, ⟨o, e2⟩, e3⟩ => ⟨e1, ⟨_, _, e2⟩, e3⟩
  have hO : Hid (∀ x, Tab x → Calls Tryd.prog 34 #[.int .i64 (u.toNat : Int)] x fun e w' => e = .returned (.string (opNm (u.toNat : Int))) ∧ x = w') := fun x hx => impl_opName (u.toNat : Int) x hx
  have hB : Hid (∀ x, Calls Tryd.prog 52 #[.int .i64 (u.toNat : Int)] x fun e w' => e = .returned (.int .i64 2) ∧ x = w') := fun x => by have := behind (u.toNat : Int) x; rw [bh1 (by omega), hk] at this; exact this
  have hR : Hid (∀ x, RdX x r c b rest → Calls Tryd.prog 61 #[.pointer (some ⟨r, 0, none⟩)] x fun e w' => e = gave c ∧ x.grownBy w' (some r)) := fun x hx => number_no r c b rest x hx hg (by omega)
  have ht' : Hid (Tab w) := ht
  obtain ⟨n1, n2⟩ := str_nil hop
  have hu := u.toNat_lt
  clear h ht hop hg hk
  generalize opNm (u.toNat : Int) = T at *
  generalize u.toNat = o at *
  go_enter Tryd.func44, Tryd.ntmps44
  go_wp2_with (first | (go_at_call 58; refine hN.out.mono ?_; rintro e w1 ⟨rfl, k1, g1⟩; have k1' : Hid (RdX w1 r c b rest) := k1; have g1' : Hid (w.grownBy w1 (some r)) := (World.grownBy_alloc w _ _).trans g1; have q1 : Hid (w1.heap[w.heap.size]? = some (boxI (.int .i64 0) (.int .i64 0) (.int .i64 0))) := blk_kept g1 (blk_new _ _ _ _) (by omega); have z1 : w.heap.size < w1.heap.size := Nat.lt_of_lt_of_le (by simp) g1.size; clear k1 g1 hN) | (go_at_call 34; refine (hO.out _ (Tab.kept ht'.out (grown_alloc g1'.out _) (fun e => hgr (Option.some.inj e)))).mono ?_; rintro e w2 ⟨rfl, rfl⟩; clear hO) | (go_at_call 59; refine (must_yes _ _).mono ?_; rintro e w3 ⟨rfl, rfl⟩) | (go_at_call 52; refine (hB.out _).mono ?_; rintro e w4 ⟨rfl, rfl⟩; clear hB) | (go_at_call 61; refine (hR.out _ (k1'.out.alloc _)).mono ?_; rintro e w5 ⟨rfl, g5⟩))
  exact ⟨rfl, rfl, (grown_alloc g1'.out _).trans g5⟩
set_option maxHeartbeats 4000000 in
set_option maxRecDepth 20000 in
theorem one4 (r : Nat) (c : Int) (b : Nat) (u : UInt8) (rest : List UInt8) (w : World) (h : RdX w r c b (u :: rest)) (hl : rest.length ≤ 1048575) (ht : Tab w) (hgr : 0 ≠ r)
    (hop : ¬ opNm (u.toNat : Int) = ⟨#[]⟩) (hk : kd (u.toNat : Int) = 4) (n : Int) (k : Nat) (hg : gS rest = some (n, k)) :
    Calls Tryd.prog 44 #[.pointer (some ⟨r, 0, none⟩)] w fun e w' => e = .returned (.agg #[.int .i64 (u.toNat : Int), .int .i64 n, .int .i64 0]) ∧ RdX w' r c b (rest.drop k) ∧ w.grownBy w' (some r) := by
  have hrl := h.isLt
  have hbl := h.lt
  have hN : Hid (Calls Tryd.prog 58 #[.pointer (some ⟨r, 0, none⟩)] (w.alloc (.cells #[.int .i64 0, .int .i64 0, .int .i64 0] 38)) fun e w' => e = .returned (.int .u8 (u.toNat : Int)) ∧ RdX w' r c b rest ∧ (w.alloc (.cells #[.int .i64 0, .int .i64 0, .int .i64 0] 38)).grownBy w' (some r)) := by
    obtain ⟨off, cap, x⟩ := h.alloc (.cells #[.int .i64 0, .int .i64 0, .int .i64 0] 38)
    exact (next_yes r c b off cap u rest _ x).mono fun _ _ ⟨e1, ⟨o, e2⟩, e3⟩ => ⟨e1, ⟨_, _, e2⟩, e3⟩
  have hO : Hid (∀ x, Tab x → Calls Tryd.prog 34 #[.int .i64 (u.toNat : Int)] x fun e w' => e = .returned (.string (opNm (u.toNat : Int))) ∧ x = w') := fun x hx => impl_opName (u.toNat : Int) x hx
  have hB : Hid (∀ x, Calls Tryd.prog 52 #[.int .i64 (u.toNat : Int)] x fun e w' => e = .returned (.int .i64 4) ∧ x = w') := fun x => by have := behind (u.toNat : Int) x; rw [bh1 (by omega), hk] at this; exact this
  have hR : Hid (∀ x, RdX x r c b rest → Calls Tryd.prog 62 #[.pointer (some ⟨r, 0, none⟩)] x fun e w' => e = .returned (.int .i64 n) ∧ RdX w' r c b (rest.drop k) ∧ x.grownBy w' (some r)) := fun x hx => signed_yes r c b rest x hx n k hg (by omega)
  have ht' : Hid (Tab w) := ht
  obtain ⟨n1, n2⟩ := str_nil hop
  have hu := u.toNat_lt
  clear h ht hop hg hk
  generalize opNm (u.toNat : Int) = T at *
  generalize u.toNat = o at *
  go_enter Tryd.func44, Tryd.ntmps44
  go_wp2_with (first | (go_at_call 58; refine hN.out.mono ?_; rintro e w1 ⟨rfl, k1, g1⟩; have k1' : Hid (RdX w1 r c b rest) := k1; have g1' : Hid (w.grownBy w1 (some r)) := (World.grownBy_alloc w _ _).trans g1; have q1 : Hid (w1.heap[w.heap.size]? = some (boxI (.int .i64 0) (.int .i64 0) (.int .i64 0))) := blk_kept g1 (blk_new _ _ _ _) (by omega); have z1 : w.heap.size < w1.heap.size := Nat.lt_of_lt_of_le (by simp) g1.size; clear k1 g1 hN) | (go_at_call 34; refine (hO.out _ (Tab.kept ht'.out (grown_alloc g1'.out _) (fun e => hgr (Option.some.inj e)))).mono ?_; rintro e w2 ⟨rfl, rfl⟩; clear hO) | (go_at_call 59; refine (must_yes _ _).mono ?_; rintro e w3 ⟨rfl, rfl⟩) | (go_at_call 52; refine (hB.out _).mono ?_; rintro e w4 ⟨rfl, rfl⟩; clear hB) | (go_at_call 62; refine (hR.out _ (k1'.out.alloc _)).mono ?_; rintro e w5 ⟨rfl, k5, g5⟩; have k5' : Hid (RdX w5 r c b (rest.drop k)) := k5; have g5' : Hid (w.grownBy w5 (some r)) := (grown_alloc g1'.out _).trans g5; have q5 := blk_kept g5 (blk_new w1 _ _ _) (by omega); have p5 := blk_kept g5 (blk_past q1.out _) (by omega); obtain ⟨c0, c1, c2, f0, f1, f2⟩ := blk_facts q5; have s5 := (blk_set q5 (.int .i64 n)).2.1; obtain ⟨d0, d1, d2, _, _, _⟩ := blk_facts s5; have p6 := blk_other (p := w1.heap.size) (j := 1) p5 (.int .i64 n) (by omega); obtain ⟨e0, e1, e2, e3, e4, e5, e6, e7, e8⟩ := res_facts p6 (.int .i64 (o : Int)) (.int .i64 n) (.int .i64 0); clear s5 p6 q5 p5 k5 g5 hR))
  refine bodyPost_ret ?_ rfl ⟨rfl, ?_, ?_⟩
  · simp [results, go_sem, e6, e7, e8]
  · exact ((((k5'.out).set (by omega) (by omega)).set (by omega) (by omega)).set (by omega) (by omega)).set (by omega) (by omega)
  · exact grown_set (grown_set (grown_set (grown_set (g5'.out) (by omega) _) (Nat.le_refl _) _) (Nat.le_refl _) _) (Nat.le_refl _) _
set_option maxHeartbeats 4000000 in
set_option maxRecDepth 20000 in
theorem one4_no (r : Nat) (c : Int) (b : Nat) (u : UInt8) (rest : List UInt8) (w : World) (h : RdX w r c b (u :: rest)) (hl : rest.length ≤ 1048575) (ht : Tab w) (hgr : 0 ≠ r)
    (hop : ¬ opNm (u.toNat : Int) = ⟨#[]⟩) (hk : kd (u.toNat : Int) = 4) (hg : gS rest = none) :
    Calls Tryd.prog 44 #[.pointer (some ⟨r, 0, none⟩)] w fun e w' => e = gave c ∧ w.grownBy w' (some r) := by
  have hrl := h.isLt
  have hbl := h.lt
  have hN : Hid (Calls Tryd.prog 58 #[.pointer (some ⟨r, 0, none⟩)] (w.alloc (.cells #[.int .i64 0, .int .i64 0, .int .i64 0] 38)) fun e w' => e = .returned (.int .u8 (u.toNat : Int)) ∧ RdX w' r c b rest ∧ (w.alloc (.cells #[.int .i64 0, .int .i64 0, .int .i64 0] 38)).grownBy w' (some r)) := by
    obtain ⟨off, cap, x⟩ := h.alloc (.cells #[.int .i64 0, .int .i64 0, .int .i64 0] 38)
    exact (next_yes r c b off cap u rest _ x).mono fun _ _ ⟨e1, ⟨o, e2⟩, e3⟩ => ⟨e1, ⟨_, _, e2⟩, e3⟩
  have hO : Hid (∀ x, Tab x → Calls Tryd.prog 34 #[.int .i64 (u.toNat : Int)] x fun e w' => e = .returned (.string (opNm (u.toNat : Int))) ∧ x = w') := fun x hx => impl_opName (u.toNat : Int) x hx
  have hB : Hid (∀ x, Calls Tryd.prog 52 #[.int .i64 (u.toNat : Int)] x fun e w' => e = .returned (.int .i64 4) ∧ x = w') := fun x => by have := behind (u.toNat : Int) x; rw [bh1 (by omega), hk] at this; exact this
  have hR : Hid (∀ x, RdX x r c b rest → Calls Tryd.prog 62 #[.pointer (some ⟨r, 0, none⟩)] x fun e w' => e = gave c ∧ x.grownBy w' (some r)) := fun x hx => signed_no r c b rest x hx hg (by omega)
  have ht' : Hid (Tab w) := ht
  obtain ⟨n1, n2⟩ := str_nil hop
  have hu := u.toNat_lt
  clear h ht hop hg hk
  generalize opNm (u.toNat : Int) = T at *
  generalize u.toNat = o at *
  go_enter Tryd.func44, Tryd.ntmps44
  go_wp2_with (first | (go_at_call 58; refine hN.out.mono ?_; rintro e w1 ⟨rfl, k1, g1⟩; have k1' : Hid (RdX w1 r c b rest) := k1; have g1' : Hid (w.grownBy w1 (some r)) := (World.grownBy_alloc w _ _).trans g1; have q1 : Hid (w1.heap[w.heap.size]? = some (boxI (.int .i64 0) (.int .i64 0) (.int .i64 0))) := blk_kept g1 (blk_new _ _ _ _) (by omega); have z1 : w.heap.size < w1.heap.size := Nat.lt_of_lt_of_le (by simp) g1.size; clear k1 g1 hN) | (go_at_call 34; refine (hO.out _ (Tab.kept ht'.out (grown_alloc g1'.out _) (fun e => hgr (Option.some.inj e)))).mono ?_; rintro e w2 ⟨rfl, rfl⟩; clear hO) | (go_at_call 59; refine (must_yes _ _).mono ?_; rintro e w3 ⟨rfl, rfl⟩) | (go_at_call 52; refine (hB.out _).mono ?_; rintro e w4 ⟨rfl, rfl⟩; clear hB) | (go_at_call 62; refine (hR.out _ (k1'.out.alloc _)).mono ?_; rintro e w5 ⟨rfl, g5⟩))
  exact ⟨rfl, rfl, (grown_alloc g1'.out _).trans g5⟩
set_option maxHeartbeats 4000000 in
set_option maxRecDepth 20000 in
theorem one3 (r : Nat) (c : Int) (b : Nat) (u : UInt8) (rest : List UInt8) (w : World) (h : RdX w r c b (u :: rest)) (hl : rest.length ≤ 1048575) (ht : Tab w) (hgr : 0 ≠ r)
    (hop : ¬ opNm (u.toNat : Int) = ⟨#[]⟩) (hk : kd (u.toNat : Int) = 3) (n k m j : Nat) (hg : gU rest = some (n, k)) (hg2 : gU (rest.drop k) = some (m, j)) :
    Calls Tryd.prog 44 #[.pointer (some ⟨r, 0, none⟩)] w fun e w' => e = .returned (.agg #[.int .i64 (u.toNat : Int), .int .i64 (m : Int), .int .i64 (n : Int)]) ∧ RdX w' r c b ((rest.drop k).drop j) ∧ w.grownBy w' (some r) := by
  have hrl := h.isLt
  have hbl := h.lt
  have hN : Hid (Calls Tryd.prog 58 #[.pointer (some ⟨r, 0, none⟩)] (w.alloc (.cells #[.int .i64 0, .int .i64 0, .int .i64 0] 38)) fun e w' => e = .returned (.int .u8 (u.toNat : Int)) ∧ RdX w' r c b rest ∧ (w.alloc (.cells #[.int .i64 0, .int .i64 0, .int .i64 0] 38)).grownBy w' (some r)) := by
    obtain ⟨off, cap, x⟩ := h.alloc (.cells #[.int .i64 0, .int .i64 0, .int .i64 0] 38)
    exact (next_yes r c b off cap u rest _ x).mono fun _ _ ⟨e1, ⟨o, e2⟩, e3⟩ => ⟨e1, ⟨_, _, e2⟩, e3⟩
  have hO : Hid (∀ x, Tab x → Calls Tryd.prog 34 #[.int .i64 (u.toNat : Int)] x fun e w' => e = .returned (.string (opNm (u.toNat : Int))) ∧ x = w') := fun x hx => impl_opName (u.toNat : Int) x hx
  have hB : Hid (∀ x, Calls Tryd.prog 52 #[.int .i64 (u.toNat : Int)] x fun e w' => e = .returned (.int .i64 3) ∧ x = w') := fun x => by have := behind (u.toNat : Int) x; rw [bh1 (by omega), hk] at this; exact this
  have hR : Hid (∀ x, RdX x r c b rest → Calls Tryd.prog 61 #[.pointer (some ⟨r, 0, none⟩)] x fun e w' => e = .returned (.int .i64 (n : Int)) ∧ RdX w' r c b (rest.drop k) ∧ x.grownBy w' (some r)) := fun x hx => number_yes r c b rest x hx n k hg (by omega)
  have hR2 : Hid (∀ x, RdX x r c b (rest.drop k) → Calls Tryd.prog 61 #[.pointer (some ⟨r, 0, none⟩)] x fun e w' => e = .returned (.int .i64 (m : Int)) ∧ RdX w' r c b ((rest.drop k).drop j) ∧ x.grownBy w' (some r)) := fun x hx => number_yes r c b (rest.drop k) x hx m j hg2 (by rw [List.length_drop]; omega)
  have ht' : Hid (Tab w) := ht
  obtain ⟨n1, n2⟩ := str_nil hop
  have hu := u.toNat_lt
  clear h ht hop hg hg2 hk
  generalize opNm (u.toNat : Int) = T at *
  generalize u.toNat = o at *
  go_enter Tryd.func44, Tryd.ntmps44
  go_wp2_with (first | (go_at_call 58; refine hN.out.mono ?_; rintro e w1 ⟨rfl, k1, g1⟩; have k1' : Hid (RdX w1 r c b rest) := k1; have g1' : Hid (w.grownBy w1 (some r)) := (World.grownBy_alloc w _ _).trans g1; have q1 : Hid (w1.heap[w.heap.size]? = some (boxI (.int .i64 0) (.int .i64 0) (.int .i64 0))) := blk_kept g1 (blk_new _ _ _ _) (by omega); have z1 : w.heap.size < w1.heap.size := Nat.lt_of_lt_of_le (by simp) g1.size; clear k1 g1 hN) | (go_at_call 34; refine (hO.out _ (Tab.kept ht'.out (grown_alloc g1'.out _) (fun e => hgr (Option.some.inj e)))).mono ?_; rintro e w2 ⟨rfl, rfl⟩; clear hO) | (go_at_call 59; refine (must_yes _ _).mono ?_; rintro e w3 ⟨rfl, rfl⟩) | (go_at_call 52; refine (hB.out _).mono ?_; rintro e w4 ⟨rfl, rfl⟩; clear hB) | (go_at_call 61; refine (hR.out _ (k1'.out.alloc _)).mono ?_; rintro e w5 ⟨rfl, k5, g5⟩; have k5' : Hid (RdX w5 r c b (rest.drop k)) := k5; have g5' : Hid (w.grownBy w5 (some r)) := (grown_alloc g1'.out _).trans g5; have q5 := blk_kept g5 (blk_new w1 _ _ _) (by omega); have p5 := blk_kept g5 (blk_past q1.out _) (by omega); obtain ⟨c0, c1, c2, f0, f1, f2⟩ := blk_facts q5; have s5 : Hid ((w5.setCell ⟨w1.heap.size, 2, none⟩ (.int .i64 (n : Int))).heap[w1.heap.size]? = some (boxI (.int .i64 (o : Int)) (.int .i64 0) (.int .i64 (n : Int)))) := (blk_set q5 (.int .i64 (n : Int))).2.2; have t5 : Hid ((w5.setCell ⟨w1.heap.size, 2, none⟩ (.int .i64 (n : Int))).heap[w.heap.size]? = some (boxI (.int .i64 0) (.int .i64 0) (.int .i64 0))) := blk_other (p := w1.heap.size) (j := 2) p5 (.int .i64 (n : Int)) (by omega); clear k5 g5 hR q5 p5) | (go_at_call 61; refine (hR2.out _ (k5'.out.set (by omega) (by omega))).mono ?_; rintro e w6 ⟨rfl, k6, g6⟩; have k6' : Hid (RdX w6 r c b ((rest.drop k).drop j)) := k6; have g6' : Hid (w.grownBy w6 (some r)) := (grown_set g5'.out (by omega) _).trans g6; have q6 := blk_kept g6 s5.out (by omega); have p6 := blk_kept g6 t5.out (by omega); obtain ⟨a0, a1, a2, b0, b1, b2⟩ := blk_facts q6; have s6 := (blk_set q6 (.int .i64 (m : Int))).2.1; obtain ⟨d0, d1, d2, _, _, _⟩ := blk_facts s6; have p7 := blk_other (p := w1.heap.size) (j := 1) p6 (.int .i64 (m : Int)) (by omega); obtain ⟨e0, e1, e2, e3, e4, e5, e6, e7, e8⟩ := res_facts p7 (.int .i64 (o : Int)) (.int .i64 (m : Int)) (.int .i64 (n : Int)); clear k6 g6 hR2 q6 p6 s6 p7))
  refine bodyPost_ret ?_ rfl ⟨rfl, ?_, ?_⟩
  · simp [results, go_sem, e6, e7, e8]
  · exact ((((k6'.out).set (by omega) (by omega)).set (by omega) (by omega)).set (by omega) (by omega)).set (by omega) (by omega)
  · exact grown_set (grown_set (grown_set (grown_set (g6'.out) (by omega) _) (Nat.le_refl _) _) (Nat.le_refl _) _) (Nat.le_refl _) _
set_option maxHeartbeats 4000000 in
set_option maxRecDepth 20000 in
theorem one3_no (r : Nat) (c : Int) (b : Nat) (u : UInt8) (rest : List UInt8) (w : World) (h : RdX w r c b (u :: rest)) (hl : rest.length ≤ 1048575) (ht : Tab w) (hgr : 0 ≠ r)
    (hop : ¬ opNm (u.toNat : Int) = ⟨#[]⟩) (hk : kd (u.toNat : Int) = 3) (hg : gU rest = none) :
    Calls Tryd.prog 44 #[.pointer (some ⟨r, 0, none⟩)] w fun e w' => e = gave c ∧ w.grownBy w' (some r) := by
  have hrl := h.isLt
  have hbl := h.lt
  have hN : Hid (Calls Tryd.prog 58 #[.pointer (some ⟨r, 0, none⟩)] (w.alloc (.cells #[.int .i64 0, .int .i64 0, .int .i64 0] 38)) fun e w' => e = .returned (.int .u8 (u.toNat : Int)) ∧ RdX w' r c b rest ∧ (w.alloc (.cells #[.int .i64 0, .int .i64 0, .int .i64 0] 38)).grownBy w' (some r)) := by
    obtain ⟨off, cap, x⟩ := h.alloc (.cells #[.int .i64 0, .int .i64 0, .int .i64 0] 38)
    exact (next_yes r c b off cap u rest _ x).mono fun _ _ ⟨e1, ⟨o, e2⟩, e3⟩ => ⟨e1, ⟨_, _, e2⟩, e3⟩
  have hO : Hid (∀ x, Tab x → Calls Tryd.prog 34 #[.int .i64 (u.toNat : Int)] x fun e w' => e = .returned (.string (opNm (u.toNat : Int))) ∧ x = w') := fun x hx => impl_opName (u.toNat : Int) x hx
  have hB : Hid (∀ x, Calls Tryd.prog 52 #[.int .i64 (u.toNat : Int)] x fun e w' => e = .returned (.int .i64 3) ∧ x = w') := fun x => by have := behind (u.toNat : Int) x; rw [bh1 (by omega), hk] at this; exact this
  have hR : Hid (∀ x, RdX x r c b rest → Calls Tryd.prog 61 #[.pointer (some ⟨r, 0, none⟩)] x fun e w' => e = gave c ∧ x.grownBy w' (some r)) := fun x hx => number_no r c b rest x hx hg (by omega)
  have ht' : Hid (Tab w) := ht
  obtain ⟨n1, n2⟩ := str_nil hop
  have hu := u.toNat_lt
  clear h ht hop hg hk
  generalize opNm (u.toNat : Int) = T at *
  generalize u.toNat = o at *
  go_enter Tryd.func44, Tryd.ntmps44
  go_wp2_with (first | (go_at_call 58; refine hN.out.mono ?_; rintro e w1 ⟨rfl, k1, g1⟩; have k1' : Hid (RdX w1 r c b rest) := k1; have g1' : Hid (w.grownBy w1 (some r)) := (World.grownBy_alloc w _ _).trans g1; have q1 : Hid (w1.heap[w.heap.size]? = some (boxI (.int .i64 0) (.int .i64 0) (.int .i64 0))) := blk_kept g1 (blk_new _ _ _ _) (by omega); have z1 : w.heap.size < w1.heap.size := Nat.lt_of_lt_of_le (by simp) g1.size; clear k1 g1 hN) | (go_at_call 34; refine (hO.out _ (Tab.kept ht'.out (grown_alloc g1'.out _) (fun e => hgr (Option.some.inj e)))).mono ?_; rintro e w2 ⟨rfl, rfl⟩; clear hO) | (go_at_call 59; refine (must_yes _ _).mono ?_; rintro e w3 ⟨rfl, rfl⟩) | (go_at_call 52; refine (hB.out _).mono ?_; rintro e w4 ⟨rfl, rfl⟩; clear hB) | (go_at_call 61; refine (hR.out _ (k1'.out.alloc _)).mono ?_; rintro e w5 ⟨rfl, g5⟩))
  exact ⟨rfl, rfl, (grown_alloc g1'.out _).trans g5⟩
set_option maxHeartbeats 4000000 in
set_option maxRecDepth 20000 in
theorem one3_no2 (r : Nat) (c : Int) (b : Nat) (u : UInt8) (rest : List UInt8) (w : World) (h : RdX w r c b (u :: rest)) (hl : rest.length ≤ 1048575) (ht : Tab w) (hgr : 0 ≠ r)
    (hop : ¬ opNm (u.toNat : Int) = ⟨#[]⟩) (hk : kd (u.toNat : Int) = 3) (n k : Nat) (hg : gU rest = some (n, k)) (hg2 : gU (rest.drop k) = none) :
    Calls Tryd.prog 44 #[.pointer (some ⟨r, 0, none⟩)] w fun e w' => e = gave c ∧ w.grownBy w' (some r) := by
  have hrl := h.isLt
  have hbl := h.lt
  have hN : Hid (Calls Tryd.prog 58 #[.pointer (some ⟨r, 0, none⟩)] (w.alloc (.cells #[.int .i64 0, .int .i64 0, .int .i64 0] 38)) fun e w' => e = .returned (.int .u8 (u.toNat : Int)) ∧ RdX w' r c b rest ∧ (w.alloc (.cells #[.int .i64 0, .int .i64 0, .int .i64 0] 38)).grownBy w' (some r)) := by
    obtain ⟨off, cap, x⟩ := h.alloc (.cells #[.int .i64 0, .int .i64 0, .int .i64 0] 38)
    exact (next_yes r c b off cap u rest _ x).mono fun _ _ ⟨e1, ⟨o, e2⟩, e3⟩ => ⟨e1, ⟨_, _, e2⟩, e3⟩
  have hO : Hid (∀ x, Tab x → Calls Tryd.prog 34 #[.int .i64 (u.toNat : Int)] x fun e w' => e = .returned (.string (opNm (u.toNat : Int))) ∧ x = w') := fun x hx => impl_opName (u.toNat : Int) x hx
  have hB : Hid (∀ x, Calls Tryd.prog 52 #[.int .i64 (u.toNat : Int)] x fun e w' => e = .returned (.int .i64 3) ∧ x = w') := fun x => by have := behind (u.toNat : Int) x; rw [bh1 (by omega), hk] at this; exact this
  have hR : Hid (∀ x, RdX x r c b rest → Calls Tryd.prog 61 #[.pointer (some ⟨r, 0, none⟩)] x fun e w' => e = .returned (.int .i64 (n : Int)) ∧ RdX w' r c b (rest.drop k) ∧ x.grownBy w' (some r)) := fun x hx => number_yes r c b rest x hx n k hg (by omega)
  have hR2 : Hid (∀ x, RdX x r c b (rest.drop k) → Calls Tryd.prog 61 #[.pointer (some ⟨r, 0, none⟩)] x fun e w' => e = gave c ∧ x.grownBy w' (some r)) := fun x hx => number_no r c b (rest.drop k) x hx hg2 (by rw [List.length_drop]; omega)
  have ht' : Hid (Tab w) := ht
  obtain ⟨n1, n2⟩ := str_nil hop
  have hu := u.toNat_lt
  clear h ht hop hg hg2 hk
  generalize opNm (u.toNat : Int) = T at *
  generalize u.toNat = o at *
  go_enter Tryd.func44, Tryd.ntmps44
  go_wp2_with (first | (go_at_call 58; refine hN.out.mono ?_; rintro e w1 ⟨rfl, k1, g1⟩; have k1' : Hid (RdX w1 r c b rest) := k1; have g1' : Hid (w.grownBy w1 (some r)) := (World.grownBy_alloc w _ _).trans g1; have q1 : Hid (w1.heap[w.heap.size]? = some (boxI (.int .i64 0) (.int .i64 0) (.int .i64 0))) := blk_kept g1 (blk_new _ _ _ _) (by omega); have z1 : w.heap.size < w1.heap.size := Nat.lt_of_lt_of_le (by simp) g1.size; clear k1 g1 hN) | (go_at_call 34; refine (hO.out _ (Tab.kept ht'.out (grown_alloc g1'.out _) (fun e => hgr (Option.some.inj e)))).mono ?_; rintro e w2 ⟨rfl, rfl⟩; clear hO) | (go_at_call 59; refine (must_yes _ _).mono ?_; rintro e w3 ⟨rfl, rfl⟩) | (go_at_call 52; refine (hB.out _).mono ?_; rintro e w4 ⟨rfl, rfl⟩; clear hB) | (go_at_call 61; refine (hR.out _ (k1'.out.alloc _)).mono ?_; rintro e w5 ⟨rfl, k5, g5⟩; have k5' : Hid (RdX w5 r c b (rest.drop k)) := k5; have g5' : Hid (w.grownBy w5 (some r)) := (grown_alloc g1'.out _).trans g5; have q5 := blk_kept g5 (blk_new w1 _ _ _) (by omega); have p5 := blk_kept g5 (blk_past q1.out _) (by omega); obtain ⟨c0, c1, c2, f0, f1, f2⟩ := blk_facts q5; have s5 : Hid ((w5.setCell ⟨w1.heap.size, 2, none⟩ (.int .i64 (n : Int))).heap[w1.heap.size]? = some (boxI (.int .i64 (o : Int)) (.int .i64 0) (.int .i64 (n : Int)))) := (blk_set q5 (.int .i64 (n : Int))).2.2; have t5 : Hid ((w5.setCell ⟨w1.heap.size, 2, none⟩ (.int .i64 (n : Int))).heap[w.heap.size]? = some (boxI (.int .i64 0) (.int .i64 0) (.int .i64 0))) := blk_other (p := w1.heap.size) (j := 2) p5 (.int .i64 (n : Int)) (by omega); clear k5 g5 hR q5 p5) | (go_at_call 61; refine (hR2.out _ (k5'.out.set (by omega) (by omega))).mono ?_; rintro e w6 ⟨rfl, g6⟩))
  exact ⟨rfl, rfl, (grown_set g5'.out (by omega) _).trans g6⟩
set_option maxHeartbeats 4000000 in
set_option maxRecDepth 20000 in
theorem one1_0 (r : Nat) (c : Int) (b : Nat) (u : UInt8) (rest : List UInt8) (w : World) (h : RdX w r c b (u :: rest)) (ht : Tab w) (hgr : 0 ≠ r)
    (hop : ¬ opNm (u.toNat : Int) = ⟨#[]⟩) (hk : kd (u.toNat : Int) = 1) (x0 : UInt8) (rest' : List UInt8) (hr : rest = x0 :: rest') (hx0 : x0 = 64) :
    Calls Tryd.prog 44 #[.pointer (some ⟨r, 0, none⟩)] w fun e w' => e = .returned (.agg #[.int .i64 (u.toNat : Int), .int .i64 0, .int .i64 0]) ∧ RdX w' r c b (rest.drop 1) ∧ w.grownBy w' (some r) := by
  have hrl := h.isLt
  have hbl := h.lt
  have hN : Hid (Calls Tryd.prog 58 #[.pointer (some ⟨r, 0, none⟩)] (w.alloc (.cells #[.int .i64 0, .int .i64 0, .int .i64 0] 38)) fun e w' => e = .returned (.int .u8 (u.toNat : Int)) ∧ RdX w' r c b rest ∧ (w.alloc (.cells #[.int .i64 0, .int .i64 0, .int .i64 0] 38)).grownBy w' (some r)) := by
    obtain ⟨off, cap, x⟩ := h.alloc (.cells #[.int .i64 0, .int .i64 0, .int .i64 0] 38)
    exact (next_yes r c b off cap u rest _ x).mono fun _ _ ⟨e1, ⟨o, e2⟩, e3⟩ => ⟨e1, ⟨_, _, e2⟩, e3⟩
  have hO : Hid (∀ x, Tab x → Calls Tryd.prog 34 #[.int .i64 (u.toNat : Int)] x fun e w' => e = .returned (.string (opNm (u.toNat : Int))) ∧ x = w') := fun x hx => impl_opName (u.toNat : Int) x hx
  have hB : Hid (∀ x, Calls Tryd.prog 52 #[.int .i64 (u.toNat : Int)] x fun e w' => e = .returned (.int .i64 1) ∧ x = w') := fun x => by have := behind (u.toNat : Int) x; rw [bh1 (by omega), hk] at this; exact this
  have hR : Hid (∀ x g, RdX x r c b rest → g = x.heap.size → Calls Tryd.prog 60 #[.pointer (some ⟨r, 0, none⟩), .slice (some ⟨g, 0, none⟩) 2 2] (x.alloc (.cells #[.int .u8 64, .int .u8 127] 5)) fun e w' => e = .returned (.int .i64 0) ∧ RdX w' r c b (rest.drop 1) ∧ x.grownBy w' (some r)) := fun x g hx hgx => by
    subst hgx
    have hne : x.heap.size ≠ r := by have := hx.isLt; omega
    have hcl : ∀ j, j < ([64, 127] : List UInt8).length → (x.alloc (.cells #[.int .u8 64, .int .u8 127] 5)).cell? ⟨x.heap.size, j, none⟩ = some (.int .u8 (((([64, 127] : List UInt8))[j]?.getD 0).toNat : Int)) := fun j hj => by
      have : j = 0 ∨ j = 1 := by simp at hj; omega
      rcases this with rfl | rfl <;> simp
    rw [hr] at hx
    have hw : which ([64, 127] : List UInt8) x0 = 0 := by rw [which2]; subst hx0; decide
    refine (oneOf_yes r c b x0 rest' _ ([64, 127] : List UInt8) x.heap.size 2 (hx.alloc _) hcl hne (by rw [hw]; decide)).mono ?_
    rw [hw, hr]
    rintro e w' ⟨e1, e2, e3⟩
    exact ⟨e1, e2, (World.grownBy_alloc x _ _).trans e3⟩
  have ht' : Hid (Tab w) := ht
  obtain ⟨n1, n2⟩ := str_nil hop
  have hu := u.toNat_lt
  clear h ht hop hk hx0 hr
  generalize opNm (u.toNat : Int) = T at *
  generalize u.toNat = o at *
  go_enter Tryd.func44, Tryd.ntmps44
  go_wp2_with (first | (go_at_call 58; refine hN.out.mono ?_; rintro e w1 ⟨rfl, k1, g1⟩; have k1' : Hid (RdX w1 r c b rest) := k1; have g1' : Hid (w.grownBy w1 (some r)) := (World.grownBy_alloc w _ _).trans g1; have q1 : Hid (w1.heap[w.heap.size]? = some (boxI (.int .i64 0) (.int .i64 0) (.int .i64 0))) := blk_kept g1 (blk_new _ _ _ _) (by omega); have z1 : w.heap.size < w1.heap.size := Nat.lt_of_lt_of_le (by simp) g1.size; clear k1 g1 hN) | (go_at_call 34; refine (hO.out _ (Tab.kept ht'.out (grown_alloc g1'.out _) (fun e => hgr (Option.some.inj e)))).mono ?_; rintro e w2 ⟨rfl, rfl⟩; clear hO) | (go_at_call 59; refine (must_yes _ _).mono ?_; rintro e w3 ⟨rfl, rfl⟩) | (go_at_call 52; refine (hB.out _).mono ?_; rintro e w4 ⟨rfl, rfl⟩; clear hB) | (go_at_call 60; refine (hR.out _ _ (k1'.out.alloc _) (by simp)).mono ?_; rintro e w5 ⟨rfl, k5, g5⟩; have k5' : Hid (RdX w5 r c b (rest.drop 1)) := k5; have g5' : Hid (w.grownBy w5 (some r)) := (grown_alloc g1'.out _).trans g5; have q5 := blk_kept g5 (blk_new w1 _ _ _) (by omega); have p5 := blk_kept g5 (blk_past q1.out _) (by omega); obtain ⟨c0, c1, c2, f0, f1, f2⟩ := blk_facts q5; have s5 := (blk_set q5 (.int .i64 0)).2.1; obtain ⟨d0, d1, d2, _, _, _⟩ := blk_facts s5; have p6 := blk_other (p := w1.heap.size) (j := 1) p5 (.int .i64 0) (by omega); obtain ⟨e0, e1, e2, e3, e4, e5, e6, e7, e8⟩ := res_facts p6 (.int .i64 (o : Int)) (.int .i64 0) (.int .i64 0); clear s5 p6 q5 p5 k5 g5 hR))
  refine bodyPost_ret ?_ rfl ⟨rfl, ?_, ?_⟩
  · simp [results, go_sem, e6, e7, e8]
  · exact ((((k5'.out).set (by omega) (by omega)).set (by omega) (by omega)).set (by omega) (by omega)).set (by omega) (by omega)
  · exact grown_set (grown_set (grown_set (grown_set (g5'.out) (by omega) _) (Nat.le_refl _) _) (Nat.le_refl _) _) (Nat.le_refl _) _
set_option maxHeartbeats 4000000 in
set_option maxRecDepth 20000 in
theorem one1_1 (r : Nat) (c : Int) (b : Nat) (u : UInt8) (rest : List UInt8) (w : World) (h : RdX w r c b (u :: rest)) (ht : Tab w) (hgr : 0 ≠ r)
    (hop : ¬ opNm (u.toNat : Int) = ⟨#[]⟩) (hk : kd (u.toNat : Int) = 1) (x0 : UInt8) (rest' : List UInt8) (hr : rest = x0 :: rest') (hx0 : x0 = 127) :
    Calls Tryd.prog 44 #[.pointer (some ⟨r, 0, none⟩)] w fun e w' => e = .returned (.agg #[.int .i64 (u.toNat : Int), .int .i64 1, .int .i64 0]) ∧ RdX w' r c b (rest.drop 1) ∧ w.grownBy w' (some r) := by
  have hrl := h.isLt
  have hbl := h.lt
  have hN : Hid (Calls Tryd.prog 58 #[.pointer (some ⟨r, 0, none⟩)] (w.alloc (.cells #[.int .i64 0, .int .i64 0, .int .i64 0] 38)) fun e w' => e = .returned (.int .u8 (u.toNat : Int)) ∧ RdX w' r c b rest ∧ (w.alloc (.cells #[.int .i64 0, .int .i64 0, .int .i64 0] 38)).grownBy w' (some r)) := by
    obtain ⟨off, cap, x⟩ := h.alloc (.cells #[.int .i64 0, .int .i64 0, .int .i64 0] 38)
    exact (next_yes r c b off cap u rest _ x).mono fun _ _ ⟨e1, ⟨o, e2⟩, e3⟩ => ⟨e1, ⟨_, _, e2⟩, e3⟩
  have hO : Hid (∀ x, Tab x → Calls Tryd.prog 34 #[.int .i64 (u.toNat : Int)] x fun e w' => e = .returned (.string (opNm (u.toNat : Int))) ∧ x = w') := fun x hx => impl_opName (u.toNat : Int) x hx
  have hB : Hid (∀ x, Calls Tryd.prog 52 #[.int .i64 (u.toNat : Int)] x fun e w' => e = .returned (.int .i64 1) ∧ x = w') := fun x => by have := behind (u.toNat : Int) x; rw [bh1 (by omega), hk] at this; exact this
  have hR : Hid (∀ x g, RdX x r c b rest → g = x.heap.size → Calls Tryd.prog 60 #[.pointer (some ⟨r, 0, none⟩), .slice (some ⟨g, 0, none⟩) 2 2] (x.alloc (.cells #[.int .u8 64, .int .u8 127] 5)) fun e w' => e = .returned (.int .i64 1) ∧ RdX w' r c b (rest.drop 1) ∧ x.grownBy w' (some r)) := fun x g hx hgx => by
    subst hgx
    have hne : x.heap.size ≠ r := by have := hx.isLt; omega
    have hcl : ∀ j, j < ([64, 127] : List UInt8).length → (x.alloc (.cells #[.int .u8 64, .int .u8 127] 5)).cell? ⟨x.heap.size, j, none⟩ = some (.int .u8 (((([64, 127] : List UInt8))[j]?.getD 0).toNat : Int)) := fun j hj => by
      have : j = 0 ∨ j = 1 := by simp at hj; omega
      rcases this with rfl | rfl <;> simp
    rw [hr] at hx
    have hw : which ([64, 127] : List UInt8) x0 = 1 := by rw [which2]; subst hx0; decide
    refine (oneOf_yes r c b x0 rest' _ ([64, 127] : List UInt8) x.heap.size 2 (hx.alloc _) hcl hne (by rw [hw]; decide)).mono ?_
    rw [hw, hr]
    rintro e w' ⟨e1, e2, e3⟩
    exact ⟨e1, e2, (World.grownBy_alloc x _ _).trans e3⟩
  have ht' : Hid (Tab w) := ht
  obtain ⟨n1, n2⟩ := str_nil hop
  have hu := u.toNat_lt
  clear h ht hop hk hx0 hr
  generalize opNm (u.toNat : Int) = T at *
  generalize u.toNat = o at *
  go_enter Tryd.func44, Tryd.ntmps44
  go_wp2_with (first | (go_at_call 58; refine hN.out.mono ?_; rintro e w1 ⟨rfl, k1, g1⟩; have k1' : Hid (RdX w1 r c b rest) := k1; have g1' : Hid (w.grownBy w1 (some r)) := (World.grownBy_alloc w _ _).trans g1; have q1 : Hid (w1.heap[w.heap.size]? = some (boxI (.int .i64 0) (.int .i64 0) (.int .i64 0))) := blk_kept g1 (blk_new _ _ _ _) (by omega); have z1 : w.heap.size < w1.heap.size := Nat.lt_of_lt_of_le (by simp) g1.size; clear k1 g1 hN) | (go_at_call 34; refine (hO.out _ (Tab.kept ht'.out (grown_alloc g1'.out _) (fun e => hgr (Option.some.inj e)))).mono ?_; rintro e w2 ⟨rfl, rfl⟩; clear hO) | (go_at_call 59; refine (must_yes _ _).mono ?_; rintro e w3 ⟨rfl, rfl⟩) | (go_at_call 52; refine (hB.out _).mono ?_; rintro e w4 ⟨rfl, rfl⟩; clear hB) | (go_at_call 60; refine (hR.out _ _ (k1'.out.alloc _) (by simp)).mono ?_; rintro e w5 ⟨rfl, k5, g5⟩; have k5' : Hid (RdX w5 r c b (rest.drop 1)) := k5; have g5' : Hid (w.grownBy w5 (some r)) := (grown_alloc g1'.out _).trans g5; have q5 := blk_kept g5 (blk_new w1 _ _ _) (by omega); have p5 := blk_kept g5 (blk_past q1.out _) (by omega); obtain ⟨c0, c1, c2, f0, f1, f2⟩ := blk_facts q5; have s5 := (blk_set q5 (.int .i64 1)).2.1; obtain ⟨d0, d1, d2, _, _, _⟩ := blk_facts s5; have p6 := blk_other (p := w1.heap.size) (j := 1) p5 (.int .i64 1) (by omega); obtain ⟨e0, e1, e2, e3, e4, e5, e6, e7, e8⟩ := res_facts p6 (.int .i64 (o : Int)) (.int .i64 1) (.int .i64 0); clear s5 p6 q5 p5 k5 g5 hR))
  refine bodyPost_ret ?_ rfl ⟨rfl, ?_, ?_⟩
  · simp [results, go_sem, e6, e7, e8]
  · exact ((((k5'.out).set (by omega) (by omega)).set (by omega) (by omega)).set (by omega) (by omega)).set (by omega) (by omega)
  · exact grown_set (grown_set (grown_set (grown_set (g5'.out) (by omega) _) (Nat.le_refl _) _) (Nat.le_refl _) _) (Nat.le_refl _) _
set_option maxHeartbeats 4000000 in
set_option maxRecDepth 20000 in
theorem one1_no (r : Nat) (c : Int) (b : Nat) (u : UInt8) (rest : List UInt8) (w : World) (h : RdX w r c b (u :: rest)) (ht : Tab w) (hgr : 0 ≠ r)
    (hop : ¬ opNm (u.toNat : Int) = ⟨#[]⟩) (hk : kd (u.toNat : Int) = 1) (x0 : UInt8) (rest' : List UInt8) (hr : rest = x0 :: rest') (h64 : ¬ x0 = 64) (h127 : ¬ x0 = 127) :
    Calls Tryd.prog 44 #[.pointer (some ⟨r, 0, none⟩)] w fun e w' => e = gave c ∧ w.grownBy w' (some r) := by
  have hrl := h.isLt
  have hbl := h.lt
  have hN : Hid (Calls Tryd.prog 58 #[.pointer (some ⟨r, 0, none⟩)] (w.alloc (.cells #[.int .i64 0, .int .i64 0, .int .i64 0] 38)) fun e w' => e = .returned (.int .u8 (u.toNat : Int)) ∧ RdX w' r c b rest ∧ (w.alloc (.cells #[.int .i64 0, .int .i64 0, .int .i64 0] 38)).grownBy w' (some r)) := by
    obtain ⟨off, cap, x⟩ := h.alloc (.cells #[.int .i64 0, .int .i64 0, .int .i64 0] 38)
    exact (next_yes r c b off cap u rest _ x).mono fun _ _ ⟨e1, ⟨o, e2⟩, e3⟩ => ⟨e1, ⟨_, _, e2⟩, e3⟩
  have hO : Hid (∀ x, Tab x → Calls Tryd.prog 34 #[.int .i64 (u.toNat : Int)] x fun e w' => e = .returned (.string (opNm (u.toNat : Int))) ∧ x = w') := fun x hx => impl_opName (u.toNat : Int) x hx
  have hB : Hid (∀ x, Calls Tryd.prog 52 #[.int .i64 (u.toNat : Int)] x fun e w' => e = .returned (.int .i64 1) ∧ x = w') := fun x => by have := behind (u.toNat : Int) x; rw [bh1 (by omega), hk] at this; exact this
  have hR : Hid (∀ x g, RdX x r c b rest → g = x.heap.size → Calls Tryd.prog 60 #[.pointer (some ⟨r, 0, none⟩), .slice (some ⟨g, 0, none⟩) 2 2] (x.alloc (.cells #[.int .u8 64, .int .u8 127] 5)) fun e w' => e = gave c ∧ x.grownBy w' (some r)) := fun x g hx hgx => by
    subst hgx
    have hne : x.heap.size ≠ r := by have := hx.isLt; omega
    have hcl : ∀ j, j < ([64, 127] : List UInt8).length → (x.alloc (.cells #[.int .u8 64, .int .u8 127] 5)).cell? ⟨x.heap.size, j, none⟩ = some (.int .u8 (((([64, 127] : List UInt8))[j]?.getD 0).toNat : Int)) := fun j hj => by
      have : j = 0 ∨ j = 1 := by simp at hj; omega
      rcases this with rfl | rfl <;> simp
    rw [hr] at hx
    refine (oneOf_no r c b x0 rest' _ ([64, 127] : List UInt8) x.heap.size 2 (hx.alloc _) hcl hne (by rw [which2, if_neg h64, if_neg h127]; decide)).mono ?_
    rintro e w' ⟨e1, e3⟩
    exact ⟨e1, (World.grownBy_alloc x _ _).trans e3⟩
  have ht' : Hid (Tab w) := ht
  obtain ⟨n1, n2⟩ := str_nil hop
  have hu := u.toNat_lt
  clear h ht hop hk h64 h127 hr
  generalize opNm (u.toNat : Int) = T at *
  generalize u.toNat = o at *
  go_enter Tryd.func44, Tryd.ntmps44
  go_wp2_with (first | (go_at_call 58; refine hN.out.mono ?_; rintro e w1 ⟨rfl, k1, g1⟩; have k1' : Hid (RdX w1 r c b rest) := k1; have g1' : Hid (w.grownBy w1 (some r)) := (World.grownBy_alloc w _ _).trans g1; have q1 : Hid (w1.heap[w.heap.size]? = some (boxI (.int .i64 0) (.int .i64 0) (.int .i64 0))) := blk_kept g1 (blk_new _ _ _ _) (by omega); have z1 : w.heap.size < w1.heap.size := Nat.lt_of_lt_of_le (by simp) g1.size; clear k1 g1 hN) | (go_at_call 34; refine (hO.out _ (Tab.kept ht'.out (grown_alloc g1'.out _) (fun e => hgr (Option.some.inj e)))).mono ?_; rintro e w2 ⟨rfl, rfl⟩; clear hO) | (go_at_call 59; refine (must_yes _ _).mono ?_; rintro e w3 ⟨rfl, rfl⟩) | (go_at_call 52; refine (hB.out _).mono ?_; rintro e w4 ⟨rfl, rfl⟩; clear hB) | (go_at_call 60; refine (hR.out _ _ (k1'.out.alloc _) (by simp)).mono ?_; rintro e w5 ⟨rfl, g5⟩))
  exact ⟨rfl, rfl, (grown_alloc g1'.out _).trans g5⟩
set_option maxHeartbeats 4000000 in
set_option maxRecDepth 20000 in
theorem one1_end (r : Nat) (c : Int) (b : Nat) (u : UInt8) (rest : List UInt8) (w : World) (h : RdX w r c b (u :: rest)) (ht : Tab w) (hgr : 0 ≠ r)
    (hop : ¬ opNm (u.toNat : Int) = ⟨#[]⟩) (hk : kd (u.toNat : Int) = 1) (hr : rest = []) :
    Calls Tryd.prog 44 #[.pointer (some ⟨r, 0, none⟩)] w fun e w' => e = gave c ∧ w.grownBy w' (some r) := by
  have hrl := h.isLt
  have hbl := h.lt
  have hN : Hid (Calls Tryd.prog 58 #[.pointer (some ⟨r, 0, none⟩)] (w.alloc (.cells #[.int .i64 0, .int .i64 0, .int .i64 0] 38)) fun e w' => e = .returned (.int .u8 (u.toNat : Int)) ∧ RdX w' r c b rest ∧ (w.alloc (.cells #[.int .i64 0, .int .i64 0, .int .i64 0] 38)).grownBy w' (some r)) := by
    obtain ⟨off, cap, x⟩ := h.alloc (.cells #[.int .i64 0, .int .i64 0, .int .i64 0] 38)
    exact (next_yes r c b off cap u rest _ x).mono fun _ _ ⟨e1, ⟨o, e2⟩, e3⟩ => ⟨e1, ⟨_, _, e2⟩, e3⟩
  have hO : Hid (∀ x, Tab x → Calls Tryd.prog 34 #[.int .i64 (u.toNat : Int)] x fun e w' => e = .returned (.string (opNm (u.toNat : Int))) ∧ x = w') := fun x hx => impl_opName (u.toNat : Int) x hx
  have hB : Hid (∀ x, Calls Tryd.prog 52 #[.int .i64 (u.toNat : Int)] x fun e w' => e = .returned (.int .i64 1) ∧ x = w') := fun x => by have := behind (u.toNat : Int) x; rw [bh1 (by omega), hk] at this; exact this
  have hR : Hid (∀ x g, RdX x r c b rest → g = x.heap.size → Calls Tryd.prog 60 #[.pointer (some ⟨r, 0, none⟩), .slice (some ⟨g, 0, none⟩) 2 2] (x.alloc (.cells #[.int .u8 64, .int .u8 127] 5)) fun e w' => e = gave c ∧ x.grownBy w' (some r)) := fun x g hx hgx => by
    subst hgx
    rw [hr] at hx
    refine (oneOf_end r c b _ ([64, 127] : List UInt8) x.heap.size 2 (hx.alloc _)).mono ?_
    rintro e w' ⟨e1, e3⟩
    exact ⟨e1, (World.grownBy_alloc x _ _).trans e3⟩
  have ht' : Hid (Tab w) := ht
  obtain ⟨n1, n2⟩ := str_nil hop
  have hu := u.toNat_lt
  clear h ht hop hk hr
  generalize opNm (u.toNat : Int) = T at *
  generalize u.toNat = o at *
  go_enter Tryd.func44, Tryd.ntmps44
  go_wp2_with (first | (go_at_call 58; refine hN.out.mono ?_; rintro e w1 ⟨rfl, k1, g1⟩; have k1' : Hid (RdX w1 r c b rest) := k1; have g1' : Hid (w.grownBy w1 (some r)) := (World.grownBy_alloc w _ _).trans g1; have q1 : Hid (w1.heap[w.heap.size]? = some (boxI (.int .i64 0) (.int .i64 0) (.int .i64 0))) := blk_kept g1 (blk_new _ _ _ _) (by omega); have z1 : w.heap.size < w1.heap.size := Nat.lt_of_lt_of_le (by simp) g1.size; clear k1 g1 hN) | (go_at_call 34; refine (hO.out _ (Tab.kept ht'.out (grown_alloc g1'.out _) (fun e => hgr (Option.some.inj e)))).mono ?_; rintro e w2 ⟨rfl, rfl⟩; clear hO) | (go_at_call 59; refine (must_yes _ _).mono ?_; rintro e w3 ⟨rfl, rfl⟩) | (go_at_call 52; refine (hB.out _).mono ?_; rintro e w4 ⟨rfl, rfl⟩; clear hB) | (go_at_call 60; refine (hR.out _ _ (k1'.out.alloc _) (by simp)).mono ?_; rintro e w5 ⟨rfl, g5⟩))
  exact ⟨rfl, rfl, (grown_alloc g1'.out _).trans g5⟩
set_option maxHeartbeats 4000000 in
set_option maxRecDepth 20000 in
theorem one5 (r : Nat) (c : Int) (b : Nat) (u : UInt8) (rest : List UInt8) (w : World) (h : RdX w r c b (u :: rest)) (ht : Tab w) (hgr : 0 ≠ r)
    (hop : ¬ opNm (u.toNat : Int) = ⟨#[]⟩) (hk : kd (u.toNat : Int) = 0) (ho : (u.toNat : Int) = 63 ∨ (u.toNat : Int) = 64) (x0 : UInt8) (rest' : List UInt8) (hr : rest = x0 :: rest') (hx0 : x0 = 0) :
    Calls Tryd.prog 44 #[.pointer (some ⟨r, 0, none⟩)] w fun e w' => e = .returned (.agg #[.int .i64 (u.toNat : Int), .int .i64 0, .int .i64 0]) ∧ RdX w' r c b (rest.drop 1) ∧ w.grownBy w' (some r) := by
  have hrl := h.isLt
  have hbl := h.lt
  have hN : Hid (Calls Tryd.prog 58 #[.pointer (some ⟨r, 0, none⟩)] (w.alloc (.cells #[.int .i64 0, .int .i64 0, .int .i64 0] 38)) fun e w' => e = .returned (.int .u8 (u.toNat : Int)) ∧ RdX w' r c b rest ∧ (w.alloc (.cells #[.int .i64 0, .int .i64 0, .int .i64 0] 38)).grownBy w' (some r)) := by
    obtain ⟨off, cap, x⟩ := h.alloc (.cells #[.int .i64 0, .int .i64 0, .int .i64 0] 38)
    exact (next_yes r c b off cap u rest _ x).mono fun _ _ ⟨e1, ⟨o, e2⟩, e3⟩ => ⟨e1, ⟨_, _, e2⟩, e3⟩
  have hO : Hid (∀ x, Tab x → Calls Tryd.prog 34 #[.int .i64 (u.toNat : Int)] x fun e w' => e = .returned (.string (opNm (u.toNat : Int))) ∧ x = w') := fun x hx => impl_opName (u.toNat : Int) x hx
  have hB : Hid (∀ x, Calls Tryd.prog 52 #[.int .i64 (u.toNat : Int)] x fun e w' => e = .returned (.int .i64 5) ∧ x = w') := fun x => by have := behind (u.toNat : Int) x; rw [bh0 hk ho] at this; exact this
  have hR : Hid (∀ x g, RdX x r c b rest → g = x.heap.size → Calls Tryd.prog 60 #[.pointer (some ⟨r, 0, none⟩), .slice (some ⟨g, 0, none⟩) 1 1] (x.alloc (.cells #[.int .u8 0] 5)) fun e w' => e = .returned (.int .i64 0) ∧ RdX w' r c b (rest.drop 1) ∧ x.grownBy w' (some r)) := fun x g hx hgx => by
    subst hgx
    have hne : x.heap.size ≠ r := by have := hx.isLt; omega
    have hcl : ∀ j, j < ([0] : List UInt8).length → (x.alloc (.cells #[.int .u8 0] 5)).cell? ⟨x.heap.size, j, none⟩ = some (.int .u8 (((([0] : List UInt8))[j]?.getD 0).toNat : Int)) := fun j hj => by
      obtain rfl : j = 0 := by simp at hj; omega
      simp
    rw [hr] at hx
    have hw : which ([0] : List UInt8) x0 = 0 := by rw [which1]; subst hx0; decide
    refine (oneOf_yes r c b x0 rest' _ ([0] : List UInt8) x.heap.size 1 (hx.alloc _) hcl hne (by rw [hw]; decide)).mono ?_
    rw [hw, hr]
    rintro e w' ⟨e1, e2, e3⟩
    exact ⟨e1, e2, (World.grownBy_alloc x _ _).trans e3⟩
  have ht' : Hid (Tab w) := ht
  obtain ⟨n1, n2⟩ := str_nil hop
  have hu := u.toNat_lt
  clear h ht hop hk ho hx0 hr
  generalize opNm (u.toNat : Int) = T at *
  generalize u.toNat = o at *
  go_enter Tryd.func44, Tryd.ntmps44
  go_wp2_with (first | (go_at_call 58; refine hN.out.mono ?_; rintro e w1 ⟨rfl, k1, g1⟩; have k1' : Hid (RdX w1 r c b rest) := k1; have g1' : Hid (w.grownBy w1 (some r)) := (World.grownBy_alloc w _ _).trans g1; have q1 : Hid (w1.heap[w.heap.size]? = some (boxI (.int .i64 0) (.int .i64 0) (.int .i64 0))) := blk_kept g1 (blk_new _ _ _ _) (by omega); have z1 : w.heap.size < w1.heap.size := Nat.lt_of_lt_of_le (by simp) g1.size; clear k1 g1 hN) | (go_at_call 34; refine (hO.out _ (Tab.kept ht'.out (grown_alloc g1'.out _) (fun e => hgr (Option.some.inj e)))).mono ?_; rintro e w2 ⟨rfl, rfl⟩; clear hO) | (go_at_call 59; refine (must_yes _ _).mono ?_; rintro e w3 ⟨rfl, rfl⟩) | (go_at_call 52; refine (hB.out _).mono ?_; rintro e w4 ⟨rfl, rfl⟩; clear hB) | (go_at_call 60; refine (hR.out _ _ (k1'.out.alloc _) (by simp)).mono ?_; rintro e w5 ⟨rfl, k5, g5⟩; have k5' : Hid (RdX w5 r c b (rest.drop 1)) := k5; have g5' : Hid (w.grownBy w5 (some r)) := (grown_alloc g1'.out _).trans g5; have q5 := blk_kept g5 (blk_new w1 _ _ _) (by omega); have p5 := blk_kept g5 (blk_past q1.out _) (by omega); obtain ⟨c0, c1, c2, f0, f1, f2⟩ := blk_facts q5; obtain ⟨e0, e1, e2, e3, e4, e5, e6, e7, e8⟩ := res_facts p5 (.int .i64 (o : Int)) (.int .i64 0) (.int .i64 0); clear q5 p5 k5 g5 hR))
  refine bodyPost_ret ?_ rfl ⟨rfl, ?_, ?_⟩
  · simp [results, go_sem, e6, e7, e8]
  · exact (((k5'.out).set (by omega) (by omega)).set (by omega) (by omega)).set (by omega) (by omega)
  · exact grown_set (grown_set (grown_set (g5'.out) (Nat.le_refl _) _) (Nat.le_refl _) _) (Nat.le_refl _) _
set_option maxHeartbeats 4000000 in
set_option maxRecDepth 20000 in
theorem one5_no (r : Nat) (c : Int) (b : Nat) (u : UInt8) (rest : List UInt8) (w : World) (h : RdX w r c b (u :: rest)) (ht : Tab w) (hgr : 0 ≠ r)
    (hop : ¬ opNm (u.toNat : Int) = ⟨#[]⟩) (hk : kd (u.toNat : Int) = 0) (ho : (u.toNat : Int) = 63 ∨ (u.toNat : Int) = 64) (x0 : UInt8) (rest' : List UInt8) (hr : rest = x0 :: rest') (hx0 : ¬ x0 = 0) :
    Calls Tryd.prog 44 #[.pointer (some ⟨r, 0, none⟩)] w fun e w' => e = gave c ∧ w.grownBy w' (some r) := by
  have hrl := h.isLt
  have hbl := h.lt
  have hN : Hid (Calls Tryd.prog 58 #[.pointer (some ⟨r, 0, none⟩)] (w.alloc (.cells #[.int .i64 0, .int .i64 0, .int .i64 0] 38)) fun e w' => e = .returned (.int .u8 (u.toNat : Int)) ∧ RdX w' r c b rest ∧ (w.alloc (.cells #[.int .i64 0, .int .i64 0, .int .i64 0] 38)).grownBy w' (some r)) := by
    obtain ⟨off, cap, x⟩ := h.alloc (.cells #[.int .i64 0, .int .i64 0, .int .i64 0] 38)
    exact (next_yes r c b off cap u rest _ x).mono fun _ _ ⟨e1, ⟨o, e2⟩, e3⟩ => ⟨e1, ⟨_, _, e2⟩, e3⟩
  have hO : Hid (∀ x, Tab x → Calls Tryd.prog 34 #[.int .i64 (u.toNat : Int)] x fun e w' => e = .returned (.string (opNm (u.toNat : Int))) ∧ x = w') := fun x hx => impl_opName (u.toNat : Int) x hx
  have hB : Hid (∀ x, Calls Tryd.prog 52 #[.int .i64 (u.toNat : Int)] x fun e w' => e = .returned (.int .i64 5) ∧ x = w') := fun x => by have := behind (u.toNat : Int) x; rw [bh0 hk ho] at this; exact this
  have hR : Hid (∀ x g, RdX x r c b rest → g = x.heap.size → Calls Tryd.prog 60 #[.pointer (some ⟨r, 0, none⟩), .slice (some ⟨g, 0, none⟩) 1 1] (x.alloc (.cells #[.int .u8 0] 5)) fun e w' => e = gave c ∧ x.grownBy w' (some r)) := fun x g hx hgx => by
    subst hgx
    have hne : x.heap.size ≠ r := by have := hx.isLt; omega
    have hcl : ∀ j, j < ([0] : List UInt8).length → (x.alloc (.cells #[.int .u8 0] 5)).cell? ⟨x.heap.size, j, none⟩ = some (.int .u8 (((([0] : List UInt8))[j]?.getD 0).toNat : Int)) := fun j hj => by
      obtain rfl : j = 0 := by simp at hj; omega
      simp
    rw [hr] at hx
    refine (oneOf_no r c b x0 rest' _ ([0] : List UInt8) x.heap.size 1 (hx.alloc _) hcl hne (by rw [which1, if_neg hx0]; decide)).mono ?_
    rintro e w' ⟨e1, e3⟩
    exact ⟨e1, (World.grownBy_alloc x _ _).trans e3⟩
  have ht' : Hid (Tab w) := ht
  obtain ⟨n1, n2⟩ := str_nil hop
  have hu := u.toNat_lt
  clear h ht hop hk ho hx0 hr
  generalize opNm (u.toNat : Int) = T at *
  generalize u.toNat = o at *
  go_enter Tryd.func44, Tryd.ntmps44
  go_wp2_with (first | (go_at_call 58; refine hN.out.mono ?_; rintro e w1 ⟨rfl, k1, g1⟩; have k1' : Hid (RdX w1 r c b rest) := k1; have g1' : Hid (w.grownBy w1 (some r)) := (World.grownBy_alloc w _ _).trans g1; have q1 : Hid (w1.heap[w.heap.size]? = some (boxI (.int .i64 0) (.int .i64 0) (.int .i64 0))) := blk_kept g1 (blk_new _ _ _ _) (by omega); have z1 : w.heap.size < w1.heap.size := Nat.lt_of_lt_of_le (by simp) g1.size; clear k1 g1 hN) | (go_at_call 34; refine (hO.out _ (Tab.kept ht'.out (grown_alloc g1'.out _) (fun e => hgr (Option.some.inj e)))).mono ?_; rintro e w2 ⟨rfl, rfl⟩; clear hO) | (go_at_call 59; refine (must_yes _ _).mono ?_; rintro e w3 ⟨rfl, rfl⟩) | (go_at_call 52; refine (hB.out _).mono ?_; rintro e w4 ⟨rfl, rfl⟩; clear hB) | (go_at_call 60; refine (hR.out _ _ (k1'.out.alloc _) (by simp)).mono ?_; rintro e w5 ⟨rfl, g5⟩))
  exact ⟨rfl, rfl, (grown_alloc g1'.out _).trans g5⟩
set_option maxHeartbeats 4000000 in
set_option maxRecDepth 20000 in
theorem one5_end (r : Nat) (c : Int) (b : Nat) (u : UInt8) (rest : List UInt8) (w : World) (h : RdX w r c b (u :: rest)) (ht : Tab w) (hgr : 0 ≠ r)
    (hop : ¬ opNm (u.toNat : Int) = ⟨#[]⟩) (hk : kd (u.toNat : Int) = 0) (ho : (u.toNat : Int) = 63 ∨ (u.toNat : Int) = 64) (hr : rest = []) :
    Calls Tryd.prog 44 #[.pointer (some ⟨r, 0, none⟩)] w fun e w' => e = gave c ∧ w.grownBy w' (some r) := by
  have hrl := h.isLt
  have hbl := h.lt
  have hN : Hid (Calls Tryd.prog 58 #[.pointer (some ⟨r, 0, none⟩)] (w.alloc (.cells #[.int .i64 0, .int .i64 0, .int .i64 0] 38)) fun e w' => e = .returned (.int .u8 (u.toNat : Int)) ∧ RdX w' r c b rest ∧ (w.alloc (.cells #[.int .i64 0, .int .i64 0, .int .i64 0] 38)).grownBy w' (some r)) := by
    obtain ⟨off, cap, x⟩ := h.alloc (.cells #[.int .i64 0, .int .i64 0, .int .i64 0] 38)
    exact (next_yes r c b off cap u rest _ x).mono fun _ _ ⟨e1, ⟨o, e2⟩, e3⟩ => ⟨e1, ⟨_, _, e2⟩, e3⟩
  have hO : Hid (∀ x, Tab x → Calls Tryd.prog 34 #[.int .i64 (u.toNat : Int)] x fun e w' => e = .returned (.string (opNm (u.toNat : Int))) ∧ x = w') := fun x hx => impl_opName (u.toNat : Int) x hx
  have hB : Hid (∀ x, Calls Tryd.prog 52 #[.int .i64 (u.toNat : Int)] x fun e w' => e = .returned (.int .i64 5) ∧ x = w') := fun x => by have := behind (u.toNat : Int) x; rw [bh0 hk ho] at this; exact this
  have hR : Hid (∀ x g, RdX x r c b rest → g = x.heap.size → Calls Tryd.prog 60 #[.pointer (some ⟨r, 0, none⟩), .slice (some ⟨g, 0, none⟩) 1 1] (x.alloc (.cells #[.int .u8 0] 5)) fun e w' => e = gave c ∧ x.grownBy w' (some r)) := fun x g hx hgx => by
    subst hgx
    rw [hr] at hx
    refine (oneOf_end r c b _ ([0] : List UInt8) x.heap.size 1 (hx.alloc _)).mono ?_
    rintro e w' ⟨e1, e3⟩
    exact ⟨e1, (World.grownBy_alloc x _ _).trans e3⟩
  have ht' : Hid (Tab w) := ht
  obtain ⟨n1, n2⟩ := str_nil hop
  have hu := u.toNat_lt
  clear h ht hop hk ho hr
  generalize opNm (u.toNat : Int) = T at *
  generalize u.toNat = o at *
  go_enter Tryd.func44, Tryd.ntmps44
  go_wp2_with (first | (go_at_call 58; refine hN.out.mono ?_; rintro e w1 ⟨rfl, k1, g1⟩; have k1' : Hid (RdX w1 r c b rest) := k1; have g1' : Hid (w.grownBy w1 (some r)) := (World.grownBy_alloc w _ _).trans g1; have q1 : Hid (w1.heap[w.heap.size]? = some (boxI (.int .i64 0) (.int .i64 0) (.int .i64 0))) := blk_kept g1 (blk_new _ _ _ _) (by omega); have z1 : w.heap.size < w1.heap.size := Nat.lt_of_lt_of_le (by simp) g1.size; clear k1 g1 hN) | (go_at_call 34; refine (hO.out _ (Tab.kept ht'.out (grown_alloc g1'.out _) (fun e => hgr (Option.some.inj e)))).mono ?_; rintro e w2 ⟨rfl, rfl⟩; clear hO) | (go_at_call 59; refine (must_yes _ _).mono ?_; rintro e w3 ⟨rfl, rfl⟩) | (go_at_call 52; refine (hB.out _).mono ?_; rintro e w4 ⟨rfl, rfl⟩; clear hB) | (go_at_call 60; refine (hR.out _ _ (k1'.out.alloc _) (by simp)).mono ?_; rintro e w5 ⟨rfl, g5⟩))
  exact ⟨rfl, rfl, (grown_alloc g1'.out _).trans g5⟩
set_option maxHeartbeats 4000000 in
set_option maxRecDepth 20000 in
theorem one0 (r : Nat) (c : Int) (b : Nat) (u : UInt8) (rest : List UInt8) (w : World) (h : RdX w r c b (u :: rest)) (ht : Tab w) (hgr : 0 ≠ r)
    (hop : ¬ opNm (u.toNat : Int) = ⟨#[]⟩) (hk : kd (u.toNat : Int) = 0) (ho : ¬ ((u.toNat : Int) = 63 ∨ (u.toNat : Int) = 64)) :
    Calls Tryd.prog 44 #[.pointer (some ⟨r, 0, none⟩)] w fun e w' => e = .returned (.agg #[.int .i64 (u.toNat : Int), .int .i64 0, .int .i64 0]) ∧ RdX w' r c b (rest) ∧ w.grownBy w' (some r) := by
  have hrl := h.isLt
  have hbl := h.lt
  have hN : Hid (Calls Tryd.prog 58 #[.pointer (some ⟨r, 0, none⟩)] (w.alloc (.cells #[.int .i64 0, .int .i64 0, .int .i64 0] 38)) fun e w' => e = .returned (.int .u8 (u.toNat : Int)) ∧ RdX w' r c b rest ∧ (w.alloc (.cells #[.int .i64 0, .int .i64 0, .int .i64 0] 38)).grownBy w' (some r)) := by
    obtain ⟨off, cap, x⟩ := h.alloc (.cells #[.int .i64 0, .int .i64 0, .int .i64 0] 38)
    exact (next_yes r c b off cap u rest _ x).mono fun _ _ ⟨e1, ⟨o, e2⟩, e3⟩ => ⟨e1, ⟨_, _, e2⟩, e3⟩
  have hO : Hid (∀ x, Tab x → Calls Tryd.prog 34 #[.int .i64 (u.toNat : Int)] x fun e w' => e = .returned (.string (opNm (u.toNat : Int))) ∧ x = w') := fun x hx => impl_opName (u.toNat : Int) x hx
  have hB : Hid (∀ x, Calls Tryd.prog 52 #[.int .i64 (u.toNat : Int)] x fun e w' => e = .returned (.int .i64 0) ∧ x = w') := fun x => by have := behind (u.toNat : Int) x; rw [bh0' hk ho] at this; exact this
  have ht' : Hid (Tab w) := ht
  obtain ⟨n1, n2⟩ := str_nil hop
  have hu := u.toNat_lt
  clear h ht hop hk ho
  generalize opNm (u.toNat : Int) = T at *
  generalize u.toNat = o at *
  go_enter Tryd.func44, Tryd.ntmps44
  go_wp2_with (first | (go_at_call 58; refine hN.out.mono ?_; rintro e w1 ⟨rfl, k1, g1⟩; have k1' : Hid (RdX w1 r c b rest) := k1; have g1' : Hid (w.grownBy w1 (some r)) := (World.grownBy_alloc w _ _).trans g1; have q1 : Hid (w1.heap[w.heap.size]? = some (boxI (.int .i64 0) (.int .i64 0) (.int .i64 0))) := blk_kept g1 (blk_new _ _ _ _) (by omega); have z1 : w.heap.size < w1.heap.size := Nat.lt_of_lt_of_le (by simp) g1.size; clear k1 g1 hN) | (go_at_call 34; refine (hO.out _ (Tab.kept ht'.out (grown_alloc g1'.out _) (fun e => hgr (Option.some.inj e)))).mono ?_; rintro e w2 ⟨rfl, rfl⟩; clear hO) | (go_at_call 59; refine (must_yes _ _).mono ?_; rintro e w3 ⟨rfl, rfl⟩) | (go_at_call 52; refine (hB.out _).mono ?_; rintro e w5 ⟨rfl, hw5⟩; have k5' : Hid (RdX w5 r c b rest) := hw5 ▸ k1'.out.alloc _; have g5' : Hid (w.grownBy w5 (some r)) := hw5 ▸ grown_alloc g1'.out _; have q5 : w5.heap[w1.heap.size]? = some (boxI (.int .i64 (o : Int)) (.int .i64 0) (.int .i64 0)) := hw5 ▸ blk_new w1 _ _ _; have p5 : w5.heap[w.heap.size]? = some (boxI (.int .i64 0) (.int .i64 0) (.int .i64 0)) := hw5 ▸ blk_past q1.out _; obtain ⟨c0, c1, c2, f0, f1, f2⟩ := blk_facts q5; obtain ⟨e0, e1, e2, e3, e4, e5, e6, e7, e8⟩ := res_facts p5 (.int .i64 (o : Int)) (.int .i64 0) (.int .i64 0); clear q5 p5 hB hw5))
  refine bodyPost_ret ?_ rfl ⟨rfl, ?_, ?_⟩
  · simp [results, go_sem, e6, e7, e8]
  · exact (((k5'.out).set (by omega) (by omega)).set (by omega) (by omega)).set (by omega) (by omega)
  · exact grown_set (grown_set (grown_set (g5'.out) (Nat.le_refl _) _) (Nat.le_refl _) _) (Nat.le_refl _) _
set_option maxHeartbeats 4000000 in
set_option maxRecDepth 20000 in
theorem one_none (r : Nat) (c : Int) (b : Nat) (u : UInt8) (rest : List UInt8) (w : World) (h : RdX w r c b (u :: rest)) (ht : Tab w) (hgr : 0 ≠ r)
    (hop : opNm (u.toNat : Int) = ⟨#[]⟩) :
    Calls Tryd.prog 44 #[.pointer (some ⟨r, 0, none⟩)] w fun e w' => e = gave c ∧ w.grownBy w' (some r) := by
  have hrl := h.isLt
  have hbl := h.lt
  have hN : Hid (Calls Tryd.prog 58 #[.pointer (some ⟨r, 0, none⟩)] (w.alloc (.cells #[.int .i64 0, .int .i64 0, .int .i64 0] 38)) fun e w' => e = .returned (.int .u8 (u.toNat : Int)) ∧ RdX w' r c b rest ∧ (w.alloc (.cells #[.int .i64 0, .int .i64 0, .int .i64 0] 38)).grownBy w' (some r)) := by
    obtain ⟨off, cap, x⟩ := h.alloc (.cells #[.int .i64 0, .int .i64 0, .int .i64 0] 38)
    exact (next_yes r c b off cap u rest _ x).mono fun _ _ ⟨e1, ⟨o, e2⟩, e3⟩ => ⟨e1, ⟨_, _, e2⟩, e3⟩
  have hO : Hid (∀ x, Tab x → Calls Tryd.prog 34 #[.int .i64 (u.toNat : Int)] x fun e w' => e = .returned (.string (opNm (u.toNat : Int))) ∧ x = w') := fun x hx => impl_opName (u.toNat : Int) x hx
  rw [hop] at hO
  have hM : Hid (∀ x, RdX x r c b rest → Calls Tryd.prog 59 #[.pointer (some ⟨r, 0, none⟩), .bool false] x fun e w' => e = gave c ∧ x = w') := fun x ⟨_, _, hx⟩ => must_no r c x hx.cell1
  have ht' : Hid (Tab w) := ht
  have hu := u.toNat_lt
  clear h ht hop 
  generalize u.toNat = o at *
  go_enter Tryd.func44, Tryd.ntmps44
  go_wp2_with (first | (go_at_call 58; refine hN.out.mono ?_; rintro e w1 ⟨rfl, k1, g1⟩; have k1' : Hid (RdX w1 r c b rest) := k1; have g1' : Hid (w.grownBy w1 (some r)) := (World.grownBy_alloc w _ _).trans g1; have q1 : Hid (w1.heap[w.heap.size]? = some (boxI (.int .i64 0) (.int .i64 0) (.int .i64 0))) := blk_kept g1 (blk_new _ _ _ _) (by omega); have z1 : w.heap.size < w1.heap.size := Nat.lt_of_lt_of_le (by simp) g1.size; clear k1 g1 hN) | (go_at_call 34; refine (hO.out _ (Tab.kept ht'.out (grown_alloc g1'.out _) (fun e => hgr (Option.some.inj e)))).mono ?_; rintro e w2 ⟨rfl, rfl⟩; clear hO) | (go_at_call 59; refine (hM.out _ (k1'.out.alloc _)).mono ?_; rintro e w3 ⟨rfl, rfl⟩))
  exact ⟨rfl, rfl, grown_alloc g1'.out _⟩
set_option maxHeartbeats 4000000 in
set_option maxRecDepth 20000 in
theorem one_end (r : Nat) (c : Int) (b : Nat) (w : World) (h : RdX w r c b []) :
    Calls Tryd.prog 44 #[.pointer (some ⟨r, 0, none⟩)] w fun e w' => e = gave c ∧ w.grownBy w' (some r) := by
  have hN : Hid (Calls Tryd.prog 58 #[.pointer (some ⟨r, 0, none⟩)] (w.alloc (.cells #[.int .i64 0, .int .i64 0, .int .i64 0] 38)) fun e w' => e = gave c ∧ (w.alloc (.cells #[.int .i64 0, .int .i64 0, .int .i64 0] 38)) = w') := by
    obtain ⟨off, cap, x⟩ := h.alloc (.cells #[.int .i64 0, .int .i64 0, .int .i64 0] 38)
    exact next_no r c b off cap _ x
  clear h
  go_enter Tryd.func44, Tryd.ntmps44
  go_wp2_with (go_at_call 58; refine hN.out.mono ?_; rintro e w1 ⟨rfl, rfl⟩)
  exact ⟨rfl, rfl, World.grownBy_alloc w _ _⟩
theorem readOne_yes (r : Nat) (c : Int) (b : Nat) (bs : List UInt8) (w : World) (h : RdX w r c b bs) (hl : bs.length ≤ 1048576) (ht : Tab w) (hgr : 0 ≠ r) (o x1 x2 : Int) (k : Nat) (hi : rdIns bs = some ((o, x1, x2), k)) :
    Calls Tryd.prog 44 #[.pointer (some ⟨r, 0, none⟩)] w fun e w' => e = .returned (.agg #[.int .i64 o, .int .i64 x1, .int .i64 x2]) ∧ RdX w' r c b (bs.drop k) ∧ w.grownBy w' (some r) := by
  cases bs with
  | nil => cases hi
  | cons u rest =>
    rw [List.length_cons] at hl
    have hl' : rest.length ≤ 1048575 := by omega
    rw [rdIns] at hi
    split at hi
    · cases hi
    · rename_i hop
      cases htl : rdTail (u.toNat : Int) rest with
      | none => rw [htl] at hi; cases hi
      | some p =>
        obtain ⟨a, bb, j⟩ := p
        rw [htl] at hi
        simp only [Option.some.injEq, Prod.mk.injEq] at hi
        obtain ⟨⟨rfl, rfl, rfl⟩, rfl⟩ := hi
        rw [List.drop_succ_cons]
        unfold rdTail at htl
        rcases kd_is (u.toNat : Int) with hk | hk | hk | hk | hk
        · rw [if_neg (by omega), if_neg (by omega), if_neg (by omega), if_neg (by omega)] at htl
          by_cases ho : (u.toNat : Int) = 63 ∨ (u.toNat : Int) = 64
          · rw [if_pos ho] at htl
            cases hr : rest with
            | nil => rw [hr] at htl; cases htl
            | cons x0 rest' =>
              rw [hr] at htl
              simp only at htl
              by_cases hx0 : x0 = 0
              · rw [if_pos hx0] at htl
                simp only [Option.some.injEq, Prod.mk.injEq] at htl
                obtain ⟨rfl, rfl, rfl⟩ := htl
                rw [← hr]
                exact one5 r c b u rest w h ht hgr hop hk ho x0 rest' hr hx0
              · rw [if_neg hx0] at htl; cases htl
          · rw [if_neg ho] at htl
            simp only [Option.some.injEq, Prod.mk.injEq] at htl
            obtain ⟨rfl, rfl, rfl⟩ := htl
            exact one0 r c b u rest w h ht hgr hop hk ho
        · rw [if_pos hk] at htl
          cases hr : rest with
          | nil => rw [hr] at htl; cases htl
          | cons x0 rest' =>
            rw [hr] at htl
            simp only at htl
            by_cases h64 : x0 = 64
            · rw [if_pos h64] at htl
              simp only [Option.some.injEq, Prod.mk.injEq] at htl
              obtain ⟨rfl, rfl, rfl⟩ := htl
              rw [← hr]
              exact one1_0 r c b u rest w h ht hgr hop hk x0 rest' hr h64
            · rw [if_neg h64] at htl
              by_cases h127 : x0 = 127
              · rw [if_pos h127] at htl
                simp only [Option.some.injEq, Prod.mk.injEq] at htl
                obtain ⟨rfl, rfl, rfl⟩ := htl
                rw [← hr]
                exact one1_1 r c b u rest w h ht hgr hop hk x0 rest' hr h127
              · rw [if_neg h127] at htl; cases htl
        · rw [if_neg (by omega), if_pos hk] at htl
          cases hg : gU rest with
          | none => rw [hg] at htl; cases htl
          | some q =>
            obtain ⟨n, i⟩ := q
            rw [hg] at htl
            simp only [Option.some.injEq, Prod.mk.injEq] at htl
            obtain ⟨rfl, rfl, rfl⟩ := htl
            exact one2 r c b u rest w h hl' ht hgr hop hk n i hg
        · rw [if_neg (by omega), if_neg (by omega), if_pos hk] at htl
          cases hg : gU rest with
          | none => rw [hg] at htl; cases htl
          | some q =>
            obtain ⟨n, i⟩ := q
            rw [hg] at htl
            simp only at htl
            cases hg2 : gU (rest.drop i) with
            | none => rw [hg2] at htl; cases htl
            | some q =>
              obtain ⟨m, i2⟩ := q
              rw [hg2] at htl
              simp only [Option.some.injEq, Prod.mk.injEq] at htl
              obtain ⟨rfl, rfl, rfl⟩ := htl
              rw [← List.drop_drop]
              exact one3 r c b u rest w h hl' ht hgr hop hk n i m i2 hg hg2
        · rw [if_neg (by omega), if_neg (by omega), if_neg (by omega), if_pos hk] at htl
          cases hg : gS rest with
          | none => rw [hg] at htl; cases htl
          | some q =>
            obtain ⟨n, i⟩ := q
            rw [hg] at htl
            simp only [Option.some.injEq, Prod.mk.injEq] at htl
            obtain ⟨rfl, rfl, rfl⟩ := htl
            exact one4 r c b u rest w h hl' ht hgr hop hk n i hg
theorem readOne_no (r : Nat) (c : Int) (b : Nat) (bs : List UInt8) (w : World) (h : RdX w r c b bs) (hl : bs.length ≤ 1048576) (ht : Tab w) (hgr : 0 ≠ r) (hi : rdIns bs = none) :
    Calls Tryd.prog 44 #[.pointer (some ⟨r, 0, none⟩)] w fun e w' => e = gave c ∧ w.grownBy w' (some r) := by
  cases bs with
  | nil => exact one_end r c b w h
  | cons u rest =>
    rw [List.length_cons] at hl
    have hl' : rest.length ≤ 1048575 := by omega
    rw [rdIns] at hi
    split at hi
    · rename_i hop
      exact one_none r c b u rest w h ht hgr hop
    · rename_i hop
      cases htl : rdTail (u.toNat : Int) rest with
      | some p => rw [htl] at hi; cases hi
      | none =>
        unfold rdTail at htl
        rcases kd_is (u.toNat : Int) with hk | hk | hk | hk | hk
        · rw [if_neg (by omega), if_neg (by omega), if_neg (by omega), if_neg (by omega)] at htl
          by_cases ho : (u.toNat : Int) = 63 ∨ (u.toNat : Int) = 64
          · rw [if_pos ho] at htl
            cases hr : rest with
            | nil => exact one5_end r c b u rest w h ht hgr hop hk ho hr
            | cons x0 rest' =>
              rw [hr] at htl
              simp only at htl
              by_cases hx0 : x0 = 0
              · rw [if_pos hx0] at htl; cases htl
              · exact one5_no r c b u rest w h ht hgr hop hk ho x0 rest' hr hx0
          · rw [if_neg ho] at htl; cases htl
        · rw [if_pos hk] at htl
          cases hr : rest with
          | nil => exact one1_end r c b u rest w h ht hgr hop hk hr
          | cons x0 rest' =>
            rw [hr] at htl
            simp only at htl
            by_cases h64 : x0 = 64
            · rw [if_pos h64] at htl; cases htl
            · rw [if_neg h64] at htl
              by_cases h127 : x0 = 127
              · rw [if_pos h127] at htl; cases htl
              · exact one1_no r c b u rest w h ht hgr hop hk x0 rest' hr h64 h127
        · rw [if_neg (by omega), if_pos hk] at htl
          cases hg : gU rest with
          | none => exact one2_no r c b u rest w h hl' ht hgr hop hk hg
          | some q =>
            obtain ⟨n, i⟩ := q
            rw [hg] at htl; cases htl
        · rw [if_neg (by omega), if_neg (by omega), if_pos hk] at htl
          cases hg : gU rest with
          | none => exact one3_no r c b u rest w h hl' ht hgr hop hk hg
          | some q =>
            obtain ⟨n, i⟩ := q
            rw [hg] at htl
            simp only at htl
            cases hg2 : gU (rest.drop i) with
            | none => exact one3_no2 r c b u rest w h hl' ht hgr hop hk n i hg hg2
            | some q =>
              obtain ⟨m, i2⟩ := q
              rw [hg2] at htl; cases htl
        · rw [if_neg (by omega), if_neg (by omega), if_neg (by omega), if_pos hk] at htl
          cases hg : gS rest with
          | none => exact one4_no r c b u rest w h hl' ht hgr hop hk hg
          | some q =>
            obtain ⟨n, i⟩ := q
            rw [hg] at htl; cases htl
end Go.Proofs.YthjgmjhgpjgdlabDoor.RdOne
