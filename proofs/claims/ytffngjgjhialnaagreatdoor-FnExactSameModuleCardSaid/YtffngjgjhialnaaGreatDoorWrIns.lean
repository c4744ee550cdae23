/-
  Instructions written by the program: numbers, an instruction, a body.
-/
import Derived.Test.YtffngjgjhialnaaGreatDoorByteWr
import Derived.Test.YtffngjgjhialnaaGreatDoorEveryIns
namespace Go.Proofs.YtffngjgjhialnaaGreatDoor.WrIns
open Go.RowKit PlainOps NameCalls PlainNum PlainLeb NumCalls ByteMem PutU ImplPut ImplApp PlainBytes ByteWr InsCalls InsImpl PlainShape InsMem PlainAll EveryIns

/-- The first k numbers in pieces, one behind the other. -/
def uvs (l : List Int) : Nat → List UInt8
  | 0 => []
  | k + 1 => uvs l k ++ uv (l.getD k 0)
theorem uvs_len (l : List Int) : ∀ k, (uvs l k).length ≤ 10 * k
  | 0 => by simp [uvs]
  | k + 1 => by
    have := uvs_len l k
    have := uv_len (l.getD k 0)
    simp only [uvs, List.length_append]
    omega
set_option maxHeartbeats 2000000 in
theorem numbers (p : Nat) (w : World) (v : Value) (bs : List UInt8) (l : List Int) (q c : Nat) (hw : Wr p w v bs) (hq : ∀ j, j < l.length → w.cell? ⟨q, j, none⟩ = some (.int .i64 (l.getD j 0))) (hqp : q ≠ p) (hqv : some q ≠ v.ownBlock) (hl : bs.length + 10 * l.length ≤ 67108864) :
    Calls Tryz.prog 100 #[.pointer (some ⟨p, 0, none⟩), .slice (some ⟨q, 0, none⟩) l.length c] w fun e w' => e = .returned (.tuple #[]) ∧ ∃ v', Wr p w' v' (bs ++ uvs l l.length) ∧ WApp p w w' v v' := by
  have hw' : Hid (Wr p w v bs) := hw
  have hq' : Hid (∀ j, j < l.length → w.cell? ⟨q, j, none⟩ = some (.int .i64 (l.getD j 0))) := hq
  have hap : Hid (q ≠ p ∧ some q ≠ v.ownBlock) := ⟨hqp, hqv⟩
  clear hw hq hqp hqv
  go_enter Tryz.func100, Tryz.ntmps100
  go_wp2_with fail
  go_loopw [8] (fun vk wr => ∃ (k : Nat) (v' : Value), k ≤ l.length ∧ vk = .int .i64 k ∧ Wr p wr v' (bs ++ uvs l k) ∧ WApp p w wr v v') (fun vk _ => l.length - (intOf vk).toNat)
  case atStart => exact ⟨0, v, Nat.zero_le _, rfl, by simpa [uvs] using hw'.out, WApp.refl _ _ _⟩
  case round =>
    obtain ⟨k, v1, hk, rfl, hwr, hwa⟩ := hrel
    by_cases hlt : k < l.length
    · have hlt' : (k : Int) < (l.length : Int) := by omega
      have c0 := hwa.cell (hq'.out k hlt) hap.out.1 hap.out.2
      have hpl := hwr.box.lt
      obtain ⟨a, cap, rfl⟩ := own_form hwr.own
      have cb := hwr.box.cell
      have hlen := uvs_len l k
      have hA : Hid (Calls Tryz.prog 130 #[.slice a (bs ++ uvs l k).length cap, .int .i64 (l.getD k 0)] wr fun e w' => ∃ v, e = .returned v ∧ PutU.Own (p + 1) w' v (bs ++ uvs l k ++ uv (l.getD k 0)) ∧ App wr w' (.slice a (bs ++ uvs l k).length cap) v) :=
        appendU a cap (p + 1) (bs ++ uvs l k) (l.getD k 0) wr hwr.own (by omega) (by rw [List.length_append]; omega)
      have hwr' : Hid (Wr p wr (.slice a (bs ++ uvs l k).length cap) (bs ++ uvs l k)) := hwr
      have hwa' : Hid (WApp p w wr v (.slice a (bs ++ uvs l k).length cap)) := hwa
      have hstep : Hid (bs ++ uvs l k ++ uv (l.getD k 0) = bs ++ uvs l (k + 1)) := by show _ = bs ++ (uvs l k ++ uv (l.getD k 0)); rw [List.append_assoc]
      clear hwr hwa
      generalize l.getD k 0 = m at *
      generalize bs ++ uvs l k ++ uv m = R at *
      generalize (bs ++ uvs l k).length = N at *
      go_wp2_with (go_at_call 130; refine hA.out.mono ?_; rintro e w1 ⟨v1, rfl, ho1, ha1⟩; obtain ⟨a1, cap1, rfl⟩ := own_form ho1; have hown : Hid (PutU.Own (p + 1) w1 (.slice a1 R.length cap1) R) := ho1; have happ : Hid (App wr w1 (.slice a N cap) (.slice a1 R.length cap1)) := ha1; have hb1 := hwr'.out.box.kept ha1.grow hwr'.out.not; have hc1 := hb1.cell; have hf1 := hb1.frozen; clear ho1 ha1 hb1)
      go_roundw
      case rel =>
        obtain ⟨h1, h2⟩ := hwr'.out.stored hown.out happ.out
        exact ⟨k + 1, _, by omega, by go_num, by rw [← hstep.out]; exact h1, hwa'.out.trans h2⟩
      case measure => simp [intOf]; omega
    · obtain rfl : k = l.length := by omega
      have hwr' : Hid (Wr p wr v1 (bs ++ uvs l l.length)) := hwr
      have hwa' : Hid (WApp p w wr v v1) := hwa
      clear hwr hwa
      go_wp2_with fail
      go_end0
      exact ⟨rfl, _, hwr'.out, hwa'.out⟩
/-- A byte is put; the byte has been laid in a slice of its own. -/
theorem put1 (p : Nat) (w : World) (v : Value) (bs : List UInt8) (c : UInt8) (g : Nat) (t : TypeId) (hg : g = w.heap.size) (hw : Wr p w v bs) (hl : bs.length ≤ 134217720) :
    Calls Tryz.prog 39 #[.pointer (some ⟨p, 0, none⟩), .slice (some ⟨g, 0, none⟩) 1 1] (w.alloc (.cells #[.int .u8 (c.toNat : Int)] t)) fun e w' => e = .returned (.tuple #[]) ∧ ∃ v', Wr p w' v' (bs ++ [c]) ∧ WApp p w w' v v' := by
  subst hg
  refine (put p _ v bs [c] ⟨w.heap.size, 0, none⟩ 1 (hw.alloc _) (by simp; omega) (by simp) (cell_one_new _ _ _)).mono ?_
  rintro e w' ⟨rfl, v', h1, h2⟩
  exact ⟨rfl, v', h1, (WApp.alloc p w v _).trans h2⟩
theorem num1 (p : Nat) (w : World) (v : Value) (bs : List UInt8) (m : Int) (g : Nat) (t : TypeId) (hg : g = w.heap.size) (hw : Wr p w v bs) (hl : bs.length ≤ 67108800) :
    Calls Tryz.prog 100 #[.pointer (some ⟨p, 0, none⟩), .slice (some ⟨g, 0, none⟩) 1 1] (w.alloc (.cells #[.int .i64 m] t)) fun e w' => e = .returned (.tuple #[]) ∧ ∃ v', Wr p w' v' (bs ++ uv m) ∧ WApp p w w' v v' := by
  subst hg
  obtain ⟨n1, n2⟩ := hw.past (Nat.le_refl _)
  refine (numbers p _ v bs [m] w.heap.size 1 (hw.alloc _) (fun j hj => ?_) n1 n2 (by simp; omega)).mono ?_
  · obtain rfl : j = 0 := by simpa using hj
    simp
  rintro e w' ⟨rfl, v', h1, h2⟩
  refine ⟨rfl, v', ?_, (WApp.alloc p w v _).trans h2⟩
  simpa [uvs] using h1
theorem num2 (p : Nat) (w : World) (v : Value) (bs : List UInt8) (m n : Int) (g : Nat) (t : TypeId) (hg : g = w.heap.size) (hw : Wr p w v bs) (hl : bs.length ≤ 67108800) :
    Calls Tryz.prog 100 #[.pointer (some ⟨p, 0, none⟩), .slice (some ⟨g, 0, none⟩) 2 2] (w.alloc (.cells #[.int .i64 m, .int .i64 n] t)) fun e w' => e = .returned (.tuple #[]) ∧ ∃ v', Wr p w' v' (bs ++ uv m ++ uv n) ∧ WApp p w w' v v' := by
  subst hg
  obtain ⟨n1, n2⟩ := hw.past (Nat.le_refl _)
  refine (numbers p _ v bs [m, n] w.heap.size 2 (hw.alloc _) (fun j hj => ?_) n1 n2 (by simp; omega)).mono ?_
  · have : j = 0 ∨ j = 1 := by simp at hj; omega
    rcases this with rfl | rfl <;> simp
  rintro e w' ⟨rfl, v', h1, h2⟩
  refine ⟨rfl, v', ?_, (WApp.alloc p w v _).trans h2⟩
  simpa [uvs] using h1
/-- What stands behind an operation, as the program counts it. -/
def bh (o : Int) : Int := if kd o = 0 then (if o = 63 ∨ o = 64 then 5 else 0) else kd o
theorem behind (op : Int) (w : World) :
    Calls Tryz.prog 148 #[.int .i64 op] w fun e w' => e = .returned (.int .i64 (bh op)) ∧ w = w' := by
  rcases op_class op with (rfl | rfl | rfl) | (rfl | rfl | rfl | rfl | rfl | rfl | rfl | rfl) | (rfl | rfl) | rfl | h
  case inr.inr.inr.inr =>
    have hk := kd0 h
    obtain ⟨n1, n2, n3, n4, n5, n6, n7, n8, n9, n10, n11, n12, n13, n14⟩ := h
    by_cases h63 : op = 63
    · subst h63
      clear hk
      go_enter Tryz.func148, Tryz.ntmps148
      go_wp2_with fail
      go_ret
      exact ⟨rfl, rfl⟩
    · by_cases h64 : op = 64
      · subst h64
        clear hk
        go_enter Tryz.func148, Tryz.ntmps148
        go_wp2_with fail
        go_ret
        exact ⟨rfl, rfl⟩
      · have hb : Hid (bh op = 0) := by
          show bh op = 0
          unfold bh
          rw [if_pos hk, if_neg (by omega)]
        clear hk
        go_enter Tryz.func148, Tryz.ntmps148
        go_wp2_with fail
        go_ret
        exact ⟨by rw [hb.out]; rfl, rfl⟩
  all_goals
    go_enter Tryz.func148, Tryz.ntmps148
    go_wp2_with fail
    go_ret
    exact ⟨rfl, rfl⟩
theorem putResults (p : Nat) (w : World) (v : Value) (bs : List UInt8) (m : Int) (hm : m = 0 ∨ m = 1) (hw : Wr p w v bs) (hl : bs.length ≤ 67108800) :
    Calls Tryz.prog 149 #[.pointer (some ⟨p, 0, none⟩), .int .i64 m] w fun e w' => e = .returned (.tuple #[]) ∧ ∃ v', Wr p w' v' (bs ++ [if m = 1 then 127 else 64]) ∧ WApp p w w' v v' := by
  have h127 : Hid (∀ g t, g = w.heap.size → Calls Tryz.prog 39 #[.pointer (some ⟨p, 0, none⟩), .slice (some ⟨g, 0, none⟩) 1 1] (w.alloc (.cells #[.int .u8 127] t)) fun e w' => e = .returned (.tuple #[]) ∧ ∃ v', Wr p w' v' (bs ++ [127]) ∧ WApp p w w' v v') := fun g t hg => put1 p w v bs 127 g t hg hw (by omega)
  have h64 : Hid (∀ g t, g = w.heap.size → Calls Tryz.prog 39 #[.pointer (some ⟨p, 0, none⟩), .slice (some ⟨g, 0, none⟩) 1 1] (w.alloc (.cells #[.int .u8 64] t)) fun e w' => e = .returned (.tuple #[]) ∧ ∃ v', Wr p w' v' (bs ++ [64]) ∧ WApp p w w' v v') := fun g t hg => put1 p w v bs 64 g t hg hw (by omega)
  clear hw
  rcases hm with rfl | rfl
  · go_enter Tryz.func149, Tryz.ntmps149
    go_wp2_with (go_at_call 39; refine (h64.out _ _ rfl).mono ?_; rintro e w1 ⟨rfl, v1, h1, h2⟩)
    first | go_end0 | refine bodyPost_ret (results_none rfl _ _ _) rfl ?_
    exact ⟨rfl, v1, h1, h2⟩
  · go_enter Tryz.func149, Tryz.ntmps149
    go_wp2_with (go_at_call 39; refine (h127.out _ _ rfl).mono ?_; rintro e w1 ⟨rfl, v1, h1, h2⟩)
    first | go_end0 | refine bodyPost_ret (results_none rfl _ _ _) rfl ?_
    exact ⟨rfl, v1, h1, h2⟩
theorem put0 (p : Nat) (w : World) (v : Value) (bs : List UInt8) (g : Nat) (t : TypeId) (hg : g = w.heap.size) (hw : Wr p w v bs) (hl : bs.length ≤ 134217720) :
    Calls Tryz.prog 39 #[.pointer (some ⟨p, 0, none⟩), .slice (some ⟨g, 0, none⟩) 1 1] (w.alloc (.cells #[.int .u8 0] t)) fun e w' => e = .returned (.tuple #[]) ∧ ∃ v', Wr p w' v' (bs ++ [0]) ∧ WApp p w w' v v' := put1 p w v bs 0 g t hg hw hl
theorem wbox {p : Nat} {w w2 : World} {v v2 : Value} {bs : List UInt8} {x y z : Value} {t : TypeId} (hw : Wr p w v bs) (h : WApp p (w.alloc (.cells #[x, y, z] t)) w2 v v2) :
    w2.cell? ⟨w.heap.size, 0, none⟩ = some x ∧ w2.cell? ⟨w.heap.size, 1, none⟩ = some y ∧ w2.cell? ⟨w.heap.size, 2, none⟩ = some z := by
  obtain ⟨n1, n2⟩ := hw.past (Nat.le_refl _)
  exact ⟨h.cell (by simp) n1 n2, h.cell (by simp) n1 n2, h.cell (by simp) n1 n2⟩
theorem bh1 {o : Int} (h : kd o ≠ 0) : bh o = kd o := if_neg h
theorem bh0 {o : Int} (h : kd o = 0) (ho : o = 63 ∨ o = 64) : bh o = 5 := by unfold bh; rw [if_pos h, if_pos ho]
theorem bh0' {o : Int} (h : kd o = 0) (ho : ¬ (o = 63 ∨ o = 64)) : bh o = 0 := by unfold bh; rw [if_pos h, if_neg ho]
set_option maxHeartbeats 8000000 in
theorem putIns (p : Nat) (w : World) (v : Value) (bs : List UInt8) (o x1 x2 : Int) (hx : kd o = 1 → x1 = 0 ∨ x1 = 1) (hw : Wr p w v bs) (hl : bs.length ≤ 67108700) :
    Calls Tryz.prog 133 #[.pointer (some ⟨p, 0, none⟩), .agg #[.int .i64 o, .int .i64 x1, .int .i64 x2]] w fun e w' => e = .returned (.tuple #[]) ∧ ∃ v', Wr p w' v' (bs ++ insB o x1 x2) ∧ WApp p w w' v v' := by
  have hw0 : Hid (Wr p w v bs) := hw
  have hw1 : Hid (Wr p (w.alloc (.cells #[.int .i64 o, .int .i64 x1, .int .i64 x2] 174)) v bs) := hw.alloc _
  have hu2 := (by1_is o).symm
  have hu1 : IntKind.u8.wrap o = ((by1 o).toNat : Int) := by rw [IntKind.wrap_u8]; exact hu2
  have hB : Hid _ := fun u => behind o u
  change Hid (∀ u, Calls Tryz.prog 148 #[.int .i64 o] u fun e w' => e = .returned (.int .i64 (bh o)) ∧ u = w') at hB
  have s1 : ∀ c : UInt8, (bs ++ [c]).length ≤ 67108701 := fun c => by simp; omega
  clear hw
  have fin1 : ∀ {w2 w3 : World} {v2 v3 : Value} {R S : List UInt8}, WApp p (w.alloc (.cells #[.int .i64 o, .int .i64 x1, .int .i64 x2] 174)) w2 v v2 → Wr p w3 v3 R → WApp p w2 w3 v2 v3 → S = R → ∃ v', Wr p w3 v' S ∧ WApp p w w3 v v' :=
    fun a2 k3 a3 e => ⟨_, by rw [e]; exact k3, ((WApp.alloc p w v _).trans a2).trans a3⟩
  have hkk := kd_is o
  by_cases h0 : kd o = 0
  · by_cases h6 : o = 63 ∨ o = 64
    · have e1 : Hid (bs ++ insB o x1 x2 = bs ++ [by1 o] ++ [0]) := by show _ = _; rw [tail0 h0 h6, List.append_assoc]
      rw [bh0 h0 h6] at hB
      clear hx h0 h6 hkk
      generalize by1 o = c at *
      go_enter Tryz.func133, Tryz.ntmps133
      go_wp2_with (first | (go_at_call 39; refine (put1 p _ _ _ c _ _ (by simp) hw1.out (by omega)).mono ?_; rintro e w2 ⟨rfl, v2, k2, a2⟩; obtain ⟨c0, c1, c2⟩ := wbox hw0.out a2; clear hw1) | (go_at_call 148; refine (hB.out _).mono ?_; rintro e w3 ⟨rfl, rfl⟩; clear hB) | (go_at_call 39; refine (put0 p _ _ _ _ _ rfl k2 (by have := s1 c; omega)).mono ?_; rintro e w4 ⟨rfl, v4, k4, a4⟩))
      first | go_end0 | refine bodyPost_ret (results_none rfl _ _ _) rfl ?_
      exact ⟨rfl, fin1 a2 k4 a4 e1.out⟩
    · have e1 : Hid (bs ++ insB o x1 x2 = bs ++ [by1 o]) := by show _ = _; rw [tail0' h0 h6]
      rw [bh0' h0 h6] at hB
      clear hx h0 h6 hkk
      generalize by1 o = c at *
      go_enter Tryz.func133, Tryz.ntmps133
      go_wp2_with (first | (go_at_call 39; refine (put1 p _ _ _ c _ _ (by simp) hw1.out (by omega)).mono ?_; rintro e w2 ⟨rfl, v2, k2, a2⟩; obtain ⟨c0, c1, c2⟩ := wbox hw0.out a2; clear hw1) | (go_at_call 148; refine (hB.out _).mono ?_; rintro e w3 ⟨rfl, rfl⟩; clear hB))
      first | go_end0 | refine bodyPost_ret (results_none rfl _ _ _) rfl ?_
      exact ⟨rfl, fin1 a2 k2 (WApp.refl _ _ _) e1.out⟩
  · rw [bh1 h0] at hB
    rcases hkk with h | h | h | h | h
    · exact absurd h h0
    · have hx' := hx h
      have e1 : Hid (bs ++ insB o x1 x2 = bs ++ [by1 o] ++ [if x1 = 1 then 127 else 64]) := by
        show _ = _
        by_cases h1 : x1 = 1
        · rw [tail1 h h1, if_pos h1, List.append_assoc]
        · rw [tail1' h h1, if_neg h1, List.append_assoc]
      rw [h] at hB
      have hR : Hid (∀ u vv b, Wr p u vv b → b.length ≤ 67108800 → Calls Tryz.prog 149 #[.pointer (some ⟨p, 0, none⟩), .int .i64 x1] u fun e w' => e = .returned (.tuple #[]) ∧ ∃ v', Wr p w' v' (b ++ [if x1 = 1 then 127 else 64]) ∧ WApp p u w' vv v') := fun u vv b k l => putResults p u vv b x1 hx' k l
      clear hx h0 h hx'
      generalize by1 o = c at *
      generalize (if x1 = 1 then (127 : UInt8) else 64) = d at *
      go_enter Tryz.func133, Tryz.ntmps133
      go_wp2_with (first | (go_at_call 39; refine (put1 p _ _ _ c _ _ (by simp) hw1.out (by omega)).mono ?_; rintro e w2 ⟨rfl, v2, k2, a2⟩; obtain ⟨c0, c1, c2⟩ := wbox hw0.out a2; clear hw1) | (go_at_call 148; refine (hB.out _).mono ?_; rintro e w3 ⟨rfl, rfl⟩; clear hB) | (go_at_call 149; refine (hR.out _ _ _ k2 (by have := s1 c; omega)).mono ?_; rintro e w4 ⟨rfl, v4, k4, a4⟩))
      first | go_end0 | refine bodyPost_ret (results_none rfl _ _ _) rfl ?_
      exact ⟨rfl, fin1 a2 k4 a4 e1.out⟩
    · have e1 : Hid (bs ++ insB o x1 x2 = bs ++ [by1 o] ++ uv x1) := by show _ = _; rw [tail2 h, List.append_assoc]
      rw [h] at hB
      clear hx h0 h
      generalize by1 o = c at *
      go_enter Tryz.func133, Tryz.ntmps133
      go_wp2_with (first | (go_at_call 39; refine (put1 p _ _ _ c _ _ (by simp) hw1.out (by omega)).mono ?_; rintro e w2 ⟨rfl, v2, k2, a2⟩; obtain ⟨c0, c1, c2⟩ := wbox hw0.out a2; clear hw1) | (go_at_call 148; refine (hB.out _).mono ?_; rintro e w3 ⟨rfl, rfl⟩; clear hB) | (go_at_call 100; refine (num1 p _ _ _ x1 _ _ rfl k2 (by have := s1 c; omega)).mono ?_; rintro e w4 ⟨rfl, v4, k4, a4⟩))
      first | go_end0 | refine bodyPost_ret (results_none rfl _ _ _) rfl ?_
      exact ⟨rfl, fin1 a2 k4 a4 e1.out⟩
    · have e1 : Hid (bs ++ insB o x1 x2 = bs ++ [by1 o] ++ uv x2 ++ uv x1) := by show _ = _; rw [tail3 h, List.append_assoc, List.append_assoc, List.append_assoc]
      rw [h] at hB
      clear hx h0 h
      generalize by1 o = c at *
      go_enter Tryz.func133, Tryz.ntmps133
      go_wp2_with (first | (go_at_call 39; refine (put1 p _ _ _ c _ _ (by simp) hw1.out (by omega)).mono ?_; rintro e w2 ⟨rfl, v2, k2, a2⟩; obtain ⟨c0, c1, c2⟩ := wbox hw0.out a2; clear hw1) | (go_at_call 148; refine (hB.out _).mono ?_; rintro e w3 ⟨rfl, rfl⟩; clear hB) | (go_at_call 100; refine (num2 p _ _ _ x2 x1 _ _ rfl k2 (by have := s1 c; omega)).mono ?_; rintro e w4 ⟨rfl, v4, k4, a4⟩))
      first | go_end0 | refine bodyPost_ret (results_none rfl _ _ _) rfl ?_
      exact ⟨rfl, fin1 a2 k4 a4 e1.out⟩
    · have e1 : Hid (bs ++ insB o x1 x2 = bs ++ [by1 o] ++ sv x1) := by show _ = _; rw [tail4 h, List.append_assoc]
      rw [h] at hB
      clear hx h0 h
      generalize by1 o = c at *
      go_enter Tryz.func133, Tryz.ntmps133
      go_wp2_with (first | (go_at_call 39; refine (put1 p _ _ _ c _ _ (by simp) hw1.out (by omega)).mono ?_; rintro e w2 ⟨rfl, v2, k2, a2⟩; obtain ⟨c0, c1, c2⟩ := wbox hw0.out a2; clear hw1) | (go_at_call 148; refine (hB.out _).mono ?_; rintro e w3 ⟨rfl, rfl⟩; clear hB) | (go_at_call 132; refine (ByteWr.signed p _ _ _ x1 k2 (by have := s1 c; omega)).mono ?_; rintro e w4 ⟨rfl, v4, k4, a4⟩))
      first | go_end0 | refine bodyPost_ret (results_none rfl _ _ _) rfl ?_
      exact ⟨rfl, fin1 a2 k4 a4 e1.out⟩
end Go.Proofs.YtffngjgjhialnaaGreatDoor.WrIns
