/-
  What OpName and NameOp answer when they are called, the specification's and the program's.
-/
import Derived.Test.YtjbhelcdakhjbaaDoorChecked
import Derived.Test.YtjbhelcdakhjbaaDoorPlainOps
import Derived.WalkKit
import Derived.Deep.QuietTactic
import Derived.BigQuiet
import Derived.Deep.OwnRows
import Derived.Below
import Derived.WalkSpells
import Derived.WalkSmall
namespace Go.Proofs.YtjbhelcdakhjbaaDoor.NameCalls
open Go.RowKit PlainOps

theorem alloc_top (w : World) (o : Obj) : (w.alloc o).heap[w.heap.size]? = some o := by
  show (w.heap.push o)[w.heap.size]? = some o
  simp
theorem str_ne {a b : ByteArray} (h : ¬ a = b) : (a.toList == b.toList) = false := by
  rw [beq_eq_false_iff_ne]
  intro e
  rw [ByteArray.toList_eq, ByteArray.toList_eq] at e
  exact h (ByteArray.ext (Array.toList_inj.1 e))
theorem str_nil {a : ByteArray} (h : ¬ a = ⟨#[]⟩) : a.toList.isEmpty = false ∧ (a.toList == []) = false := by
  have := str_ne h
  rw [ByteArray.toList_eq ⟨#[]⟩] at this
  refine ⟨?_, this⟩
  cases e : a.toList with
  | nil => rw [e] at this; cases this
  | cons x l => rfl
/-- Block b begins with these values. -/
def Holds (w : World) (b : Nat) (vs : List Value) : Prop := ∀ j v, vs[j]? = some v → w.cell? ⟨b, j, none⟩ = some v
theorem Holds.made (w : World) (vs : List Value) (t : TypeId) : Holds (w.alloc (.cells vs.toArray t)) w.heap.size vs := by
  intro j v hv
  have : (w.alloc (.cells vs.toArray t)).heap[w.heap.size]? = some (.cells vs.toArray t) := alloc_top w _
  simp only [World.cell?, this]
  simpa using hv
theorem spec_ops (w : World) :
    Calls Tryd.prog 27 #[] w fun e w' => ∃ b, e = .returned (.slice (some ⟨b, 0, none⟩) 24 24) ∧ Holds w' b (ops24.map fun z => .int .i64 z) ∧ Below w.heap.size w w' := by
  go_enter Tryd.func27, Tryd.ntmps27
  go_wp2_with fail
  go_ret
  exact ⟨_, rfl, Holds.made w (ops24.map fun z => .int .i64 z) _, (Below.refl _ _).alloc (Nat.le_refl _) _⟩
theorem spec_names (w : World) :
    Calls Tryd.prog 28 #[] w fun e w' => ∃ b, e = .returned (.slice (some ⟨b, 0, none⟩) 24 24) ∧ Holds w' b (nms24.map fun z => .string (tx z)) ∧ Below w.heap.size w w' := by
  go_enter Tryd.func28, Tryd.ntmps28
  go_wp2_with fail
  go_ret
  exact ⟨_, rfl, Holds.made w (nms24.map fun z => .string (tx z)) _, (Below.refl _ _).alloc (Nat.le_refl _) _⟩
theorem spec_cmps (w : World) :
    Calls Tryd.prog 29 #[] w fun e w' => ∃ b, e = .returned (.slice (some ⟨b, 0, none⟩) 10 10) ∧ Holds w' b (cmps10.map fun z => .string (tx z)) ∧ Below w.heap.size w w' := by
  go_enter Tryd.func29, Tryd.ntmps29
  go_wp2_with fail
  go_ret
  exact ⟨_, rfl, Holds.made w (cmps10.map fun z => .string (tx z)) _, (Below.refl _ _).alloc (Nat.le_refl _) _⟩
theorem spec_nums (w : World) :
    Calls Tryd.prog 30 #[] w fun e w' => ∃ b, e = .returned (.slice (some ⟨b, 0, none⟩) 18 18) ∧ Holds w' b (nums18.map fun z => .string (tx z)) ∧ Below w.heap.size w w' := by
  go_enter Tryd.func30, Tryd.ntmps30
  go_wp2_with fail
  go_ret
  exact ⟨_, rfl, Holds.made w (nums18.map fun z => .string (tx z)) _, (Below.refl _ _).alloc (Nat.le_refl _) _⟩
theorem Holds.int {w : World} {b : Nat} {l : List Int} (h : Holds w b (l.map fun z => .int .i64 z)) (j : Nat) (hj : j < l.length) : w.cell? ⟨b, j, none⟩ = some (.int .i64 (l.getD j 0)) :=
  h j _ (by simp [hj])
theorem Holds.str {w : World} {b : Nat} {l : List (List UInt8)} (h : Holds w b (l.map fun z => .string (tx z))) (j : Nat) (hj : j < l.length) : w.cell? ⟨b, j, none⟩ = some (.string (tx (l.getD j []))) :=
  h j _ (by simp [hj])
set_option maxHeartbeats 2000000 in
theorem spec_opName (op : Int) (w : World) :
    Calls Tryd.prog 16 #[.int .i64 op] w fun e w' => e = .returned (.string (opNm op)) ∧ Below w.heap.size w w' := by
  obtain ⟨R, hR⟩ : ∃ R, opNm op = R := ⟨_, rfl⟩
  rw [hR]
  have hR' : Hid (opNm op = R) := hR
  clear hR
  go_enter Tryd.func16, Tryd.ntmps16
  go_wp2_with (go_at_call 27; refine (spec_ops _).mono ?_; rintro e w1 ⟨b, rfl, h1, b1⟩)
  have h1' : Hid (Holds w1 b (ops24.map fun z => .int .i64 z)) := h1
  have b1' : Hid (Below w.heap.size w w1) := b1
  clear h1 b1
  go_loop [7] (fun i => ∃ k : Nat, k ≤ 24 ∧ i = .int .i64 k ∧ (∀ j, j < k → ops24.getD j 0 ≠ op)) (fun i => 24 - (intOf i).toNat)
  case atStart => exact ⟨0, by omega, rfl, fun j hj => by omega⟩
  case round =>
    obtain ⟨k, hk, rfl, hno⟩ := hrel
    have hno' : Hid (∀ j, j < k → ops24.getD j 0 ≠ op) := hno
    clear hno
    by_cases hlt : k < 24
    · have hlt' : (k : Int) < 24 := by omega
      have hc := h1'.out.int k hlt
      by_cases he : ops24.getD k 0 = op
      · have hf : Hid (opNm op = tx (nms24.getD k [])) := nm_find k hlt he
        generalize ops24.getD k 0 = x at hc he
        subst he
        go_wp2_with (go_at_call 28; refine (spec_names _).mono ?_; rintro e w2 ⟨b2, rfl, h2, b2⟩; have hc2 := h2.str k hlt; clear h2)
        go_ret
        exact ⟨by rw [← hR'.out, hf.out]; rfl, b1'.out.trans (b2.mono b1'.out.size)⟩
      · have hs : Hid (∀ j, j < k + 1 → ops24.getD j 0 ≠ op) := fun j hj => by
          by_cases e : j = k
          · rw [e]; exact he
          · exact hno'.out j (by omega)
        generalize ops24.getD k 0 = x at hc he
        go_wp2_with fail
        go_round
        case rel => exact ⟨k + 1, by omega, by go_num, hs.out⟩
        case measure => simp only [intOf]; omega
    · obtain rfl : k = 24 := by omega
      by_cases hcm : 70 ≤ op ∧ op ≤ 79
      · have hf : Hid (opNm op = tx [105, 51, 50, 46] ++ tx (cmps10.getD (op - 70).toNat [])) := nm_cmp hcm.1 hcm.2
        obtain ⟨q0, q1⟩ := hcm
        have hz := tx_small (cmps_small (op - 70).toNat)
        obtain ⟨T, hT⟩ : ∃ T, tx (cmps10.getD (op - 70).toNat []) = T := ⟨_, rfl⟩
        rw [hT] at hf hz
        go_wp2_with (go_at_call 29; refine (spec_cmps _).mono ?_; rintro e w2 ⟨b2, rfl, h2, b2⟩; have hc2 := h2.str (op - 70).toNat (by show (op - 70).toNat < 10; omega); rw [hT] at hc2; clear h2)
        go_ret
        exact ⟨by rw [← hR'.out, hf.out]; rfl, b1'.out.trans (b2.mono b1'.out.size)⟩
      · by_cases hnu : 103 ≤ op ∧ op ≤ 120
        · have hf : Hid (opNm op = tx [105, 51, 50, 46] ++ tx (nums18.getD (op - 103).toNat [])) := nm_num hnu.1 hnu.2
          obtain ⟨q0, q1⟩ := hnu
          have hz := tx_small (nums_small (op - 103).toNat)
          obtain ⟨T, hT⟩ : ∃ T, tx (nums18.getD (op - 103).toNat []) = T := ⟨_, rfl⟩
          rw [hT] at hf hz
          clear hcm
          go_wp2_with (go_at_call 30; refine (spec_nums _).mono ?_; rintro e w2 ⟨b2, rfl, h2, b2⟩; have hc2 := h2.str (op - 103).toNat (by show (op - 103).toNat < 18; omega); rw [hT] at hc2; clear h2)
          go_ret
          exact ⟨by rw [← hR'.out, hf.out]; rfl, b1'.out.trans (b2.mono b1'.out.size)⟩
        · have hf : Hid (opNm op = ⟨#[]⟩) := nm_none hno'.out hcm hnu
          go_wp2_with fail
          all_goals (go_ret; exact ⟨by rw [← hR'.out, hf.out]; rfl, b1'.out⟩)
/-- The program's table of names lies where it was laid. -/
def Tab (w : World) : Prop := ∀ j, j < 121 → w.cell? ⟨0, j, none⟩ = some (.string (tx (opTab.getD j [])))
theorem Tab.later {w w' : World} (h : Tab w) (hb : Below w.heap.size w w') : Tab w' := fun j hj => by
  rw [hb.cell (World.block_lt_of_cell? w _ (h j hj))]; exact h j hj
theorem impl_opName (op : Int) (w : World) (ht : Tab w) :
    Calls Tryd.prog 40 #[.int .i64 op] w fun e w' => e = .returned (.string (opNm op)) ∧ w = w' := by
  by_cases h : 0 ≤ op ∧ op < 121
  · have hc := ht op.toNat (by omega)
    have hf : Hid (opNm op = tx (opTab.getD op.toNat [])) := if_pos h
    obtain ⟨h0, h1⟩ := h
    generalize tx (opTab.getD op.toNat []) = T at hc hf
    go_enter Tryd.func40, Tryd.ntmps40
    go_wp2_with fail
    go_ret
    exact ⟨by rw [hf.out]; rfl, rfl⟩
  · have hf : Hid (opNm op = ⟨#[]⟩) := opNm_out h
    go_enter Tryd.func40, Tryd.ntmps40
    go_wp2_with fail
    all_goals (go_ret; exact ⟨by rw [hf.out]; rfl, rfl⟩)
set_option maxHeartbeats 2000000 in
theorem spec_nameOp (s : ByteArray) (w : World) :
    Calls Tryd.prog 10 #[.string s] w fun e w' => e = .returned (.int .i64 (nmOp s)) ∧ Below w.heap.size w w' := by
  by_cases h0 : s = ⟨#[]⟩
  · have hf : Hid (nmOp s = -1) := if_pos h0
    subst h0
    go_enter Tryd.func10, Tryd.ntmps10
    go_wp2_with fail
    go_loop [3] (fun i => ∃ k : Nat, k ≤ 121 ∧ i = .int .i64 k) (fun i => 121 - (intOf i).toNat)
    case atStart => exact ⟨0, by omega, rfl⟩
    case round =>
      obtain ⟨k, hk, rfl⟩ := hrel
      by_cases hlt : k < 121
      · have hlt' : (k : Int) ≤ 120 := by omega
        go_wp2_with fail
        go_round
        case rel => exact ⟨k + 1, by omega, by go_num⟩
        case measure => simp only [intOf]; omega
      · obtain rfl : k = 121 := by omega
        go_wp2_with fail
        go_ret
        exact ⟨by rw [hf.out]; rfl, Below.refl _ _⟩
  · obtain ⟨R, hR⟩ : ∃ R, nmOp s = R := ⟨_, rfl⟩
    rw [hR]
    have hR' : Hid (nmFrom s 121 0 = R) := (if_neg h0).symm.trans hR
    obtain ⟨n1, n2⟩ := str_nil h0
    clear hR h0
    go_enter Tryd.func10, Tryd.ntmps10
    go_wp2_with fail
    go_loopw [3] (fun i wr => ∃ k f : Nat, k + f = 121 ∧ i = .int .i64 k ∧ nmFrom s f k = R ∧ Below w.heap.size w wr) (fun i _ => 121 - (intOf i).toNat)
    case atStart => exact ⟨0, 121, by omega, rfl, hR'.out, Below.refl _ _⟩
    case round =>
      obtain ⟨k, f, hk, rfl, hr, hb⟩ := hrel
      have hr' : Hid (nmFrom s f k = R) := hr
      have hb' : Hid (Below w.heap.size w wr) := hb
      clear hr hb
      by_cases hlt : k < 121
      · have hlt' : (k : Int) ≤ 120 := by omega
        obtain ⟨f, rfl⟩ : ∃ j, f = j + 1 := ⟨f - 1, by omega⟩
        by_cases he : opNm (k : Int) = s
        · have hf : Hid (nmFrom s (f + 1) k = (k : Int)) := nmFrom_yes he
          have hc : Hid _ := fun u => spec_opName (k : Int) u
          rw [he] at hc
          clear he
          go_wp2_with (go_at_call 16; refine (hc.out _).mono ?_; rintro e w2 ⟨rfl, b2⟩)
          go_ret
          exact ⟨by rw [← hr'.out, hf.out]; rfl, hb'.out.trans (b2.mono hb'.out.size)⟩
        · have hf : Hid (nmFrom s (f + 1) k = nmFrom s f (k + 1)) := nmFrom_no he
          have hc : Hid _ := fun u => spec_opName (k : Int) u
          generalize opNm (k : Int) = T at he hc
          have n3 := str_ne he
          clear he
          go_wp2_with (go_at_call 16; refine (hc.out _).mono ?_; rintro e w2 ⟨rfl, b2⟩)
          go_roundw
          case rel => exact ⟨k + 1, f, by omega, by go_num, by rw [← hf.out]; exact hr'.out, hb'.out.trans (b2.mono hb'.out.size)⟩
          case measure => simp [intOf]; omega
      · obtain rfl : k = 121 := by omega
        obtain rfl : f = 0 := by omega
        go_wp2_with fail
        go_ret
        exact ⟨by rw [← hr'.out]; rfl, hb'.out⟩
set_option maxHeartbeats 2000000 in
theorem impl_nameOp (s : ByteArray) (w : World) (ht : Tab w) :
    Calls Tryd.prog 23 #[.string s] w fun e w' => e = .returned (.int .i64 (nmOp s)) ∧ w = w' := by
  have ht' : Hid (Tab w) := ht
  clear ht
  by_cases h0 : s = ⟨#[]⟩
  · have hf : Hid (nmOp s = -1) := if_pos h0
    subst h0
    go_enter Tryd.func23, Tryd.ntmps23
    go_wp2_with fail
    go_loop [4] (fun i => ∃ k : Nat, k ≤ 121 ∧ i = .int .i64 k) (fun i => 121 - (intOf i).toNat)
    case atStart => exact ⟨0, by omega, rfl⟩
    case round =>
      obtain ⟨k, hk, rfl⟩ := hrel
      by_cases hlt : k < 121
      · have hlt' : (k : Int) < 121 := by omega
        have hc := ht'.out k hlt
        by_cases he : tx (opTab.getD k []) = ⟨#[]⟩
        · rw [he] at hc
          go_wp2_with fail
          go_round
          case rel => exact ⟨k + 1, by omega, by go_num⟩
          case measure => simp only [intOf]; omega
        · generalize tx (opTab.getD k []) = T at he hc
          obtain ⟨n1, n2⟩ := str_nil he
          clear he
          go_wp2_with fail
          go_round
          case rel => exact ⟨k + 1, by omega, by go_num⟩
          case measure => simp only [intOf]; omega
      · obtain rfl : k = 121 := by omega
        go_wp2_with fail
        go_ret
        exact ⟨by rw [hf.out]; rfl, rfl⟩
  · obtain ⟨R, hR⟩ : ∃ R, nmOp s = R := ⟨_, rfl⟩
    rw [hR]
    have hR' : Hid (nmFrom s 121 0 = R) := (if_neg h0).symm.trans hR
    obtain ⟨n1, n2⟩ := str_nil h0
    clear hR h0
    go_enter Tryd.func23, Tryd.ntmps23
    go_wp2_with fail
    go_loop [4] (fun i => ∃ k f : Nat, k + f = 121 ∧ i = .int .i64 k ∧ nmFrom s f k = R) (fun i => 121 - (intOf i).toNat)
    case atStart => exact ⟨0, 121, by omega, rfl, hR'.out⟩
    case round =>
      obtain ⟨k, f, hk, rfl, hr⟩ := hrel
      have hr' : Hid (nmFrom s f k = R) := hr
      clear hr
      by_cases hlt : k < 121
      · have hlt' : (k : Int) < 121 := by omega
        obtain ⟨f, rfl⟩ : ∃ j, f = j + 1 := ⟨f - 1, by omega⟩
        have hc := ht'.out k hlt
        have hk' := opNm_in k hlt
        rw [← hk'] at hc
        clear hk'
        by_cases he : opNm (k : Int) = s
        · have hf : Hid (nmFrom s (f + 1) k = (k : Int)) := nmFrom_yes he
          rw [he] at hc
          clear he
          go_wp2_with fail
          go_ret
          exact ⟨by rw [← hr'.out, hf.out]; rfl, rfl⟩
        · have hf : Hid (nmFrom s (f + 1) k = nmFrom s f (k + 1)) := nmFrom_no he
          generalize opNm (k : Int) = T at he hc
          have n3 := str_ne he
          clear he
          go_wp2_with fail
          go_round
          case rel => exact ⟨k + 1, f, by omega, by go_num, by rw [← hf.out]; exact hr'.out⟩
          case measure => simp only [intOf]; omega
      · obtain rfl : k = 121 := by omega
        obtain rfl : f = 0 := by omega
        go_wp2_with fail
        go_ret
        exact ⟨by rw [← hr'.out]; rfl, rfl⟩
end Go.Proofs.YtjbhelcdakhjbaaDoor.NameCalls
