/-
  The names of operations, in plain words: one table of 121 texts, and what the two ways of looking up say of it.
  What OpName and NameOp answer when they are called, the specification's and the program's.
  From a row's list of laid variables to what the walks ask of memory: the table of names lies there.
-/
import Derived.KernelRfl
import Derived.Test.YtajlkdidjelpeaaGreatDoorChecked
import Derived.WalkKit
import Derived.Deep.QuietTactic
import Derived.BigQuiet
import Derived.Deep.OwnRows
import Derived.Below
import Derived.WalkSpells
import Derived.WalkSmall
import Derived.Test.YtajlkdidjelpeaaGreatDoorRows
import Derived.Lib.LaidU8
namespace Go.Proofs.YtajlkdidjelpeaaGreatDoor.PlainOps

/-- The names by their numbers; the empty text where no operation is. -/
def opTab : List (List UInt8) := [[117, 110, 114, 101, 97, 99, 104, 97, 98, 108, 101], [110, 111, 112], [98, 108, 111, 99, 107], [108, 111, 111, 112], [105, 102], [101, 108, 115, 101], [], [], [], [], [], [101, 110, 100], [98, 114], [98, 114, 95, 105, 102], [], [114, 101, 116, 117, 114, 110], [99, 97, 108, 108], [], [], [], [], [], [], [], [], [], [100, 114, 111, 112], [115, 101, 108, 101, 99, 116], [], [], [], [], [108, 111, 99, 97, 108, 46, 103, 101, 116], [108, 111, 99, 97, 108, 46, 115, 101, 116], [108, 111, 99, 97, 108, 46, 116, 101, 101], [103, 108, 111, 98, 97, 108, 46, 103, 101, 116], [103, 108, 111, 98, 97, 108, 46, 115, 101, 116], [], [], [], [105, 51, 50, 46, 108, 111, 97, 100], [], [], [], [], [], [], [], [], [], [], [], [], [], [105, 51, 50, 46, 115, 116, 111, 114, 101], [], [], [], [], [], [], [], [], [109, 101, 109, 111, 114, 121, 46, 115, 105, 122, 101], [109, 101, 109, 111, 114, 121, 46, 103, 114, 111, 119], [105, 51, 50, 46, 99, 111, 110, 115, 116], [], [], [], [105, 51, 50, 46, 101, 113, 122], [105, 51, 50, 46, 101, 113], [105, 51, 50, 46, 110, 101], [105, 51, 50, 46, 108, 116, 95, 115], [105, 51, 50, 46, 108, 116, 95, 117], [105, 51, 50, 46, 103, 116, 95, 115], [105, 51, 50, 46, 103, 116, 95, 117], [105, 51, 50, 46, 108, 101, 95, 115], [105, 51, 50, 46, 108, 101, 95, 117], [105, 51, 50, 46, 103, 101, 95, 115], [105, 51, 50, 46, 103, 101, 95, 117], [], [], [], [], [], [], [], [], [], [], [], [], [], [], [], [], [], [], [], [], [], [], [], [105, 51, 50, 46, 99, 108, 122], [105, 51, 50, 46, 99, 116, 122], [105, 51, 50, 46, 112, 111, 112, 99, 110, 116], [105, 51, 50, 46, 97, 100, 100], [105, 51, 50, 46, 115, 117, 98], [105, 51, 50, 46, 109, 117, 108], [105, 51, 50, 46, 100, 105, 118, 95, 115], [105, 51, 50, 46, 100, 105, 118, 95, 117], [105, 51, 50, 46, 114, 101, 109, 95, 115], [105, 51, 50, 46, 114, 101, 109, 95, 117], [105, 51, 50, 46, 97, 110, 100], [105, 51, 50, 46, 111, 114], [105, 51, 50, 46, 120, 111, 114], [105, 51, 50, 46, 115, 104, 108], [105, 51, 50, 46, 115, 104, 114, 95, 115], [105, 51, 50, 46, 115, 104, 114, 95, 117], [105, 51, 50, 46, 114, 111, 116, 108], [105, 51, 50, 46, 114, 111, 116, 114]]
def ops24 : List Int := [0, 1, 2, 3, 4, 5, 11, 12, 13, 15, 16, 26, 27, 32, 33, 34, 35, 36, 40, 54, 63, 64, 65, 69]
def nms24 : List (List UInt8) := [[117, 110, 114, 101, 97, 99, 104, 97, 98, 108, 101], [110, 111, 112], [98, 108, 111, 99, 107], [108, 111, 111, 112], [105, 102], [101, 108, 115, 101], [101, 110, 100], [98, 114], [98, 114, 95, 105, 102], [114, 101, 116, 117, 114, 110], [99, 97, 108, 108], [100, 114, 111, 112], [115, 101, 108, 101, 99, 116], [108, 111, 99, 97, 108, 46, 103, 101, 116], [108, 111, 99, 97, 108, 46, 115, 101, 116], [108, 111, 99, 97, 108, 46, 116, 101, 101], [103, 108, 111, 98, 97, 108, 46, 103, 101, 116], [103, 108, 111, 98, 97, 108, 46, 115, 101, 116], [105, 51, 50, 46, 108, 111, 97, 100], [105, 51, 50, 46, 115, 116, 111, 114, 101], [109, 101, 109, 111, 114, 121, 46, 115, 105, 122, 101], [109, 101, 109, 111, 114, 121, 46, 103, 114, 111, 119], [105, 51, 50, 46, 99, 111, 110, 115, 116], [105, 51, 50, 46, 101, 113, 122]]
def cmps10 : List (List UInt8) := [[101, 113], [110, 101], [108, 116, 95, 115], [108, 116, 95, 117], [103, 116, 95, 115], [103, 116, 95, 117], [108, 101, 95, 115], [108, 101, 95, 117], [103, 101, 95, 115], [103, 101, 95, 117]]
def nums18 : List (List UInt8) := [[99, 108, 122], [99, 116, 122], [112, 111, 112, 99, 110, 116], [97, 100, 100], [115, 117, 98], [109, 117, 108], [100, 105, 118, 95, 115], [100, 105, 118, 95, 117], [114, 101, 109, 95, 115], [114, 101, 109, 95, 117], [97, 110, 100], [111, 114], [120, 111, 114], [115, 104, 108], [115, 104, 114, 95, 115], [115, 104, 114, 95, 117], [114, 111, 116, 108], [114, 111, 116, 114]]
/-- The bytes of a list, as a text. -/
def tx (l : List UInt8) : ByteArray := ⟨l.toArray⟩
/-- The name of the operation op. -/
def opNm (op : Int) : ByteArray := if 0 ≤ op ∧ op < 121 then tx (opTab.getD op.toNat []) else ⟨#[]⟩
theorem tab_len : opTab.length = 121 := rfl
theorem opNm_out {op : Int} (h : ¬ (0 ≤ op ∧ op < 121)) : opNm op = ⟨#[]⟩ := if_neg h
theorem opNm_in (k : Nat) (h : k < 121) : opNm (k : Int) = tx (opTab.getD k []) := by
  unfold opNm
  rw [if_pos (by omega), Int.toNat_natCast]
theorem tx_append (a b : List UInt8) : tx a ++ tx b = tx (a ++ b) := by
  apply ByteArray.ext
  simp [tx, ByteArray.data_append]
theorem tx_small {l : List UInt8} (h : l.length ≤ 20) : (tx l).size ≤ 20 := by simpa [tx, ByteArray.size] using h
theorem getD_small {n : Nat} {t : List (List UInt8)} (h : ∀ l ∈ t, l.length ≤ n) (k : Nat) : (t.getD k []).length ≤ n := by
  by_cases hk : k < t.length
  · rw [List.getD, List.getElem?_eq_getElem hk]; exact h _ (List.getElem_mem hk)
  · rw [List.getD, List.getElem?_eq_none (by omega)]; exact Nat.zero_le _
theorem cmps_small (k : Nat) : (cmps10.getD k []).length ≤ 20 := getD_small (by decide) k
theorem nums_small (k : Nat) : (nums18.getD k []).length ≤ 20 := getD_small (by decide) k
theorem opNm_small (op : Int) : (opNm op).size ≤ 20 := by
  unfold opNm
  split
  · exact tx_small (getD_small (by decide +kernel) _)
  · exact Nat.zero_le _
theorem find24 : ∀ k, k < 24 → opTab.getD (ops24.getD k 0).toNat [] = nms24.getD k [] ∧ 0 ≤ ops24.getD k 0 ∧ ops24.getD k 0 < 121 := by decide
theorem cmp10 : ∀ k, k < 10 → opTab.getD (70 + k) [] = [105, 51, 50, 46] ++ cmps10.getD k [] := by decide
theorem num18 : ∀ k, k < 18 → opTab.getD (103 + k) [] = [105, 51, 50, 46] ++ nums18.getD k [] := by decide
theorem none121 : ∀ k : Nat, k < 121 → (∀ j, j < 24 → ops24.getD j 0 ≠ (k : Int)) → ¬ (70 ≤ k ∧ k ≤ 79) → ¬ (103 ≤ k ∧ k ≤ 120) → opTab.getD k [] = [] := by decide +kernel
theorem nm_find {op : Int} (k : Nat) (hk : k < 24) (h : ops24.getD k 0 = op) : opNm op = tx (nms24.getD k []) := by
  obtain ⟨h1, h2, h3⟩ := find24 k hk
  rw [h] at h1 h2 h3
  unfold opNm
  rw [if_pos ⟨h2, h3⟩, h1]
theorem nm_cmp {op : Int} (h0 : 70 ≤ op) (h1 : op ≤ 79) : opNm op = tx [105, 51, 50, 46] ++ tx (cmps10.getD (op - 70).toNat []) := by
  have := cmp10 (op - 70).toNat (by omega)
  rw [show 70 + (op - 70).toNat = op.toNat by omega] at this
  unfold opNm
  rw [if_pos (by omega), this, tx_append]
theorem nm_num {op : Int} (h0 : 103 ≤ op) (h1 : op ≤ 120) : opNm op = tx [105, 51, 50, 46] ++ tx (nums18.getD (op - 103).toNat []) := by
  have := num18 (op - 103).toNat (by omega)
  rw [show 103 + (op - 103).toNat = op.toNat by omega] at this
  unfold opNm
  rw [if_pos (by omega), this, tx_append]
theorem nm_none {op : Int} (h : ∀ j, j < 24 → ops24.getD j 0 ≠ op) (h1 : ¬ (70 ≤ op ∧ op ≤ 79)) (h2 : ¬ (103 ≤ op ∧ op ≤ 120)) : opNm op = ⟨#[]⟩ := by
  by_cases h0 : 0 ≤ op ∧ op < 121
  · unfold opNm
    rw [if_pos h0, none121 op.toNat (by omega) (fun j hj => by rw [show (op.toNat : Int) = op by omega]; exact h j hj) (by omega) (by omega)]
    rfl
  · exact opNm_out h0
/-- The operation with that name, from k on. -/
def nmFrom (s : ByteArray) : Nat → Nat → Int
  | 0, _ => -1
  | f + 1, k => if opNm (k : Int) = s then (k : Int) else nmFrom s f (k + 1)
def nmOp (s : ByteArray) : Int := if s = ⟨#[]⟩ then -1 else nmFrom s 121 0
theorem nmFrom_yes {s : ByteArray} {k f : Nat} (h : opNm (k : Int) = s) : nmFrom s (f + 1) k = (k : Int) := if_pos h
theorem nmFrom_no {s : ByteArray} {k f : Nat} (h : ¬ opNm (k : Int) = s) : nmFrom s (f + 1) k = nmFrom s f (k + 1) := if_neg h
theorem nmFrom_is {s : ByteArray} : ∀ (f k : Nat), nmFrom s f k = -1 ∧ (∀ j, k ≤ j → j < k + f → ¬ opNm (j : Int) = s) ∨ ∃ j, k ≤ j ∧ j < k + f ∧ nmFrom s f k = (j : Int) ∧ opNm (j : Int) = s
  | 0, k => .inl ⟨rfl, fun j h1 h2 => by omega⟩
  | f + 1, k => by
    by_cases h : opNm (k : Int) = s
    · exact .inr ⟨k, by omega, by omega, nmFrom_yes h, h⟩
    · rw [nmFrom_no h]
      rcases nmFrom_is (s := s) f (k + 1) with ⟨h1, h2⟩ | ⟨j, h1, h2, h3, h4⟩
      · refine .inl ⟨h1, fun j q1 q2 => ?_⟩
        by_cases e : j = k
        · rw [e]; exact h
        · exact h2 j (by omega) (by omega)
      · exact .inr ⟨j, by omega, by omega, h3, h4⟩
end Go.Proofs.YtajlkdidjelpeaaGreatDoor.PlainOps
namespace Go.Proofs.YtajlkdidjelpeaaGreatDoor.NameCalls
open Go.RowKit PlainOps

theorem alloc_top (w : World) (o : Obj) : (w.alloc o).heap[w.heap.size]? = some o := by
  show (w.heap.push o)[w.heap.size]? = some o
  simp
theorem str_ne {a b : ByteArray} (h : ¬ a = b) : (a.toList == b.toList) = false := by
  rw [beq_eq_false_iff_ne]
  intro e
  rw [ByteArray.toList_eq, ByteArray.toList_eq] at e
  exact h (ByteArray.ext (Array.toList_inj.1 e))
theorem str_nil {a : ByteArray} (h : ¬ a = ⟨#[]⟩) : a.toList.isEmpty = false ∧ (a.toList == []) = false := by
  have := str_ne h
  rw [ByteArray.toList_eq ⟨#[]⟩] at this
  refine ⟨?_, this⟩
  cases e : a.toList with
  | nil => rw [e] at this; cases this
  | cons x l => rfl
/-- Block b begins with these values. -/
def Holds (w : World) (b : Nat) (vs : List Value) : Prop := ∀ j v, vs[j]? = some v → w.cell? ⟨b, j, none⟩ = some v
theorem Holds.made (w : World) (vs : List Value) (t : TypeId) : Holds (w.alloc (.cells vs.toArray t)) w.heap.size vs := by
  intro j v hv
  have : (w.alloc (.cells vs.toArray t)).heap[w.heap.size]? = some (.cells vs.toArray t) := alloc_top w _
  simp only [World.cell?, this]
  simpa using hv
theorem spec_ops (w : World) :
    Calls Tryz.prog 156 #[] w fun e w' => ∃ b, e = .returned (.slice (some ⟨b, 0, none⟩) 24 24) ∧ Holds w' b (ops24.map fun z => .int .i64 z) ∧ Below w.heap.size w w' := by
  go_enter Tryz.func156, Tryz.ntmps156
  go_wp2_with fail
  go_ret
  exact ⟨_, rfl, Holds.made w (ops24.map fun z => .int .i64 z) _, (Below.refl _ _).alloc (Nat.le_refl _) _⟩
theorem spec_names (w : World) :
    Calls Tryz.prog 157 #[] w fun e w' => ∃ b, e = .returned (.slice (some ⟨b, 0, none⟩) 24 24) ∧ Holds w' b (nms24.map fun z => .string (tx z)) ∧ Below w.heap.size w w' := by
  go_enter Tryz.func157, Tryz.ntmps157
  go_wp2_with fail
  go_ret
  exact ⟨_, rfl, Holds.made w (nms24.map fun z => .string (tx z)) _, (Below.refl _ _).alloc (Nat.le_refl _) _⟩
theorem spec_cmps (w : World) :
    Calls Tryz.prog 158 #[] w fun e w' => ∃ b, e = .returned (.slice (some ⟨b, 0, none⟩) 10 10) ∧ Holds w' b (cmps10.map fun z => .string (tx z)) ∧ Below w.heap.size w w' := by
  go_enter Tryz.func158, Tryz.ntmps158
  go_wp2_with fail
  go_ret
  exact ⟨_, rfl, Holds.made w (cmps10.map fun z => .string (tx z)) _, (Below.refl _ _).alloc (Nat.le_refl _) _⟩
theorem spec_nums (w : World) :
    Calls Tryz.prog 159 #[] w fun e w' => ∃ b, e = .returned (.slice (some ⟨b, 0, none⟩) 18 18) ∧ Holds w' b (nums18.map fun z => .string (tx z)) ∧ Below w.heap.size w w' := by
  go_enter Tryz.func159, Tryz.ntmps159
  go_wp2_with fail
  go_ret
  exact ⟨_, rfl, Holds.made w (nums18.map fun z => .string (tx z)) _, (Below.refl _ _).alloc (Nat.le_refl _) _⟩
theorem Holds.int {w : World} {b : Nat} {l : List Int} (h : Holds w b (l.map fun z => .int .i64 z)) (j : Nat) (hj : j < l.length) : w.cell? ⟨b, j, none⟩ = some (.int .i64 (l.getD j 0)) :=
  h j _ (by simp [hj])
theorem Holds.str {w : World} {b : Nat} {l : List (List UInt8)} (h : Holds w b (l.map fun z => .string (tx z))) (j : Nat) (hj : j < l.length) : w.cell? ⟨b, j, none⟩ = some (.string (tx (l.getD j []))) :=
  h j _ (by simp [hj])
set_option maxHeartbeats 2000000 in
theorem spec_opName (op : Int) (w : World) :
    Calls Tryz.prog 149 #[.int .i64 op] w fun e w' => e = .returned (.string (opNm op)) ∧ Below w.heap.size w w' := by
  obtain ⟨R, hR⟩ : ∃ R, opNm op = R := ⟨_, rfl⟩
  rw [hR]
  have hR' : Hid (opNm op = R) := hR
  clear hR
  go_enter Tryz.func149, Tryz.ntmps149
  go_wp2_with (go_at_call 156; refine (spec_ops _).mono ?_; rintro e w1 ⟨b, rfl, h1, b1⟩)
  have h1' : Hid (Holds w1 b (ops24.map fun z => .int .i64 z)) := h1
  have b1' : Hid (Below w.heap.size w w1) := b1
  clear h1 b1
  go_loop [7] (fun i => ∃ k : Nat, k ≤ 24 ∧ i = .int .i64 k ∧ (∀ j, j < k → ops24.getD j 0 ≠ op)) (fun i => 24 - (intOf i).toNat)
  case atStart => exact ⟨0, by omega, rfl, fun j hj => by omega⟩
  case round =>
    obtain ⟨k, hk, rfl, hno⟩ := hrel
    have hno' : Hid (∀ j, j < k → ops24.getD j 0 ≠ op) := hno
    clear hno
    by_cases hlt : k < 24
    · have hlt' : (k : Int) < 24 := by omega
      have hc := h1'.out.int k hlt
      by_cases he : ops24.getD k 0 = op
      · have hf : Hid (opNm op = tx (nms24.getD k [])) := nm_find k hlt he
        generalize ops24.getD k 0 = x at hc he
        subst he
        go_wp2_with (go_at_call 157; refine (spec_names _).mono ?_; rintro e w2 ⟨b2, rfl, h2, b2⟩; have hc2 := h2.str k hlt; clear h2)
        go_ret
        exact ⟨by rw [← hR'.out, hf.out]; rfl, b1'.out.trans (b2.mono b1'.out.size)⟩
      · have hs : Hid (∀ j, j < k + 1 → ops24.getD j 0 ≠ op) := fun j hj => by
          by_cases e : j = k
          · rw [e]; exact he
          · exact hno'.out j (by omega)
        generalize ops24.getD k 0 = x at hc he
        go_wp2_with fail
        go_round
        case rel => exact ⟨k + 1, by omega, by go_num, hs.out⟩
        case measure => simp only [intOf]; omega
    · obtain rfl : k = 24 := by omega
      by_cases hcm : 70 ≤ op ∧ op ≤ 79
      · have hf : Hid (opNm op = tx [105, 51, 50, 46] ++ tx (cmps10.getD (op - 70).toNat [])) := nm_cmp hcm.1 hcm.2
        obtain ⟨q0, q1⟩ := hcm
        have hz := tx_small (cmps_small (op - 70).toNat)
        obtain ⟨T, hT⟩ : ∃ T, tx (cmps10.getD (op - 70).toNat []) = T := ⟨_, rfl⟩
        rw [hT] at hf hz
        go_wp2_with (go_at_call 158; refine (spec_cmps _).mono ?_; rintro e w2 ⟨b2, rfl, h2, b2⟩; have hc2 := h2.str (op - 70).toNat (by show (op - 70).toNat < 10; omega); rw [hT] at hc2; clear h2)
        go_ret
        exact ⟨by rw [← hR'.out, hf.out]; rfl, b1'.out.trans (b2.mono b1'.out.size)⟩
      · by_cases hnu : 103 ≤ op ∧ op ≤ 120
        · have hf : Hid (opNm op = tx [105, 51, 50, 46] ++ tx (nums18.getD (op - 103).toNat [])) := nm_num hnu.1 hnu.2
          obtain ⟨q0, q1⟩ := hnu
          have hz := tx_small (nums_small (op - 103).toNat)
          obtain ⟨T, hT⟩ : ∃ T, tx (nums18.getD (op - 103).toNat []) = T := ⟨_, rfl⟩
          rw [hT] at hf hz
          clear hcm
          go_wp2_with (go_at_call 159; refine (spec_nums _).mono ?_; rintro e w2 ⟨b2, rfl, h2, b2⟩; have hc2 := h2.str (op - 103).toNat (by show (op - 103).toNat < 18; omega); rw [hT] at hc2; clear h2)
          go_ret
          exact ⟨by rw [← hR'.out, hf.out]; rfl, b1'.out.trans (b2.mono b1'.out.size)⟩
        · have hf : Hid (opNm op = ⟨#[]⟩) := nm_none hno'.out hcm hnu
          go_wp2_with fail
          all_goals (go_ret; exact ⟨by rw [← hR'.out, hf.out]; rfl, b1'.out⟩)
/-- The program's table of names lies where it was laid. -/
def Tab (w : World) : Prop := ∀ j, j < 121 → w.cell? ⟨0, j, none⟩ = some (.string (tx (opTab.getD j [])))
theorem Tab.later {w w' : World} (h : Tab w) (hb : Below w.heap.size w w') : Tab w' := fun j hj => by
  rw [hb.cell (World.block_lt_of_cell? w _ (h j hj))]; exact h j hj
theorem impl_opName (op : Int) (w : World) (ht : Tab w) :
    Calls Tryz.prog 153 #[.int .i64 op] w fun e w' => e = .returned (.string (opNm op)) ∧ w = w' := by
  by_cases h : 0 ≤ op ∧ op < 121
  · have hc := ht op.toNat (by omega)
    have hf : Hid (opNm op = tx (opTab.getD op.toNat [])) := if_pos h
    obtain ⟨h0, h1⟩ := h
    generalize tx (opTab.getD op.toNat []) = T at hc hf
    go_enter Tryz.func153, Tryz.ntmps153
    go_wp2_with fail
    go_ret
    exact ⟨by rw [hf.out]; rfl, rfl⟩
  · have hf : Hid (opNm op = ⟨#[]⟩) := opNm_out h
    go_enter Tryz.func153, Tryz.ntmps153
    go_wp2_with fail
    all_goals (go_ret; exact ⟨by rw [hf.out]; rfl, rfl⟩)
end Go.Proofs.YtajlkdidjelpeaaGreatDoor.NameCalls
namespace Go.Proofs.YtajlkdidjelpeaaGreatDoor.LaidOps
open Go.RowKit PlainOps NameCalls

theorem gName : Tryz.prog.globalNamed "loop.example/g00472/impl.opNames" = some 0 := by kernel_rfl
theorem gType : (Tryz.prog.globals[0]?).map (·.type) = some 197 := by kernel_rfl
theorem cells9 : Tryz.prog.cellsOf 9 = 1 := by kernel_rfl
theorem datum : (Rows.laid_loop_example_g00472_impl_opNames : DataW Unit) = .agg (opTab.map fun l => .lit (.string l)) := rfl

theorem tab_of_reads {W : World} (h : Lib.VarReads Tryz.prog W "loop.example/g00472/impl.opNames" Rows.laid_loop_example_g00472_impl_opNames) : Tab W := by
  obtain ⟨g, t, cs, fuel, p, hg, ht, hv, hd⟩ := h
  obtain rfl := Option.some.inj (gName.symm.trans hg)
  obtain rfl := Option.some.inj (gType.symm.trans ht)
  rw [datum] at hd
  intro j hj
  obtain ⟨f', d, q, h1, h2⟩ := Lib.array_elem Tryz.underlying197 hd j hj
  obtain ⟨s, hs, hx, _⟩ := DataW.trod_string Tryz.underlying9 h2
  rw [cells9, Nat.mul_one] at hs
  have hcs : cs[j]? = some (.string s) := by
    have := congrArg (·[0]?) hs
    simpa [List.getElem?_take, List.getElem?_drop] using this
  have h3 := World.var?_cell gName hv j
  rw [h3, hcs]
  have hj' : j < opTab.length := hj
  have he : (.lit (.string (opTab.getD j [])) : DataW Unit) = d := by
    simpa [List.getD, hj'] using h1
  have hd' : d = .lit (.string s.data.toList) := congrArg Prod.fst hx
  rw [hd'] at he
  injection he with he
  injection he with he
  have : tx (opTab.getD j []) = s := by rw [he]; exact ByteArray.ext (by simp [tx])
  rw [this]
end Go.Proofs.YtajlkdidjelpeaaGreatDoor.LaidOps
