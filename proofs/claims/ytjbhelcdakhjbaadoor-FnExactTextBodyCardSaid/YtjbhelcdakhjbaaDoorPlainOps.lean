/-
  The names of operations, in plain words: one table of 121 texts, and what the two ways of looking up say of it.
-/
import Derived.KernelRfl
namespace Go.Proofs.YtjbhelcdakhjbaaDoor.PlainOps

/-- The names by their numbers; the empty text where no operation is. -/
def opTab : List (List UInt8) := [[117, 110, 114, 101, 97, 99, 104, 97, 98, 108, 101], [110, 111, 112], [98, 108, 111, 99, 107], [108, 111, 111, 112], [105, 102], [101, 108, 115, 101], [], [], [], [], [], [101, 110, 100], [98, 114], [98, 114, 95, 105, 102], [], [114, 101, 116, 117, 114, 110], [99, 97, 108, 108], [], [], [], [], [], [], [], [], [], [100, 114, 111, 112], [115, 101, 108, 101, 99, 116], [], [], [], [], [108, 111, 99, 97, 108, 46, 103, 101, 116], [108, 111, 99, 97, 108, 46, 115, 101, 116], [108, 111, 99, 97, 108, 46, 116, 101, 101], [103, 108, 111, 98, 97, 108, 46, 103, 101, 116], [103, 108, 111, 98, 97, 108, 46, 115, 101, 116], [], [], [], [105, 51, 50, 46, 108, 111, 97, 100], [], [], [], [], [], [], [], [], [], [], [], [], [], [105, 51, 50, 46, 115, 116, 111, 114, 101], [], [], [], [], [], [], [], [], [109, 101, 109, 111, 114, 121, 46, 115, 105, 122, 101], [109, 101, 109, 111, 114, 121, 46, 103, 114, 111, 119], [105, 51, 50, 46, 99, 111, 110, 115, 116], [], [], [], [105, 51, 50, 46, 101, 113, 122], [105, 51, 50, 46, 101, 113], [105, 51, 50, 46, 110, 101], [105, 51, 50, 46, 108, 116, 95, 115], [105, 51, 50, 46, 108, 116, 95, 117], [105, 51, 50, 46, 103, 116, 95, 115], [105, 51, 50, 46, 103, 116, 95, 117], [105, 51, 50, 46, 108, 101, 95, 115], [105, 51, 50, 46, 108, 101, 95, 117], [105, 51, 50, 46, 103, 101, 95, 115], [105, 51, 50, 46, 103, 101, 95, 117], [], [], [], [], [], [], [], [], [], [], [], [], [], [], [], [], [], [], [], [], [], [], [], [105, 51, 50, 46, 99, 108, 122], [105, 51, 50, 46, 99, 116, 122], [105, 51, 50, 46, 112, 111, 112, 99, 110, 116], [105, 51, 50, 46, 97, 100, 100], [105, 51, 50, 46, 115, 117, 98], [105, 51, 50, 46, 109, 117, 108], [105, 51, 50, 46, 100, 105, 118, 95, 115], [105, 51, 50, 46, 100, 105, 118, 95, 117], [105, 51, 50, 46, 114, 101, 109, 95, 115], [105, 51, 50, 46, 114, 101, 109, 95, 117], [105, 51, 50, 46, 97, 110, 100], [105, 51, 50, 46, 111, 114], [105, 51, 50, 46, 120, 111, 114], [105, 51, 50, 46, 115, 104, 108], [105, 51, 50, 46, 115, 104, 114, 95, 115], [105, 51, 50, 46, 115, 104, 114, 95, 117], [105, 51, 50, 46, 114, 111, 116, 108], [105, 51, 50, 46, 114, 111, 116, 114]]
def ops24 : List Int := [0, 1, 2, 3, 4, 5, 11, 12, 13, 15, 16, 26, 27, 32, 33, 34, 35, 36, 40, 54, 63, 64, 65, 69]
def nms24 : List (List UInt8) := [[117, 110, 114, 101, 97, 99, 104, 97, 98, 108, 101], [110, 111, 112], [98, 108, 111, 99, 107], [108, 111, 111, 112], [105, 102], [101, 108, 115, 101], [101, 110, 100], [98, 114], [98, 114, 95, 105, 102], [114, 101, 116, 117, 114, 110], [99, 97, 108, 108], [100, 114, 111, 112], [115, 101, 108, 101, 99, 116], [108, 111, 99, 97, 108, 46, 103, 101, 116], [108, 111, 99, 97, 108, 46, 115, 101, 116], [108, 111, 99, 97, 108, 46, 116, 101, 101], [103, 108, 111, 98, 97, 108, 46, 103, 101, 116], [103, 108, 111, 98, 97, 108, 46, 115, 101, 116], [105, 51, 50, 46, 108, 111, 97, 100], [105, 51, 50, 46, 115, 116, 111, 114, 101], [109, 101, 109, 111, 114, 121, 46, 115, 105, 122, 101], [109, 101, 109, 111, 114, 121, 46, 103, 114, 111, 119], [105, 51, 50, 46, 99, 111, 110, 115, 116], [105, 51, 50, 46, 101, 113, 122]]
def cmps10 : List (List UInt8) := [[101, 113], [110, 101], [108, 116, 95, 115], [108, 116, 95, 117], [103, 116, 95, 115], [103, 116, 95, 117], [108, 101, 95, 115], [108, 101, 95, 117], [103, 101, 95, 115], [103, 101, 95, 117]]
def nums18 : List (List UInt8) := [[99, 108, 122], [99, 116, 122], [112, 111, 112, 99, 110, 116], [97, 100, 100], [115, 117, 98], [109, 117, 108], [100, 105, 118, 95, 115], [100, 105, 118, 95, 117], [114, 101, 109, 95, 115], [114, 101, 109, 95, 117], [97, 110, 100], [111, 114], [120, 111, 114], [115, 104, 108], [115, 104, 114, 95, 115], [115, 104, 114, 95, 117], [114, 111, 116, 108], [114, 111, 116, 114]]
/-- The bytes of a list, as a text. -/
def tx (l : List UInt8) : ByteArray := ⟨l.toArray⟩
/-- The name of the operation op. -/
def opNm (op : Int) : ByteArray := if 0 ≤ op ∧ op < 121 then tx (opTab.getD op.toNat []) else ⟨#[]⟩
theorem tab_len : opTab.length = 121 := rfl
theorem opNm_out {op : Int} (h : ¬ (0 ≤ op ∧ op < 121)) : opNm op = ⟨#[]⟩ := if_neg h
theorem opNm_in (k : Nat) (h : k < 121) : opNm (k : Int) = tx (opTab.getD k []) := by
  unfold opNm
  rw [if_pos (by omega), Int.toNat_natCast]
theorem tx_append (a b : List UInt8) : tx a ++ tx b = tx (a ++ b) := by
  apply ByteArray.ext
  simp [tx, ByteArray.data_append]
theorem tx_small {l : List UInt8} (h : l.length ≤ 20) : (tx l).size ≤ 20 := by simpa [tx, ByteArray.size] using h
theorem getD_small {n : Nat} {t : List (List UInt8)} (h : ∀ l ∈ t, l.length ≤ n) (k : Nat) : (t.getD k []).length ≤ n := by
  by_cases hk : k < t.length
  · rw [List.getD, List.getElem?_eq_getElem hk]; exact h _ (List.getElem_mem hk)
  · rw [List.getD, List.getElem?_eq_none (by omega)]; exact Nat.zero_le _
theorem cmps_small (k : Nat) : (cmps10.getD k []).length ≤ 20 := getD_small (by decide) k
theorem nums_small (k : Nat) : (nums18.getD k []).length ≤ 20 := getD_small (by decide) k
theorem opNm_small (op : Int) : (opNm op).size ≤ 20 := by
  unfold opNm
  split
  · exact tx_small (getD_small (by decide +kernel) _)
  · exact Nat.zero_le _
theorem find24 : ∀ k, k < 24 → opTab.getD (ops24.getD k 0).toNat [] = nms24.getD k [] ∧ 0 ≤ ops24.getD k 0 ∧ ops24.getD k 0 < 121 := by decide
theorem cmp10 : ∀ k, k < 10 → opTab.getD (70 + k) [] = [105, 51, 50, 46] ++ cmps10.getD k [] := by decide
theorem num18 : ∀ k, k < 18 → opTab.getD (103 + k) [] = [105, 51, 50, 46] ++ nums18.getD k [] := by decide
theorem none121 : ∀ k : Nat, k < 121 → (∀ j, j < 24 → ops24.getD j 0 ≠ (k : Int)) → ¬ (70 ≤ k ∧ k ≤ 79) → ¬ (103 ≤ k ∧ k ≤ 120) → opTab.getD k [] = [] := by decide +kernel
theorem nm_find {op : Int} (k : Nat) (hk : k < 24) (h : ops24.getD k 0 = op) : opNm op = tx (nms24.getD k []) := by
  obtain ⟨h1, h2, h3⟩ := find24 k hk
  rw [h] at h1 h2 h3
  unfold opNm
  rw [if_pos ⟨h2, h3⟩, h1]
theorem nm_cmp {op : Int} (h0 : 70 ≤ op) (h1 : op ≤ 79) : opNm op = tx [105, 51, 50, 46] ++ tx (cmps10.getD (op - 70).toNat []) := by
  have := cmp10 (op - 70).toNat (by omega)
  rw [show 70 + (op - 70).toNat = op.toNat by omega] at this
  unfold opNm
  rw [if_pos (by omega), this, tx_append]
theorem nm_num {op : Int} (h0 : 103 ≤ op) (h1 : op ≤ 120) : opNm op = tx [105, 51, 50, 46] ++ tx (nums18.getD (op - 103).toNat []) := by
  have := num18 (op - 103).toNat (by omega)
  rw [show 103 + (op - 103).toNat = op.toNat by omega] at this
  unfold opNm
  rw [if_pos (by omega), this, tx_append]
theorem nm_none {op : Int} (h : ∀ j, j < 24 → ops24.getD j 0 ≠ op) (h1 : ¬ (70 ≤ op ∧ op ≤ 79)) (h2 : ¬ (103 ≤ op ∧ op ≤ 120)) : opNm op = ⟨#[]⟩ := by
  by_cases h0 : 0 ≤ op ∧ op < 121
  · unfold opNm
    rw [if_pos h0, none121 op.toNat (by omega) (fun j hj => by rw [show (op.toNat : Int) = op by omega]; exact h j hj) (by omega) (by omega)]
    rfl
  · exact opNm_out h0
/-- The operation with that name, from k on. -/
def nmFrom (s : ByteArray) : Nat → Nat → Int
  | 0, _ => -1
  | f + 1, k => if opNm (k : Int) = s then (k : Int) else nmFrom s f (k + 1)
def nmOp (s : ByteArray) : Int := if s = ⟨#[]⟩ then -1 else nmFrom s 121 0
theorem nmFrom_yes {s : ByteArray} {k f : Nat} (h : opNm (k : Int) = s) : nmFrom s (f + 1) k = (k : Int) := if_pos h
theorem nmFrom_no {s : ByteArray} {k f : Nat} (h : ¬ opNm (k : Int) = s) : nmFrom s (f + 1) k = nmFrom s f (k + 1) := if_neg h
theorem nmFrom_is {s : ByteArray} : ∀ (f k : Nat), nmFrom s f k = -1 ∧ (∀ j, k ≤ j → j < k + f → ¬ opNm (j : Int) = s) ∨ ∃ j, k ≤ j ∧ j < k + f ∧ nmFrom s f k = (j : Int) ∧ opNm (j : Int) = s
  | 0, k => .inl ⟨rfl, fun j h1 h2 => by omega⟩
  | f + 1, k => by
    by_cases h : opNm (k : Int) = s
    · exact .inr ⟨k, by omega, by omega, nmFrom_yes h, h⟩
    · rw [nmFrom_no h]
      rcases nmFrom_is (s := s) f (k + 1) with ⟨h1, h2⟩ | ⟨j, h1, h2, h3, h4⟩
      · refine .inl ⟨h1, fun j q1 q2 => ?_⟩
        by_cases e : j = k
        · rw [e]; exact h
        · exact h2 j (by omega) (by omega)
      · exact .inr ⟨j, by omega, by omega, h3, h4⟩
end Go.Proofs.YtjbhelcdakhjbaaDoor.PlainOps
