/-
  strings.Split at one byte, as the cut of a text. No program in sight.
-/
import Derived.Test.YtjbhelcdakhjbaaDoorPlainCut
import Derived.Lib.Split
import Derived.Lib.IndexLaws
import Derived.Lib.IndexAny
import Derived.Lib.CountLaws
namespace Go.Proofs.YtjbhelcdakhjbaaDoor.SplitCut
open PlainOps PlainCut Lib

theorem cut_miss (c : UInt8) : ∀ l, indexByte l c = -1 → cutL c l = [l]
  | [], _ => rfl
  | x :: r, h => by
    have hg := indexByte_ge r c
    unfold indexByte at h
    by_cases hx : x = c
    · rw [if_pos (beq_iff_eq.2 hx)] at h; cases h
    · rw [if_neg (fun e => hx (beq_iff_eq.1 e))] at h
      have hr : indexByte r c = -1 := by
        by_cases q : indexByte r c = -1
        · exact q
        · rw [if_neg (fun e => q (beq_iff_eq.1 e))] at h; omega
      unfold cutL
      rw [if_neg hx, cut_miss c r hr]
theorem cut_hit (c : UInt8) : ∀ (l : List UInt8) (i : Nat), indexByte l c = i → cutL c l = l.take i :: cutL c (l.drop (i + 1))
  | [], i, h => by simp [indexByte] at h
  | x :: r, i, h => by
    have hg := indexByte_ge r c
    unfold indexByte at h
    by_cases hx : x = c
    · rw [if_pos (beq_iff_eq.2 hx)] at h
      obtain rfl : i = 0 := by omega
      rw [cutL, if_pos hx]
      rfl
    · rw [if_neg (fun e => hx (beq_iff_eq.1 e))] at h
      by_cases q : indexByte r c = -1
      · rw [if_pos (beq_iff_eq.2 q)] at h; omega
      · rw [if_neg (fun e => q (beq_iff_eq.1 e))] at h
        obtain ⟨j, rfl⟩ : ∃ j, i = j + 1 := ⟨i - 1, by omega⟩
        have ih := cut_hit c r j (by push_cast at h; omega)
        rw [cutL, if_neg hx, ih]
        rfl
theorem index_tx (l : List UInt8) (c : UInt8) : indexB (tx l) (tx [c]) = indexByte l c := by
  show index (tx l).data.toList (tx [c]).data.toList = _
  have e : ∀ m : List UInt8, (tx m).data.toList = m := fun m => by simp [tx]
  rw [e, e]
  exact index_one l c
theorem tx_take (l : List UInt8) (i : Nat) : (tx l).extract 0 i = tx (l.take i) := by
  apply ByteArray.ext
  simp [tx, ByteArray.data_extract]
theorem tx_drop (l : List UInt8) (i : Nat) : (tx l).extract i (tx l).size = tx (l.drop i) := by
  apply ByteArray.ext
  simp [tx, ByteArray.data_extract, ByteArray.size]
  exact List.take_of_length_le (by simp)
/-- What strings.Split answers at one byte, where it may cut often enough. -/
theorem split_cut (c : UInt8) : ∀ (k : Nat) (l : List UInt8), (cutL c l).length ≤ k + 1 → splitB (tx [c]) 0 k (tx l) = (cutL c l).map tx
  | k, l, h => by
    by_cases q : indexByte l c = -1
    · rw [splitB_miss _ _ _ _ (by rw [index_tx]; exact q), cut_miss c l q]; rfl
    · have hg := indexByte_ge l c
      obtain ⟨i, hi⟩ : ∃ i : Nat, indexByte l c = i := ⟨(indexByte l c).toNat, by omega⟩
      have hc := cut_hit c l i hi
      rw [hc] at h
      have hp : 0 < (cutL c (l.drop (i + 1))).length := List.length_pos_iff.2 (cutL_ne c _)
      cases k with
      | zero => rw [List.length_cons] at h; omega
      | succ k =>
        have e1 : (tx [c]).size = 1 := rfl
        rw [splitB_hit _ _ _ _ i (by rw [index_tx]; exact hi), e1, tx_drop, Nat.add_zero, tx_take, split_cut c k (l.drop (i + 1)) (by rw [List.length_cons] at h; omega), hc]
        rfl
/-- How many parts. -/
theorem count_cut (c : UInt8) : ∀ (n : Nat) (l : List UInt8), l.length ≤ n → (countB (tx l) (tx [c]) : Int) + 1 = (cutL c l).length
  | n, l, h => by
    by_cases q : indexByte l c = -1
    · rw [countB_miss _ _ (by rw [index_tx]; exact q), cut_miss c l q]; rfl
    · have hg := indexByte_ge l c
      obtain ⟨i, hi⟩ : ∃ i : Nat, indexByte l c = i := ⟨(indexByte l c).toNat, by omega⟩
      have hl : i < l.length := by
        have := (indexByte_some hi).1
        exact (List.getElem?_eq_some_iff.1 this).1
      have e1 : (tx [c]).size = 1 := rfl
      cases n with
      | zero => omega
      | succ n =>
        have ih := count_cut c n (l.drop (i + 1)) (by simp; omega)
        rw [cut_hit c l i hi, countB_hit _ _ i (by rw [e1]; omega) (by rw [index_tx]; exact hi), e1, tx_drop, List.length_cons]
        push_cast
        omega
/-- What strings.Split answers at one byte. -/
theorem split_all (c : UInt8) (l : List UInt8) : splitB (tx [c]) 0 (countB (tx l) (tx [c])) (tx l) = (cutL c l).map tx :=
  split_cut c _ l (by have := count_cut c _ l (Nat.le_refl _); omega)
end Go.Proofs.YtjbhelcdakhjbaaDoor.SplitCut
