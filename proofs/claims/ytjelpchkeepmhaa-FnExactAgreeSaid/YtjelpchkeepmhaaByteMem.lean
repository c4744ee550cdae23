/-
  Slices of bytes in memory, and what the laws' own helpers on them do: copy, compare, mark, look at the marks.
-/
import Derived.Test.YtjelpchkeepmhaaNumCalls
import Derived.Deep.QuietTactic
import Derived.BigQuiet
import Derived.Deep.OwnRows
import Derived.Below
import Derived.WalkSpells
import Derived.WalkSmall
namespace Go.Proofs.Ytjelpchkeepmhaa.ByteMem
open Go.RowKit PlainNum NumCalls

/-- A slice of n bytes that can be read: byte j is Z j. -/
def Rd (w : World) (a : Option Addr) (n : Nat) (Z : Nat → Int) : Prop :=
  (∀ j, j < n → 0 ≤ Z j ∧ Z j ≤ 255) ∧ (n = 0 ∨ ∃ b off, a = some ⟨b, off, none⟩ ∧ ∀ j, j < n → w.cell? ⟨b, off + j, none⟩ = some (.int .u8 (Z j)))
theorem Rd.later {w w' : World} {a : Option Addr} {n : Nat} {Z : Nat → Int} (h : Rd w a n Z) (hb : Below w.heap.size w w') : Rd w' a n Z := by
  refine ⟨h.1, ?_⟩
  rcases h.2 with h | ⟨b, off, ha, hc⟩
  · exact .inl h
  · exact .inr ⟨b, off, ha, fun j hj => by rw [hb.cell (World.block_lt_of_cell? w _ (hc j hj))]; exact hc j hj⟩
theorem Rd.of_row {w : World} {b n m : Nat} {F : Nat → Value} {Z : Nat → Int} (h : w.rowIs b 5 m F) (hn : n ≤ m) (hF : ∀ j, j < n → F j = .int .u8 (Z j)) (hZ : ∀ j, j < n → 0 ≤ Z j ∧ Z j ≤ 255) : Rd w (some ⟨b, 0, none⟩) n Z :=
  ⟨hZ, .inr ⟨b, 0, rfl, fun j hj => by rw [Nat.zero_add, h.cell (show j < m by omega), hF j hj]⟩⟩
theorem addr_ne {b i j : Nat} (h : i ≠ j) : (⟨b, i, none⟩ : Addr) ≠ ⟨b, j, none⟩ := fun e => h (by injection e)
theorem info5 : (Try.prog.info? 5).map (fun i => (i.zero, i.size, i.bytes)) = some (some (.int .u8 0), 1, 1) := by kernel_rfl
/-- A slice of n bytes that can be written. -/
def Wt (w : World) (a : Option Addr) (n : Nat) : Prop :=
  n = 0 ∨ ∃ b off, a = some ⟨b, off, none⟩ ∧ ∀ j, j < n → (∃ v, w.cell? ⟨b, off + j, none⟩ = some v) ∧ w.frozen? ⟨b, off + j, none⟩ = false
/-- Only a's own block has been written. -/
def Only (w w' : World) (a : Option Addr) : Prop := w.grownBy w' (a.map (·.block)) ∧ w'.heap.size = w.heap.size ∧ ∀ p, w'.frozen? p = w.frozen? p
theorem Only.refl (w : World) (a : Option Addr) : Only w w a := ⟨⟨rfl, rfl, rfl, Nat.le_refl _, fun _ _ _ => rfl⟩, rfl, fun _ => rfl⟩
theorem Only.set {w w' : World} {b off j : Nat} (h : Only w w' (some ⟨b, off, none⟩)) (v : Value) : Only w (w'.setCell ⟨b, j, none⟩ v) (some ⟨b, off, none⟩) := by
  refine ⟨⟨h.1.os, h.1.tape, h.1.output, ?_, fun k hk hne => ?_⟩, ?_, fun p => ?_⟩
  · rw [World.size_setCell]; exact h.1.size
  · rw [Below.heap_setCell w' _ v k (fun e => hne (by simp [e]))]; exact h.1.block k hk hne
  · rw [World.size_setCell]; exact h.2.1
  · rw [World.frozen?_setCell]; exact h.2.2 p
end Go.Proofs.Ytjelpchkeepmhaa.ByteMem
