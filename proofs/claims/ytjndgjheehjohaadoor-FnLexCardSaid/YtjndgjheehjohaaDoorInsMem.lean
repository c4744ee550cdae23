/-
  Slices of instructions in memory, and what the laws' own helpers on them do.
-/
import Derived.Test.YtjndgjheehjohaaDoorChecked
import Derived.Test.YtjndgjheehjohaaDoorPlainShape
import Derived.WalkKit
import Derived.Deep.QuietTactic
import Derived.BigQuiet
import Derived.Deep.OwnRows
import Derived.Below
import Derived.Deep.RegionHeld
import Derived.WalkSpells
import Derived.WalkSmall
namespace Go.Proofs.YtjndgjheehjohaaDoor.InsMem
open Go.RowKit PlainShape

/-- A slice of instructions that can be read. -/
def RdI (w : World) (a : Option Addr) (l : List I3) : Prop :=
  l.length = 0 ∨ ∃ b off, a = some ⟨b, off, none⟩ ∧ ∀ j, j < l.length → w.cell? ⟨b, off + j * 3, none⟩ = some (.int .i64 (oAt l j)) ∧ w.cell? ⟨b, off + j * 3 + 1, none⟩ = some (.int .i64 (aAt l j)) ∧ w.cell? ⟨b, off + j * 3 + 2, none⟩ = some (.int .i64 (bAt l j))
theorem RdI.later {w w' : World} {a : Option Addr} {l : List I3} (h : RdI w a l) (hb : Below w.heap.size w w') : RdI w' a l := by
  rcases h with h | ⟨b, off, ha, hc⟩
  · exact .inl h
  · refine .inr ⟨b, off, ha, fun j hj => ?_⟩
    obtain ⟨c0, c1, c2⟩ := hc j hj
    have hs : b < w.heap.size := World.block_lt_of_cell? w _ c0
    exact ⟨by rw [hb.cell hs]; exact c0, by rw [hb.cell hs]; exact c1, by rw [hb.cell hs]; exact c2⟩
theorem addr_ne {b i j : Nat} (h : i ≠ j) : (⟨b, i, none⟩ : Addr) ≠ ⟨b, j, none⟩ := fun e => h (by injection e)
/-- Three cells of a row that can be written, one behind the other. -/
theorem three {w : World} {b m i : Nat} {t : TypeId} {f : Nat → Value} (h : w.rowIs b t m f) (hi : i + 3 ≤ m) (v0 v1 : Value) :
    (∃ x, w.cell? ⟨b, i, none⟩ = some x) ∧ (∃ x, (w.setCell ⟨b, i, none⟩ v0).cell? ⟨b, i + 1, none⟩ = some x) ∧ (∃ x, ((w.setCell ⟨b, i, none⟩ v0).setCell ⟨b, i + 1, none⟩ v1).cell? ⟨b, i + 2, none⟩ = some x) ∧
    w.frozen? ⟨b, i, none⟩ = false ∧ (w.setCell ⟨b, i, none⟩ v0).frozen? ⟨b, i + 1, none⟩ = false ∧ ((w.setCell ⟨b, i, none⟩ v0).setCell ⟨b, i + 1, none⟩ v1).frozen? ⟨b, i + 2, none⟩ = false :=
  ⟨⟨_, h.cell (by omega)⟩, ⟨_, (h.set i v0).cell (by omega)⟩, ⟨_, ((h.set i v0).set (i + 1) v1).cell (by omega)⟩, h.frozen _, (h.set i v0).frozen _, ((h.set i v0).set (i + 1) v1).frozen _⟩
theorem row_later {w w' : World} {b m : Nat} {t : TypeId} {f : Nat → Value} (h : w.rowIs b t m f) (hb : Below w.heap.size w w') : w'.rowIs b t m f := h.of_block (hb.block b h.lt)
theorem keep6 {w w' : World} {g i g' i' : Nat} {x y z x' y' z' : Value} (h : Below w.heap.size w w') (c0 : w.cell? ⟨g, i, none⟩ = some x) (c1 : w.cell? ⟨g, i + 1, none⟩ = some y) (c2 : w.cell? ⟨g, i + 2, none⟩ = some z)
    (d0 : w.cell? ⟨g', i', none⟩ = some x') (d1 : w.cell? ⟨g', i' + 1, none⟩ = some y') (d2 : w.cell? ⟨g', i' + 2, none⟩ = some z') :
    w'.cell? ⟨g, i, none⟩ = some x ∧ w'.cell? ⟨g, i + 1, none⟩ = some y ∧ w'.cell? ⟨g, i + 2, none⟩ = some z ∧ w'.cell? ⟨g', i', none⟩ = some x' ∧ w'.cell? ⟨g', i' + 1, none⟩ = some y' ∧ w'.cell? ⟨g', i' + 2, none⟩ = some z' := by
  have hs : g < w.heap.size := World.block_lt_of_cell? w _ c0
  have hs' : g' < w.heap.size := World.block_lt_of_cell? w _ d0
  exact ⟨by rw [h.cell hs]; exact c0, by rw [h.cell hs]; exact c1, by rw [h.cell hs]; exact c2, by rw [h.cell hs']; exact d0, by rw [h.cell hs']; exact d1, by rw [h.cell hs']; exact d2⟩
end Go.Proofs.YtjndgjheehjohaaDoor.InsMem
