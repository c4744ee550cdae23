/-
  A slice of instructions that came in, opened: a list of instructions that can be read.
-/
import Derived.Test.YtffngjgjhialnaaGreatDoorInsMem
import Derived.Deep.Slices
import Derived.Deep.Strs
import Derived.ChangeArms
namespace Go.Proofs.YtffngjgjhialnaaGreatDoor.OpenIns
open Go.RowKit PlainShape InsMem Go.Deep

theorem cellsI : Tryz.prog.cellsOf 188 = 3 := by kernel_rfl
theorem cells3 : Tryz.prog.cellsOf 3 = 1 := by kernel_rfl
theorem get_mk {n : Nat} (q : Nat → I3) (j : Nat) (hj : j < n) : ((List.range n).map q).getD j (0, 0, 0) = q j := by simp [List.getD, hj]
set_option maxRecDepth 100000 in
theorem open_ins {H : Type} {enc : TypeId × Value → H} {W : World} {base : Nat} {spare : Nat → Bool} {held : Bool} {fuel : Nat} {a0 : Option Addr} {len cap : Nat} {x : DataW H × List MemPlace}
    (h : DataW.trod enc Tryz.prog W base spare held fuel 122 [.slice a0 len cap] = some x) : ∃ l : List I3, l.length = len ∧ RdI W a0 l ∧ len ≤ 9223372036854775807 := by
  rcases open_slice Tryz.underlying122 h with ⟨h0, _⟩ | ⟨a, len', cap', m, n, D, Pl, hcs, hb, hl, hm, hmm, _, hx⟩
  · simp at h0
    obtain ⟨rfl, rfl, rfl⟩ := h0
    exact ⟨[], rfl, .inl rfl, by omega⟩
  · simp only [List.cons.injEq, Value.slice.injEq, and_true] at hcs
    obtain ⟨rfl, rfl, rfl⟩ := hcs
    unfold maxLen at hm
    have hlm : len ≤ m := by rw [hmm]; split <;> omega
    have each : ∀ i, i < len → ∃ q : I3, W.cell? (a.add (i * 3)) = some (.int .i64 q.1) ∧ W.cell? (a.add (i * 3 + 1)) = some (.int .i64 q.2.1) ∧ W.cell? (a.add (i * 3 + 2)) = some (.int .i64 q.2.2) := by
      intro i hi
      obtain ⟨cs', h1, h2⟩ := hx i (by omega)
      rw [cellsI] at h1
      obtain ⟨_, hlen, hcell⟩ := World.cells?_some h1
      obtain ⟨y0, y1, y2, k, _, _, g0, g1, g2⟩ := trod_struct3 Tryz.underlying188 h2
      match cs', hlen with
      | [v0, v1, v2], _ =>
        simp [cells3] at g0 g1 g2
        obtain ⟨z0, hz0, _, _⟩ := DataW.trod_int Tryz.underlying3 g0
        obtain ⟨z1, hz1, _, _⟩ := DataW.trod_int Tryz.underlying3 g1
        obtain ⟨z2, hz2, _, _⟩ := DataW.trod_int Tryz.underlying3 g2
        simp at hz0 hz1 hz2
        subst hz0 hz1 hz2
        have e0 := hcell 0 (by omega)
        have e1 := hcell 1 (by omega)
        have e2 := hcell 2 (by omega)
        rw [add_add] at e0 e1 e2
        exact ⟨(z0, z1, z2), by simpa using e0, by simpa using e1, by simpa using e2⟩
    obtain ⟨q, hq⟩ := choose_lt each
    refine ⟨(List.range len).map q, by simp, ?_, by omega⟩
    by_cases h0 : len = 0
    · exact .inl (by simp [h0])
    · obtain ⟨b, off, spot⟩ := a
      obtain ⟨c0, _, _⟩ := hq 0 (by omega)
      have hspot : spot = none := by simpa [Addr.add] using World.cell?_spot c0
      subst hspot
      refine .inr ⟨b, off, rfl, fun j hj => ?_⟩
      have hj' : j < len := by simpa using hj
      have ea : ∀ j, (⟨b, off, none⟩ : Addr).add j = ⟨b, off + j, none⟩ := fun j => by cases j <;> simp [Addr.add]
      obtain ⟨c0, c1, c2⟩ := hq j hj'
      rw [ea] at c0 c1 c2
      unfold oAt aAt bAt
      rw [get_mk q j hj']
      exact ⟨c0, c1, c2⟩
end Go.Proofs.YtffngjgjhialnaaGreatDoor.OpenIns
