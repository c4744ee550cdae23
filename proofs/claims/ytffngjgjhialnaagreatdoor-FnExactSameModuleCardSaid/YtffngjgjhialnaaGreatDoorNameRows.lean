/-
  A slice of bytes that came in, as a list of bytes.
-/
import Derived.Test.YtffngjgjhialnaaGreatDoorPutULaw
import Derived.Test.YtffngjgjhialnaaGreatDoorPlainLeb
namespace Go.Proofs.YtffngjgjhialnaaGreatDoor.NameRows
open Go.RowKit PlainNum PlainLeb NumCalls ByteMem PutU PutULaw
/-- A slice of bytes that came in. -/
theorem rdb_of_row {w : World} {a : Option Addr} {len cap : Nat} {zs : List Int}
    (h : (a = none ∧ len = 0 ∧ cap = 0 ∧ zs = []) ∨
      ∃ x, a = some x ∧ len ≤ cap ∧ cap ≤ maxLen ∧ zs.length = cap ∧ (∀ i, i < zs.length → w.cell? (x.add i) = some (.int .u8 (zs.getD i 0))) ∧ ∀ n ∈ zs, (Lit.int .u8 n).wf = true) :
    ∃ bs : List UInt8, bs.length = len ∧ RdB w a bs ∧ len ≤ 9223372036854775807 := by
  rcases h with ⟨rfl, rfl, rfl, rfl⟩ | ⟨x, rfl, hl, hm, hz, hcell, hwz⟩
  · exact ⟨[], rfl, ⟨fun j hj => by simp at hj, .inl rfl⟩, by omega⟩
  · unfold maxLen at hm
    have hlen : ((zs.take len).map (fun z : Int => z.toNat.toUInt8)).length = len := by simp; omega
    refine ⟨(zs.take len).map (fun z : Int => z.toNat.toUInt8), hlen, ⟨fun j _ => byte_bounds _ j, ?_⟩, by omega⟩
    by_cases h0 : len = 0
    · exact .inl (by rw [hlen]; exact h0)
    · obtain ⟨b, off, spot⟩ := x
      have hc := hcell 0 (by omega)
      have hspot : spot = none := by simpa [Addr.add] using World.cell?_spot hc
      subst hspot
      refine .inr ⟨b, off, rfl, fun j hj => ?_⟩
      rw [hlen] at hj
      have hj' : j < zs.length := by omega
      have hb := bounds_u8 (hwz (zs.getD j 0) (by simp [List.getD, hj']))
      have ej : (⟨b, off, none⟩ : Addr).add j = ⟨b, off + j, none⟩ := by cases j <;> simp [Addr.add]
      have e1 : ((zs.take len).map (fun z : Int => z.toNat.toUInt8))[j]?.getD 0 = (zs.getD j 0).toNat.toUInt8 := by simp [hj, hj', List.getD]
      have e2 : (((zs.getD j 0).toNat.toUInt8.toNat : Nat) : Int) = zs.getD j 0 := by rw [toU8 (by omega)]; omega
      have := hcell j hj'
      rw [ej] at this
      show w.cell? ⟨b, off + j, none⟩ = some (.int .u8 ((((zs.take len).map (fun z : Int => z.toNat.toUInt8))[j]?.getD 0).toNat : Int))
      rw [e1, e2]
      exact this
end Go.Proofs.YtffngjgjhialnaaGreatDoor.NameRows
