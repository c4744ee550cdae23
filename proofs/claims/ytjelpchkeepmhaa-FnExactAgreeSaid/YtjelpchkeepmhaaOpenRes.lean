/-
  A result that came in, opened: its lists can be read.
-/
import Derived.Test.YtjelpchkeepmhaaResMem
import Derived.Deep.Slices
import Derived.ChangeArms
import Derived.OpenShut
import Derived.Lib.SmallJoins
namespace Go.Proofs.Ytjelpchkeepmhaa.OpenRes
open Go.RowKit NumMem2 Go.Deep Go.ChangeShapes Go.WideShapes

theorem ea (b off j : Nat) : (⟨b, off, none⟩ : Addr).add j = ⟨b, off + j, none⟩ := by cases j <;> simp [Addr.add]
theorem cells3 : Try.prog.cellsOf 3 = 1 := by kernel_rfl
theorem cellsN : Try.prog.cellsOf 22 = 1 := by kernel_rfl
theorem open_numsV {H : Type} {enc : TypeId × Value → H} {W : World} {base : Nat} {spare : Nat → Bool} {held : Bool} {fuel : Nat} {v : Value} {x : DataW H × List MemPlace} (h : DataW.trod enc Try.prog W base spare held fuel 22 [v] = some x) :
    ∃ (a : Option Addr) (c n : Nat) (Z : Nat → Int), v = .slice a n c ∧ RdN W a n Z ∧ n ≤ 9223372036854775807 := by
  rcases open_ints Try.underlying22 Try.underlying3 (by kernel_rfl) h with ⟨hcs, _⟩ | ⟨x, l, c, zs, hcs, _, hl, hm, hz, _, hcell, hwz⟩
  · simp only [List.cons.injEq, and_true] at hcs
    subst hcs
    exact ⟨none, 0, 0, fun _ => 0, rfl, .inl rfl, by omega⟩
  · simp only [List.cons.injEq, and_true] at hcs
    subst hcs
    unfold maxLen at hm
    have hzl : l ≤ zs.length := by rw [hz]; split <;> omega
    refine ⟨_, _, _, fun j => zs.getD j 0, rfl, ?_, by omega⟩
    by_cases h0 : l = 0
    · exact .inl h0
    · obtain ⟨b, off, spot⟩ := x
      have hc := hcell 0 (by omega)
      have hspot : spot = none := by simpa [Addr.add] using World.cell?_spot hc
      subst hspot
      exact .inr ⟨b, off, rfl, fun j hj => by rw [← ea]; exact hcell j (by omega)⟩
theorem cellsR : Try.prog.cellsOf 24 = 6 := by kernel_rfl
theorem array6 {cs : Array Value} (h : cs.size = 6) : ∃ v0 v1 v2 v3 v4 v5, cs = #[v0, v1, v2, v3, v4, v5] := by
  obtain ⟨l⟩ := cs
  match l, h with
  | [v0, v1, v2, v3, v4, v5], _ => exact ⟨v0, v1, v2, v3, v4, v5, rfl⟩
theorem list6 {α : Type} {xs : List α} (h : xs.length = 6) : ∃ v0 v1 v2 v3 v4 v5, xs = [v0, v1, v2, v3, v4, v5] := by
  match xs, h with
  | [v0, v1, v2, v3, v4, v5], _ => exact ⟨v0, v1, v2, v3, v4, v5, rfl⟩
set_option maxRecDepth 100000 in
/-- A result that came in: its lists can be read, and are of sizes that Go allows. -/
theorem open_res {H : Type} {enc : TypeId × Value → H} {W : World} {base b0 : Nat} {spare : Nat → Bool} {held : Bool} {r : Reach} {v : Value} {d : DataW H} {pl : List MemPlace}
    (hv : Value.okWide Try.prog W r b0 24 v) (h : DataW.Trod enc Try.prog W base spare held 24 v d pl) :
    ∃ (x0 x1 x2 x4 : Int) (p q : Option Addr) (n c i d : Nat) (Z Z2 : Nat → Int), v = .agg #[.int .i64 x0, .int .i64 x1, .int .i64 x2, .slice p n c, .int .i64 x4, .slice q i d] ∧ RdN W p n Z ∧ RdN W q i Z2 ∧ n ≤ 9223372036854775807 ∧ i ≤ 9223372036854775807 := by
  obtain ⟨cs, rfl, hsz⟩ := okWide_struct Try.underlying24 hv
  obtain ⟨v0, v1, v2, v3, v4, v5, rfl⟩ := array6 (hsz.trans cellsR)
  obtain ⟨fuel, hf⟩ := h
  obtain ⟨xs, n, _, _, _, hlen, hfl⟩ := DataW.trod_struct Try.underlying24 hf
  obtain ⟨x0, x1, x2, x3, x4, x5, rfl⟩ := list6 hlen
  have g0 := hfl 0 _ rfl
  have g1 := hfl 1 _ rfl
  have g2 := hfl 2 _ rfl
  have g3 := hfl 3 _ rfl
  have g4 := hfl 4 _ rfl
  have g5 := hfl 5 _ rfl
  simp [Value.cells, cellsN, cells3] at g0 g1 g2 g3 g4 g5
  obtain ⟨z0, hz0, _, _⟩ := DataW.trod_int Try.underlying3 g0
  simp at hz0
  subst hz0
  obtain ⟨z1, hz1, _, _⟩ := DataW.trod_int Try.underlying3 g1
  simp at hz1
  subst hz1
  obtain ⟨z2, hz2, _, _⟩ := DataW.trod_int Try.underlying3 g2
  simp at hz2
  subst hz2
  obtain ⟨p, c, n, Z, rfl, r3, n3⟩ := open_numsV g3
  obtain ⟨z4, hz4, _, _⟩ := DataW.trod_int Try.underlying3 g4
  simp at hz4
  subst hz4
  obtain ⟨q, d, i, Z2, rfl, r5, n5⟩ := open_numsV g5
  exact ⟨z0, z1, z2, z4, p, q, n, c, i, d, Z, Z2, rfl, r3, r5, n3, n5⟩
end Go.Proofs.Ytjelpchkeepmhaa.OpenRes
