/-
  A token that came in, opened.
-/
import Derived.Test.YtjndgjheehjohaaDoorMemTok
import Derived.Deep.Slices
import Derived.ChangeArms
import Derived.OpenShut
import Derived.Lib.SmallJoins
namespace Go.Proofs.YtjndgjheehjohaaDoor.OpenTok
open Go.RowKit Go.Deep Go.ChangeShapes Go.WideShapes

theorem cells3 : Tryd.prog.cellsOf 3 = 1 := by kernel_rfl
theorem cells9 : Tryd.prog.cellsOf 9 = 1 := by kernel_rfl
theorem cellsT : Tryd.prog.cellsOf 24 = 4 := by kernel_rfl
theorem array4 {cs : Array Value} (h : cs.size = 4) : ∃ v0 v1 v2 v3, cs = #[v0, v1, v2, v3] := by
  obtain ⟨l⟩ := cs
  match l, h with
  | [v0, v1, v2, v3], _ => exact ⟨v0, v1, v2, v3, rfl⟩
theorem list4 {α : Type} {xs : List α} (h : xs.length = 4) : ∃ v0 v1 v2 v3, xs = [v0, v1, v2, v3] := by
  match xs, h with
  | [v0, v1, v2, v3], _ => exact ⟨v0, v1, v2, v3, rfl⟩
set_option maxRecDepth 100000 in
theorem open_tok {H : Type} {enc : TypeId × Value → H} {W : World} {base b0 : Nat} {spare : Nat → Bool} {held : Bool} {r : Reach} {v : Value} {d : DataW H} {pl : List MemPlace}
    (hv : Value.okWide Tryd.prog W r b0 24 v) (h : DataW.Trod enc Tryd.prog W base spare held 24 v d pl) :
    ∃ (k n : Int) (s : ByteArray) (a : Int), v = .agg #[.int .i64 k, .int .i64 n, .string s, .int .i64 a] ∧ s.size ≤ maxLen := by
  obtain ⟨cs, rfl, hsz⟩ := okWide_struct Tryd.underlying24 hv
  obtain ⟨v0, v1, v2, v3, rfl⟩ := array4 (hsz.trans cellsT)
  obtain ⟨fuel, hf⟩ := h
  obtain ⟨xs, n, _, _, _, hlen, hfl⟩ := DataW.trod_struct Tryd.underlying24 hf
  obtain ⟨x0, x1, x2, x3, rfl⟩ := list4 hlen
  have g0 := hfl 0 _ rfl
  have g1 := hfl 1 _ rfl
  have g2 := hfl 2 _ rfl
  have g3 := hfl 3 _ rfl
  simp [Value.cells, cells9, cells3] at g0 g1 g2 g3
  obtain ⟨z0, hz0, _, _⟩ := DataW.trod_int Tryd.underlying3 g0
  simp at hz0
  subst hz0
  obtain ⟨z1, hz1, _, _⟩ := DataW.trod_int Tryd.underlying3 g1
  simp at hz1
  subst hz1
  obtain ⟨s2, hz2, _, h2⟩ := DataW.trod_string Tryd.underlying9 g2
  simp at hz2
  subst hz2
  obtain ⟨z3, hz3, _, _⟩ := DataW.trod_int Tryd.underlying3 g3
  simp at hz3
  subst hz3
  exact ⟨z0, z1, s2, z3, rfl, h2⟩
end Go.Proofs.YtjndgjheehjohaaDoor.OpenTok
