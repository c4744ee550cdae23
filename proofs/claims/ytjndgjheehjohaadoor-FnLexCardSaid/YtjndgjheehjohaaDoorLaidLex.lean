/-
  From a row's list of laid variables to what the walks ask of memory: the words and the signs lie there.
-/
import Derived.Test.YtjndgjheehjohaaDoorRows
import Derived.Test.YtjndgjheehjohaaDoorWordCalls
import Derived.Test.YtjndgjheehjohaaDoorSignCalls
import Derived.Lib.LaidU8
namespace Go.Proofs.YtjndgjheehjohaaDoor.LaidLex
open Go.RowKit PlainOps PlainLex WordCalls SignCalls

theorem cells9 : Tryd.prog.cellsOf 9 = 1 := by kernel_rfl
theorem words_gName : Tryd.prog.globalNamed "loop.example/g00472/impl.signWords" = some 0 := by kernel_rfl
theorem words_gType : (Tryd.prog.globals[0]?).map (·.type) = some 83 := by kernel_rfl
theorem words_datum : (Rows.laid_loop_example_g00472_impl_signWords : DataW Unit) = .agg (words.map fun l => .lit (.string l)) := rfl
theorem words_of_reads {W : World} (h : Lib.VarReads Tryd.prog W "loop.example/g00472/impl.signWords" Rows.laid_loop_example_g00472_impl_signWords) : WTab W := by
  obtain ⟨g, t, cs, fuel, p, hg, ht, hv, hd⟩ := h
  obtain rfl := Option.some.inj (words_gName.symm.trans hg)
  obtain rfl := Option.some.inj (words_gType.symm.trans ht)
  rw [words_datum] at hd
  intro j hj
  obtain ⟨f', d, q, h1, h2⟩ := Lib.array_elem Tryd.underlying83 hd j hj
  obtain ⟨s, hs, hx, _⟩ := DataW.trod_string Tryd.underlying9 h2
  rw [cells9, Nat.mul_one] at hs
  have hcs : cs[j]? = some (.string s) := by
    have := congrArg (·[0]?) hs
    simpa [List.getElem?_take, List.getElem?_drop] using this
  have h3 := World.var?_cell words_gName hv j
  rw [h3, hcs]
  have hj' : j < words.length := hj
  have he : (.lit (.string (words.getD j [])) : DataW Unit) = d := by
    simpa [List.getD, hj'] using h1
  have hd' : d = .lit (.string s.data.toList) := congrArg Prod.fst hx
  rw [hd'] at he
  injection he with he
  injection he with he
  have : tx (words.getD j []) = s := by rw [he]; exact ByteArray.ext (by simp [tx])
  rw [this]
theorem signs_gName : Tryd.prog.globalNamed "loop.example/g00472/impl.signs" = some 1 := by kernel_rfl
theorem signs_gType : (Tryd.prog.globals[1]?).map (·.type) = some 85 := by kernel_rfl
theorem signs_datum : (Rows.laid_loop_example_g00472_impl_signs : DataW Unit) = .agg (signs.map fun l => .lit (.string l)) := rfl
theorem signs_of_reads {W : World} (h : Lib.VarReads Tryd.prog W "loop.example/g00472/impl.signs" Rows.laid_loop_example_g00472_impl_signs) : STab W := by
  obtain ⟨g, t, cs, fuel, p, hg, ht, hv, hd⟩ := h
  obtain rfl := Option.some.inj (signs_gName.symm.trans hg)
  obtain rfl := Option.some.inj (signs_gType.symm.trans ht)
  rw [signs_datum] at hd
  intro j hj
  obtain ⟨f', d, q, h1, h2⟩ := Lib.array_elem Tryd.underlying85 hd j hj
  obtain ⟨s, hs, hx, _⟩ := DataW.trod_string Tryd.underlying9 h2
  rw [cells9, Nat.mul_one] at hs
  have hcs : cs[j]? = some (.string s) := by
    have := congrArg (·[0]?) hs
    simpa [List.getElem?_take, List.getElem?_drop] using this
  have h3 := World.var?_cell signs_gName hv j
  rw [h3, hcs]
  have hj' : j < signs.length := hj
  have he : (.lit (.string (signs.getD j [])) : DataW Unit) = d := by
    simpa [List.getD, hj'] using h1
  have hd' : d = .lit (.string s.data.toList) := congrArg Prod.fst hx
  rw [hd'] at he
  injection he with he
  injection he with he
  have : tx (signs.getD j []) = s := by rw [he]; exact ByteArray.ext (by simp [tx])
  rw [this]
end Go.Proofs.YtjndgjheehjohaaDoor.LaidLex
