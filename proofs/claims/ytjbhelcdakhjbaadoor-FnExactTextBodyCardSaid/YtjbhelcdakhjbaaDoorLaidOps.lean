/-
  From a row's list of laid variables to what the walks ask of memory: the table of names lies there.
-/
import Derived.Test.YtjbhelcdakhjbaaDoorRows
import Derived.Test.YtjbhelcdakhjbaaDoorNameCalls
import Derived.Lib.LaidU8
namespace Go.Proofs.YtjbhelcdakhjbaaDoor.LaidOps
open Go.RowKit PlainOps NameCalls

theorem gName : Tryd.prog.globalNamed "loop.example/g00472/impl.opNames" = some 0 := by kernel_rfl
theorem gType : (Tryd.prog.globals[0]?).map (·.type) = some 58 := by kernel_rfl
theorem cells9 : Tryd.prog.cellsOf 9 = 1 := by kernel_rfl
theorem datum : (Rows.laid_loop_example_g00472_impl_opNames : DataW Unit) = .agg (opTab.map fun l => .lit (.string l)) := rfl

theorem tab_of_reads {W : World} (h : Lib.VarReads Tryd.prog W "loop.example/g00472/impl.opNames" Rows.laid_loop_example_g00472_impl_opNames) : Tab W := by
  obtain ⟨g, t, cs, fuel, p, hg, ht, hv, hd⟩ := h
  obtain rfl := Option.some.inj (gName.symm.trans hg)
  obtain rfl := Option.some.inj (gType.symm.trans ht)
  rw [datum] at hd
  intro j hj
  obtain ⟨f', d, q, h1, h2⟩ := Lib.array_elem Tryd.underlying58 hd j hj
  obtain ⟨s, hs, hx, _⟩ := DataW.trod_string Tryd.underlying9 h2
  rw [cells9, Nat.mul_one] at hs
  have hcs : cs[j]? = some (.string s) := by
    have := congrArg (·[0]?) hs
    simpa [List.getElem?_take, List.getElem?_drop] using this
  have h3 := World.var?_cell gName hv j
  rw [h3, hcs]
  have hj' : j < opTab.length := hj
  have he : (.lit (.string (opTab.getD j [])) : DataW Unit) = d := by
    simpa [List.getD, hj'] using h1
  have hd' : d = .lit (.string s.data.toList) := congrArg Prod.fst hx
  rw [hd'] at he
  injection he with he
  injection he with he
  have : tx (opTab.getD j []) = s := by rw [he]; exact ByteArray.ext (by simp [tx])
  rw [this]
end Go.Proofs.YtjbhelcdakhjbaaDoor.LaidOps
