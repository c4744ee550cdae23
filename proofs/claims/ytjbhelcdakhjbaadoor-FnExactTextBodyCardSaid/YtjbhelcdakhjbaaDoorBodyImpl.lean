/-
  What the program's BodyText answers when it is called, and the walk of its exact law.
-/
import Derived.Test.YtjbhelcdakhjbaaDoorBodyCalls
namespace Go.Proofs.YtjbhelcdakhjbaaDoor.BodyImpl
open Go.RowKit PlainOps NameCalls PlainNum NumCalls InsCalls InsImpl PlainShape InsMem PlainAll EveryIns PlainBody BodyCalls

abbrev Pow (w : World) : Prop := Lib.TabIs Tryd.prog w "internal/strconv.uint64pow10" .u64 Lib.pow10Tab
theorem pow_later {w w' : World} (h : Pow w) (hb : Below w.heap.size w w') : Pow w' := Lib.tabBelow_of_tabIs h w' hb
theorem run_count (c0 c1 c2 c3 : Value) (w : World) : (Instr.field 48 (.agg #[c0, c1, c2, c3]) 0).run Tryd.prog w = .ok c0 w := by
  simp [Instr.field, run_underlying Tryd.underlying48, part, isAgg, asAgg, run_underlying Tryd.underlying3]
theorem two_cells {w w' : World} {x y : Value} {t : TypeId} (h : Below (w.alloc (.cells #[x, y] t)).heap.size (w.alloc (.cells #[x, y] t)) w') : w'.cell? ⟨w.heap.size, 0, none⟩ = some x ∧ w'.cell? ⟨w.heap.size, 1, none⟩ = some y := by
  have hs : w.heap.size < (w.alloc (.cells #[x, y] t)).heap.size := by simp
  refine ⟨?_, ?_⟩ <;> rw [h.cell hs] <;> simp
theorem insL0 {o a b : Int} (h : kd o = 0) : opNm o = tx (insL o a b) := by
  have h3 : ¬ kd o = 3 := by omega
  rw [insL, if_pos h, if_neg h3, opNm_tx, List.append_nil, List.append_nil]
theorem insL1 {o a b : Int} (h : ¬ kd o = 0) (h3 : ¬ kd o = 3) : opNm o ++ (⟨#[32]⟩ ++ tx (numL a)) = tx (insL o a b) := by
  rw [insL, if_neg h, if_neg h3, opNm_tx, List.append_nil, show (⟨#[32]⟩ : ByteArray) = tx [32] from rfl, tx_append, tx_append]
  rfl
theorem insL3 {o a b : Int} (h3 : kd o = 3) : opNm o ++ (⟨#[32]⟩ ++ tx (numL a)) ++ (⟨#[32]⟩ ++ tx (numL b)) = tx (insL o a b) := by
  have h : ¬ kd o = 0 := by omega
  rw [insL, if_neg h, if_pos h3, opNm_tx, show (⟨#[32]⟩ : ByteArray) = tx [32] from rfl, tx_append, tx_append, tx_append, tx_append]
  rfl
end Go.Proofs.YtjbhelcdakhjbaaDoor.BodyImpl
