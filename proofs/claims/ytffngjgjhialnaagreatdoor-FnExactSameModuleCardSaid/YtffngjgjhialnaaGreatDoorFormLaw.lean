/-
  The walk of the exact law of FormOk.
-/
import Derived.Test.YtffngjgjhialnaaGreatDoorFormSpec
namespace Go.Proofs.YtffngjgjhialnaaGreatDoor.FormLaw
open Go.RowKit NameCalls InsMem FormCalls ModMem FormImpl

theorem val_agg (p : P) (m : M) : ∃ xa0 xn0 xc0 xa1 xn1 xc1 xa2 xn2 xc2 xi3 xi4 xa5 xn5 xc5 xa6 xn6 xc6 xa7 xn7 xc7, val p m = .agg #[.slice xa0 xn0 xc0, .slice xa1 xn1 xc1, .slice xa2 xn2 xc2, .int .i64 xi3, .int .i64 xi4, .slice xa5 xn5 xc5, .slice xa6 xn6 xc6, .slice xa7 xn7 xc7] := ⟨_, _, _, _, _, _, _, _, _, _, _, _, _, _, _, _, _, _, _, _, rfl⟩
/-- A module is copied: the copy can be read, and what lay there lies there still. -/
theorem copyM (w u : World) (p : P) (m : M) (V : Value) (hV : V = val p m) (h : Rd w p m) (hs : Small m) (hb : Below w.heap.size w u) :
    Calls Tryz.prog 7 #[V] u fun e w' => ∃ xa0 xn0 xc0 xa1 xn1 xc1 xa2 xn2 xc2 xi3 xi4 xa5 xn5 xc5 xa6 xn6 xc6 xa7 xn7 xc7 p' m', e = .returned (.agg #[.slice xa0 xn0 xc0, .slice xa1 xn1 xc1, .slice xa2 xn2 xc2, .int .i64 xi3, .int .i64 xi4, .slice xa5 xn5 xc5, .slice xa6 xn6 xc6, .slice xa7 xn7 xc7]) ∧ Value.agg #[.slice xa0 xn0 xc0, .slice xa1 xn1 xc1, .slice xa2 xn2 xc2, .int .i64 xi3, .int .i64 xi4, .slice xa5 xn5 xc5, .slice xa6 xn6 xc6, .slice xa7 xn7 xc7] = val p' m' ∧ Rd w' p' m' ∧ Same m m' ∧ Below u.heap.size u w' ∧ Below w.heap.size w w' := by
  subst hV
  exact (toM u p m (h.later hb) hs).mono fun _ _ ⟨_, _, _, _, _, _, G, D, he, hm, hb'⟩ => ⟨_, _, _, _, _, _, _, _, _, _, _, _, _, _, _, _, _, _, _, _, _, _, he, rfl, hm.rd, newM_same G D m, hb', hb.trans (hb'.mono hb.size)⟩
end Go.Proofs.YtffngjgjhialnaaGreatDoor.FormLaw
