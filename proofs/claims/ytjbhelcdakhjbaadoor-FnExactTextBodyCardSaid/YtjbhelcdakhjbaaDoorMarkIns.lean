/-
  Slices of instructions marked by the laws, and the marks looked at.
-/
import Derived.Test.YtjbhelcdakhjbaaDoorInsMem
import Derived.Test.YtjbhelcdakhjbaaDoorByteMem
namespace Go.Proofs.YtjbhelcdakhjbaaDoor.MarkIns
open Go.RowKit PlainShape InsMem

/-- A slice of n instructions that can be written. -/
def WtI (w : World) (a : Option Addr) (n : Nat) : Prop :=
  n = 0 ∨ ∃ b off, a = some ⟨b, off, none⟩ ∧ ∀ j, j < n * 3 → (∃ v, w.cell? ⟨b, off + j, none⟩ = some v) ∧ w.frozen? ⟨b, off + j, none⟩ = false
/-- .. that is marked, from q on. -/
def MkI (w : World) (a : Option Addr) (n : Nat) (q : Int) : Prop :=
  n = 0 ∨ ∃ b off, a = some ⟨b, off, none⟩ ∧ ∀ j, j < n * 3 → w.cell? ⟨b, off + j, none⟩ = some (.int .i64 (q + j))
theorem MkI.later {w w' : World} {a : Option Addr} {n : Nat} {q : Int} (h : MkI w a n q) (hb : Below w.heap.size w w') : MkI w' a n q := by
  rcases h with h | ⟨b, off, ha, hc⟩
  · exact .inl h
  · exact .inr ⟨b, off, ha, fun j hj => by rw [hb.cell (World.block_lt_of_cell? w _ (hc j hj))]; exact hc j hj⟩
theorem set_other {w : World} {b i j : Nat} {v : Value} (h : i ≠ j) : (w.setCell ⟨b, i, none⟩ v).cell? ⟨b, j, none⟩ = w.cell? ⟨b, j, none⟩ :=
  World.cell?_setCell_other (w := w) (a := ⟨b, i, none⟩) (b := ⟨b, j, none⟩) (v := v) (addr_ne (by omega))
theorem set_same {w : World} {b i : Nat} {v x : Value} (h : w.cell? ⟨b, i, none⟩ = some x) : (w.setCell ⟨b, i, none⟩ v).cell? ⟨b, i, none⟩ = some v :=
  World.cell?_setCell_same (w := w) (a := ⟨b, i, none⟩) (v := v) h
theorem three_c {w : World} {b i : Nat} {x1 x2 : Value} (c1 : w.cell? ⟨b, i + 1, none⟩ = some x1) (c2 : w.cell? ⟨b, i + 2, none⟩ = some x2) (v0 v1 : Value) :
    (w.setCell ⟨b, i, none⟩ v0).cell? ⟨b, i + 1, none⟩ = some x1 ∧ ((w.setCell ⟨b, i, none⟩ v0).setCell ⟨b, i + 1, none⟩ v1).cell? ⟨b, i + 2, none⟩ = some x2 := by
  refine ⟨?_, ?_⟩
  · rw [set_other (by omega)]; exact c1
  · rw [set_other (by omega), set_other (by omega)]; exact c2
set_option maxHeartbeats 4000000 in
theorem markInsS (w : World) (a : Option Addr) (n cap : Nat) (q : Int) (h : WtI w a n) (hn : n ≤ 1099511627776) (q0 : 0 ≤ q) (q1 : q ≤ 1099511627776) :
    Calls Tryd.prog 7 #[.slice a n cap, .int .i64 q] w fun e w' => e = .returned (.int .i64 (q + 3 * n)) ∧ MkI w' a n q ∧ ByteMem.Only w w' a := by
  rcases h with rfl | ⟨b, off, rfl, hc⟩
  · go_enter Tryd.func7, Tryd.ntmps7
    go_wp2_with fail
    refine wp_loop_rounds 1 ?_
    rw [rounds_succ]
    go_wp2_with fail
    go_ret
    exact ⟨by simp, .inl rfl, ByteMem.Only.refl _ _⟩
  · have hc' : Hid (∀ j, j < n * 3 → (∃ v, w.cell? ⟨b, off + j, none⟩ = some v) ∧ w.frozen? ⟨b, off + j, none⟩ = false) := hc
    clear hc
    go_enter Tryd.func7, Tryd.ntmps7
    go_wp2_with fail
    go_loopw [1, 5] (fun q' i wr => ∃ k : Nat, k ≤ n ∧ i = .int .i64 k ∧ q' = .int .i64 (q + 3 * k) ∧ (∀ j, j < k * 3 → wr.cell? ⟨b, off + j, none⟩ = some (.int .i64 (q + j))) ∧ (∀ j, k * 3 ≤ j → wr.cell? ⟨b, off + j, none⟩ = w.cell? ⟨b, off + j, none⟩) ∧ ByteMem.Only w wr (some ⟨b, off, none⟩)) (fun _ i _ => n - (intOf i).toNat)
    case atStart => exact ⟨0, Nat.zero_le _, rfl, by simp, fun j hj => by omega, fun _ _ => rfl, ByteMem.Only.refl _ _⟩
    case round =>
      obtain ⟨k, hk, rfl, rfl, hm, hr, ho⟩ := hrel
      by_cases hlt : k < n
      · have hlt' : (k : Int) < (n : Int) := by omega
        obtain ⟨⟨v0, hv0⟩, hf0⟩ := hc'.out (k * 3) (by omega)
        obtain ⟨⟨v1, hv1⟩, hf1⟩ := hc'.out (k * 3 + 1) (by omega)
        obtain ⟨⟨v2, hv2⟩, hf2⟩ := hc'.out (k * 3 + 2) (by omega)
        have c0 : wr.cell? ⟨b, off + k * 3, none⟩ = some v0 := by rw [hr (k * 3) (Nat.le_refl _)]; exact hv0
        have c1 : wr.cell? ⟨b, off + k * 3 + 1, none⟩ = some v1 := by rw [Nat.add_assoc, hr (k * 3 + 1) (by omega)]; exact hv1
        have c2 : wr.cell? ⟨b, off + k * 3 + 2, none⟩ = some v2 := by rw [Nat.add_assoc, hr (k * 3 + 2) (by omega)]; exact hv2
        have f0 : wr.frozen? ⟨b, off + k * 3, none⟩ = false := by rw [ho.2.2]; exact hf0
        have f1 : wr.frozen? ⟨b, off + k * 3 + 1, none⟩ = false := by rw [ho.2.2, Nat.add_assoc]; exact hf1
        have f2 : wr.frozen? ⟨b, off + k * 3 + 2, none⟩ = false := by rw [ho.2.2, Nat.add_assoc]; exact hf2
        obtain ⟨d1, d2⟩ := three_c c1 c2 (.int .i64 (q + 3 * k)) (.int .i64 (q + 3 * k + 1))
        have hm' : Hid (∀ j, j < k * 3 → wr.cell? ⟨b, off + j, none⟩ = some (.int .i64 (q + j))) := hm
        have hr' : Hid (∀ j, k * 3 ≤ j → wr.cell? ⟨b, off + j, none⟩ = w.cell? ⟨b, off + j, none⟩) := hr
        have ho' : Hid (ByteMem.Only w wr (some ⟨b, off, none⟩)) := ho
        have c0' : Hid (wr.cell? ⟨b, off + k * 3, none⟩ = some v0) := c0
        clear hm hr ho hv0 hv1 hv2 hf0 hf1 hf2
        go_wp2_with fail
        go_roundw
        case rel =>
          refine ⟨k + 1, by omega, by go_num, by go_num, fun j hj => ?_, fun j hj => ?_, ((ho'.out.set _).set _).set _⟩
          · by_cases e2 : j = k * 3 + 2
            · subst e2
              rw [← Nat.add_assoc, set_same d2]
              exact congrArg (fun x => some (Value.int .i64 x)) (by omega)
            · rw [set_other (by omega)]
              by_cases e1 : j = k * 3 + 1
              · subst e1
                rw [← Nat.add_assoc, set_same d1]
                exact congrArg (fun x => some (Value.int .i64 x)) (by omega)
              · rw [set_other (by omega)]
                by_cases e0 : j = k * 3
                · subst e0
                  rw [set_same c0'.out]
                  exact congrArg (fun x => some (Value.int .i64 x)) (by omega)
                · rw [set_other (by omega)]
                  exact hm'.out j (by omega)
          · rw [set_other (by omega), set_other (by omega), set_other (by omega)]
            exact hr'.out j (by omega)
        case measure => simp [intOf]; omega
      · obtain rfl : k = n := by omega
        have hm' : Hid (∀ j, j < k * 3 → wr.cell? ⟨b, off + j, none⟩ = some (.int .i64 (q + j))) := hm
        have ho' : Hid (ByteMem.Only w wr (some ⟨b, off, none⟩)) := ho
        clear hm hr ho
        go_wp2_with fail
        go_ret
        exact ⟨rfl, .inr ⟨b, off, rfl, hm'.out⟩, ho'.out⟩
end Go.Proofs.YtjbhelcdakhjbaaDoor.MarkIns
