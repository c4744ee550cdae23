/-
  Lists of instructions of one's own behind a law's marks; heldInsS.
-/
import Derived.Test.YtjbhelcdakhjbaaDoorMarkIns
import Derived.Test.YtjbhelcdakhjbaaDoorOwnIns
import Derived.Test.YtjbhelcdakhjbaaDoorSpecTextB
namespace Go.Proofs.YtjbhelcdakhjbaaDoor.InsOwn
open Go.RowKit PlainNum ByteMem PlainShape InsMem MarkIns OwnIns

/-- Instructions of one's own, from block B on, or nothing. -/
def OI (B : Nat) (W : World) (a : Option Addr) (l : List I3) : Prop :=
  (a = none ∧ l = []) ∨ ∃ g, a = some ⟨g, 0, none⟩ ∧ B ≤ g ∧ ∃ cur : Array Value, W.heap[g]? = some (.cells cur 32 (0, 0)) ∧ l.length * 3 ≤ cur.size ∧ cur.toList.take (l.length * 3) = cellsI l
theorem own_oi {B : Nat} {W : World} {v : Value} {l : List I3} (h : OwnI B W v l) : ∃ a cap, v = .slice a l.length cap ∧ OI B W a l := by
  rcases h.2 with ⟨hv, h0⟩ | ⟨g, cap, cur, hv, hg, hb, hn, _, hs, hc⟩
  · have h1 : l = [] := List.length_eq_zero_iff.1 h0
    exact ⟨none, 0, by rw [hv, h1]; rfl, .inl ⟨rfl, h1⟩⟩
  · exact ⟨_, cap, hv, .inr ⟨g, rfl, hg, cur, hb, by omega, hc⟩⟩
theorem cell_cur {W : World} {g : Nat} {cur : Array Value} {t : TypeId} {l : List I3} (hb : W.heap[g]? = some (.cells cur t (0, 0))) (hc : cur.toList.take (l.length * 3) = cellsI l) {j : Nat} {x : Value} (hj : (cellsI l)[j]? = some x) : W.cell? ⟨g, j, none⟩ = some x := by
  rw [← hc, List.getElem?_take] at hj
  split at hj
  · simp [World.cell?, hb]
    simpa using hj
  · cases hj
theorem OI.rd {B : Nat} {W : World} {a : Option Addr} {l : List I3} (h : OI B W a l) : RdI W a l := by
  rcases h with ⟨_, h0⟩ | ⟨g, ha, _, cur, hb, _, hc⟩
  · exact .inl (by rw [h0]; rfl)
  · refine .inr ⟨g, 0, ha, fun j hj => ?_⟩
    obtain ⟨c0, c1, c2⟩ := SpecTextB.cellsI_at l j hj
    rw [Nat.zero_add]
    exact ⟨cell_cur hb hc c0, cell_cur hb hc c1, cell_cur hb hc c2⟩
theorem OI.wt {B : Nat} {W : World} {a : Option Addr} {l : List I3} (h : OI B W a l) : WtI W a l.length := by
  rcases h with ⟨_, h0⟩ | ⟨g, ha, _, cur, hb, hn, _⟩
  · exact .inl (by rw [h0]; rfl)
  · refine .inr ⟨g, 0, ha, fun j hj => ⟨⟨cur[j]'(by omega), ?_⟩, ?_⟩⟩
    · simp [World.cell?, hb]
    · simp [World.frozen?, hb]
theorem OI.of {B : Nat} {W W' : World} {a : Option Addr} {l : List I3} (h : OI B W a l) (he : ∀ g, a = some ⟨g, 0, none⟩ → g < W.heap.size → W'.heap[g]? = W.heap[g]?) : OI B W' a l := by
  rcases h with h0 | ⟨g, ha, hg, cur, hb, r⟩
  · exact .inl h0
  · exact .inr ⟨g, ha, hg, cur, (he g ha (Array.getElem?_eq_some_iff.1 hb).1).trans hb, r⟩
theorem OI.below {B : Nat} {W W' : World} {a : Option Addr} {l : List I3} (h : OI B W a l) (hb : Below W.heap.size W W') : OI B W' a l := h.of fun g _ hg => hb.block g hg
theorem OI.draws {B : Nat} {W : World} {a : Option Addr} {l : List I3} (h : OI B W a l) (m : Nat) : OI B (W.drewN m) a l := h
theorem OI.lt {B : Nat} {W : World} {a : Option Addr} {l : List I3} (h : OI B W a l) : ∀ p, a = some p → B ≤ p.block ∧ p.block < W.heap.size := by
  intro p hp
  rcases h with ⟨h0, _⟩ | ⟨g, ha, hg, cur, hb, _⟩
  · rw [h0] at hp; cases hp
  · rw [ha] at hp
    cases hp
    exact ⟨hg, (Array.getElem?_eq_some_iff.1 hb).1⟩
theorem OI.only {B : Nat} {W W' : World} {a a' : Option Addr} {l : List I3} (h : OI B W a l) (ho : Only W W' a') (hne : ∀ p p', a = some p → a' = some p' → p.block ≠ p'.block) : OI B W' a l :=
  h.of fun g hg hlt => ho.1.block g hlt fun e => by
    cases ha' : a' with
    | none => rw [ha'] at e; cases e
    | some p' =>
      rw [ha'] at e
      have := hne ⟨g, 0, none⟩ p' hg ha'
      simp at e
      exact this e
theorem below_only' {B : Nat} {W0 W W' : World} {a' : Option Addr} (hb : Below B W0 W) (ho : Only W W' a') (hB : B ≤ W.heap.size) (hg : ∀ p, a' = some p → B ≤ p.block) : Below B W0 W' :=
  hb.grown ho.1 hB (fun k hk => by
    cases ha : a' with
    | none => rw [ha] at hk; cases hk
    | some p =>
      rw [ha] at hk
      simp at hk
      have := hg p ha
      omega)
theorem heldInsS (w : World) (a : Option Addr) (n cap : Nat) (q : Int) (h : MkI w a n q) (hn : n ≤ 1099511627776) (q0 : 0 ≤ q) (q1 : q ≤ 1099511627776) :
    Calls Tryd.prog 8 #[.slice a n cap, .int .i64 q] w fun e w' => e = .returned (.int .i64 (q + 3 * n)) ∧ w = w' := by
  rcases h with rfl | ⟨b, off, rfl, hc⟩
  · go_enter Tryd.func8, Tryd.ntmps8
    go_wp2_with fail
    refine wp_loop_rounds 1 ?_
    rw [rounds_succ]
    go_wp2_with fail
    go_ret
    exact ⟨by simp, rfl⟩
  · have hc' : Hid (∀ j, j < n * 3 → w.cell? ⟨b, off + j, none⟩ = some (.int .i64 (q + j))) := hc
    clear hc
    go_enter Tryd.func8, Tryd.ntmps8
    go_wp2_with fail
    go_loop [1, 5] (fun q' i => ∃ k : Nat, k ≤ n ∧ i = .int .i64 k ∧ q' = .int .i64 (q + 3 * k)) (fun _ i => n - (intOf i).toNat)
    case atStart => exact ⟨0, Nat.zero_le _, rfl, by simp⟩
    case round =>
      obtain ⟨k, hk, rfl, rfl⟩ := hrel
      by_cases hlt : k < n
      · have hlt' : (k : Int) < (n : Int) := by omega
        have c0 := hc'.out (k * 3) (by omega)
        have c1 := hc'.out (k * 3 + 1) (by omega)
        have c2 := hc'.out (k * 3 + 2) (by omega)
        rw [← Nat.add_assoc] at c1 c2
        rw [show q + ((k * 3 : Nat) : Int) = q + 3 * (k : Int) by omega] at c0
        rw [show q + ((k * 3 + 1 : Nat) : Int) = q + 3 * (k : Int) + 1 by omega] at c1
        rw [show q + ((k * 3 + 2 : Nat) : Int) = q + 3 * (k : Int) + 2 by omega] at c2
        go_wp2_with fail
        go_round
        case rel => exact ⟨k + 1, by omega, by go_num, by go_num⟩
        case measure => simp only [intOf]; omega
      · obtain rfl : k = n := by omega
        go_wp2_with fail
        go_ret
        exact ⟨rfl, rfl⟩
end Go.Proofs.YtjbhelcdakhjbaaDoor.InsOwn
