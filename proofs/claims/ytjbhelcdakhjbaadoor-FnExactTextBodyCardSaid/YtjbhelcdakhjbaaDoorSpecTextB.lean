/-
  What the specification's TextBody answers when it is called.
-/
import Derived.Test.YtjbhelcdakhjbaaDoorCutCalls
import Derived.Test.YtjbhelcdakhjbaaDoorReadCalls
import Derived.Test.YtjbhelcdakhjbaaDoorBodyCalls
import Derived.Test.YtjbhelcdakhjbaaDoorOwnIns
namespace Go.Proofs.YtjbhelcdakhjbaaDoor.SpecTextB
open Go.RowKit PlainOps NameCalls PlainNum InsCalls PlainShape PlainAll PlainBody PlainRead PlainCut CutCalls InsMem OwnIns

theorem ownT_cell {B : Nat} {w : World} {v : Value} {ls : List (List UInt8)} (h : OwnT B w v ls) (hne : ls ≠ []) : ∃ g cap, v = .slice (some ⟨g, 0, none⟩) ls.length cap ∧ B ≤ g ∧ g < w.heap.size ∧ ∀ j, j < ls.length → w.cell? ⟨g, j, none⟩ = some (.string (tx (ls.getD j []))) := by
  rcases h.2 with ⟨_, h0⟩ | ⟨g, cap, cur, hv, hg, hh, r⟩
  · exact absurd (List.length_eq_zero_iff.1 h0) hne
  · refine ⟨g, cap, hv, hg, (Array.getElem?_eq_some_iff.1 hh).1, fun j hj => ?_⟩
    have := World.ownsRow.cells h (g := g) (by rw [hv]; rfl) j (.string (tx (ls.getD j []))) (by simp [List.getD, hj])
    have ea : (⟨g, 0, none⟩ : Addr).add j = ⟨g, j, none⟩ := by cases j <;> simp [Addr.add]
    rw [ea] at this
    exact this
theorem getD_size (c : UInt8) (l : List UInt8) (j : Nat) : ((cutL c l).getD j []).length ≤ l.length := by
  have h : ∀ l : List UInt8, ∀ t ∈ cutL c l, t.length ≤ l.length := by
    intro l
    induction l with
    | nil => intro t ht; simp [cutL] at ht; subst ht; simp
    | cons x r ih =>
      intro t ht
      by_cases hx : x = c
      · subst hx
        rw [cutL_sep] at ht
        rcases List.mem_cons.1 ht with rfl | ht
        · simp
        · have := ih t ht; simp; omega
      · obtain ⟨a, q, e1, e2⟩ := cutL_other hx r
        rw [e2] at ht
        rw [e1] at ih
        rcases List.mem_cons.1 ht with rfl | ht
        · have := ih a List.mem_cons_self; simp; omega
        · have := ih t (List.mem_cons_of_mem _ ht); simp; omega
  by_cases hj : j < (cutL c l).length
  · have : (cutL c l).getD j [] ∈ cutL c l := by simp only [List.getD, List.getElem?_eq_getElem hj, Option.getD_some]; exact List.getElem_mem hj
    exact h l _ this
  · simp [List.getD, List.getElem?_eq_none (Nat.le_of_not_lt hj)]
theorem cut_count (c : UInt8) : ∀ l : List UInt8, (cutL c l).length ≤ l.length + 1
  | [] => by simp [cutL]
  | x :: r => by
    have ih := cut_count c r
    by_cases hx : x = c
    · subst hx
      rw [cutL_sep]
      simp
      omega
    · obtain ⟨a, q, e1, e2⟩ := cutL_other hx r
      rw [e1] at ih
      rw [e2]
      simp at ih ⊢
      omega
theorem tx_len (t : List UInt8) : (tx t).size = t.length := by simp [tx, ByteArray.size]
theorem tx_l (t : List UInt8) : (tx t).data.toList = t := by simp [tx]
/-- What reading the first k parts gives. -/
noncomputable def rdK (P : List (List UInt8)) (k : Nat) : List I3 := (P.take k).map rdI
theorem rdK_step (P : List (List UInt8)) (k : Nat) (hk : k < P.length) : rdK P (k + 1) = rdK P k ++ [rdI (P.getD k [])] := by
  unfold rdK
  rw [List.take_add_one, List.map_append]
  simp [List.getD, hk]
theorem cellsI_at : ∀ (l : List I3) (j : Nat), j < l.length → (cellsI l)[j * 3]? = some (.int .i64 (oAt l j)) ∧ (cellsI l)[j * 3 + 1]? = some (.int .i64 (aAt l j)) ∧ (cellsI l)[j * 3 + 2]? = some (.int .i64 (bAt l j))
  | x :: l, 0, _ => by simp [cellsI, oAt, aAt, bAt]
  | x :: l, j + 1, h => by
    have ih := cellsI_at l j (by simpa using h)
    have e : cellsI (x :: l) = [.int .i64 x.1, .int .i64 x.2.1, .int .i64 x.2.2] ++ cellsI l := rfl
    rw [e, show (j + 1) * 3 = 3 + j * 3 by omega, show 3 + j * 3 + 1 = 3 + (j * 3 + 1) by omega, show 3 + j * 3 + 2 = 3 + (j * 3 + 2) by omega]
    refine ⟨?_, ?_, ?_⟩ <;> rw [List.getElem?_append_right (by simp)] <;> simp [oAt, aAt, bAt] at ih ⊢ <;> simp [ih]
theorem own_rdI {B : Nat} {w : World} {a : Option Addr} {cap : Nat} {l : List I3} (h : OwnI B w (.slice a l.length cap) l) : RdI w a l := by
  rcases h.2 with ⟨_, h0⟩ | ⟨g, cap', cur, hv, hg, hh, r⟩
  · exact .inl h0
  · injection hv with e1 e2 e3
    subst e1
    have hc : ∀ j u, (cellsI l)[j]? = some u → w.cell? ⟨g, j, none⟩ = some u := fun j u hj => by
      have := World.ownsRow.cells h (g := g) rfl j u hj
      have ea : (⟨g, 0, none⟩ : Addr).add j = ⟨g, j, none⟩ := by cases j <;> simp [Addr.add]
      rw [ea] at this
      exact this
    refine .inr ⟨g, 0, rfl, fun j hj => ?_⟩
    obtain ⟨x, y, z⟩ := cellsI_at l j hj
    rw [Nat.zero_add]
    exact ⟨hc _ _ x, hc _ _ y, hc _ _ z⟩
theorem ownI_rd {B : Nat} {w : World} {a : Option Addr} {N cap : Nat} {l : List I3} (hN : N = l.length) (h : OwnI B w (.slice a N cap) l) : RdI w a l := by
  subst hN
  exact own_rdI h
set_option maxHeartbeats 8000000 in
/-- One part, read: the walk of a round, up to the append. -/
theorem part_is (t : List UInt8) : rdI t = (nmOp (tx ((cutL 32 t).getD 0 [])), if 1 < (cutL 32 t).length then (T ((cutL 32 t).getD 1 [])).1 else 0, if 2 < (cutL 32 t).length then (T ((cutL 32 t).getD 2 [])).1 else 0) := rfl
end Go.Proofs.YtjbhelcdakhjbaaDoor.SpecTextB
