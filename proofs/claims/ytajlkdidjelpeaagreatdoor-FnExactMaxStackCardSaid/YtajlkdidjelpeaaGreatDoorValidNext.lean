/-
  A body that is rightly shaped, gone through step by step: bounds, and how many are open.
-/
import Derived.Test.YtajlkdidjelpeaaGreatDoorValidStep
namespace Go.Proofs.YtajlkdidjelpeaaGreatDoor.ValidNext
open Go.RowKit PlainShape InsMem ShapeCalls PlainValid ValidCtx ValidStep

/-- How many are open behind an instruction. -/
def nOpen (o : Int) (n : Nat) : Nat := if bg o = true then n + 1 else if o = 11 then n - 1 else n
theorem step_next {c : Ctx} {o i : Int} {k : Nat} {s s' : S2} (hc : OkC c) (hi : InsF o i) (hB : Bnd k s) (hn : s.2.length ≠ 0) (e : PlainValid.step c o i s = some s') : Bnd (k + 1) s' ∧ s'.2.length = nOpen o s.2.length := by
  unfold PlainValid.step at e
  split at e
  · cases e
  rename_i ht
  have ht : PlainValid.there c o i s.2.length = true := by simpa using ht
  split at e
  · rename_i ho
    subst ho
    obtain ⟨a, b⟩ := leave_bnd hB hn e
    exact ⟨a.mono (Nat.le_succ k), b⟩
  split at e
  · rename_i ho
    rw [Option.map_eq_some_iff] at e
    obtain ⟨s1, e1, rfl⟩ := e
    obtain ⟨a, b, d⟩ := exch_bnd hB hn (Int.le_refl _) (by omega) e1
    obtain ⟨i0, i1⟩ := hi.one ho
    obtain ⟨x, y⟩ := opens_bnd (o := o) a i0 i1
    refine ⟨x, ?_⟩
    rw [y, b]
    unfold nOpen
    rw [if_pos ((bg_cases o).2 ho)]
  rename_i hob
  have hb : bg o = false := by
    cases h : bg o with
    | false => rfl
    | true => exact absurd ((bg_cases o).1 h) hob
  have hno : o ≠ 11 → nOpen o s.2.length = s.2.length := fun h => by unfold nOpen; rw [hb, if_neg (by decide), if_neg h]
  split at e
  · rename_i ho
    obtain ⟨a, b⟩ := turn_bnd hB hn e
    exact ⟨a.mono (Nat.le_succ k), by rw [hno (by omega)]; exact b⟩
  split at e
  · rename_i ho
    subst ho
    obtain ⟨a, b⟩ := close_bnd hB hn e
    exact ⟨a, b⟩
  rename_i h11
  rw [hno h11]
  split at e
  · obtain ⟨a, b⟩ := leave_bnd hB hn e
    exact ⟨a.mono (Nat.le_succ k), b⟩
  split at e
  · rename_i ho
    subst ho
    have hlt := of_decide_eq_true (show decide (i < (s.2.length : Int)) = true from ht)
    obtain ⟨i0, _⟩ := hi.idx (by omega)
    obtain ⟨t0, t1⟩ := brT_bnd hB (j := s.2.length - 1 - i.toNat) (by omega)
    unfold brIf at e
    rw [Option.bind_eq_some_iff] at e
    obtain ⟨s1, e1, e2⟩ := e
    obtain ⟨a, b, d⟩ := exch_bnd hB hn (Int.le_refl _) (by omega) e1
    have a' : Bnd k s1 := ⟨a.lo, by have := hB.hi; omega, by rw [b]; exact hB.fr⟩
    obtain ⟨a2, b2, d2⟩ := exch_bnd a' (by rw [b]; exact hn) t0 t1 e2
    exact ⟨a2, by rw [b2, b]⟩
  split at e
  · obtain ⟨a, b⟩ := leave_bnd hB hn e
    exact ⟨a.mono (Nat.le_succ k), b⟩
  · obtain ⟨f0, f1, f2, f3⟩ := eff_bnd hc hi ht
    obtain ⟨a, b, d⟩ := exch_bnd hB hn f2 f3 e
    exact ⟨a, by rw [b]⟩
theorem shape_next {l : List I3} {f k : Nat} {sh : List Int} (h : shpF l (f + 1) k sh = true) : ∃ sh', shpF l f (k + 1) sh' = true ∧ sh'.length + 1 = nOpen (oAt l k) (sh.length + 1) ∧ (oAt l k = 11 → sh.length ≠ 0) := by
  unfold nOpen
  cases hb : bg (oAt l k) with
  | true =>
    rw [shp_bg rfl hb] at h
    exact ⟨_, h, by simp, fun e => absurd e (bg_ne hb)⟩
  | false =>
    by_cases h5 : oAt l k = 5
    · by_cases h0 : sh.length = 0
      · rw [shp_else0 h5 (.inl h0)] at h; cases h
      · by_cases h4 : sh.getD (sh.length - 1) 0 = 4
        · rw [shp_else h5 h0 h4] at h
          exact ⟨_, h, by rw [h5]; simp, fun e => by omega⟩
        · rw [shp_else0 h5 (.inr h4)] at h; cases h
    · by_cases h11 : oAt l k = 11
      · by_cases h0 : sh.length = 0
        · rw [shp_end0 h11 h0] at h; cases h
        · rw [shp_end h11 h0] at h
          refine ⟨_, h, ?_, fun _ => h0⟩
          rw [h11, if_neg (by decide), if_pos rfl, List.length_take]
          omega
      · rw [shp_no rfl hb h5 h11] at h
        exact ⟨_, h, by rw [if_neg (by decide), if_neg h11], fun e => absurd e h11⟩
theorem nOpen_pos {l : List I3} {k n : Nat} (h : oAt l k = 11 → n ≠ 0) : nOpen (oAt l k) (n + 1) ≠ 0 := by
  unfold nOpen
  split
  · omega
  · split
    · rename_i e; have := h e; omega
    · omega
theorem start_bnd {c : Ctx} (hc : OkC c) : Bnd 0 (PlainValid.start c) := by
  refine ⟨Int.le_refl _, Int.le_refl _, fun j hj => ?_⟩
  obtain rfl : j = 0 := by simpa [PlainValid.start] using hj
  have := hc.own
  exact ⟨Int.le_refl _, Int.le_refl _, this.1, this.2⟩
end Go.Proofs.YtajlkdidjelpeaaGreatDoor.ValidNext
