/-
  A list of tokens that came in, opened.
-/
import Derived.Test.YtjndgjheehjohaaDoorOpenTok
import Derived.Test.YtjndgjheehjohaaDoorTokList
import Derived.Deep.Strs
namespace Go.Proofs.YtjndgjheehjohaaDoor.OpenToks
open Go.RowKit Go.Deep Go.ChangeShapes Go.WideShapes OpenTok

theorem ea (b off j : Nat) : (⟨b, off, none⟩ : Addr).add j = ⟨b, off + j, none⟩ := by cases j <;> simp [Addr.add]
theorem add_add' (a : Addr) (i j : Nat) : (a.add i).add j = a.add (i + j) := by
  obtain ⟨b, off, s⟩ := a
  cases i <;> cases j <;> simp [Addr.add]
  all_goals omega
theorem getTok {n : Nat} (q : Nat → MemTok.E) (j : Nat) (hj : j < n) : ((List.range n).map q).getD j (0, 0, (⟨#[]⟩ : ByteArray), 0) = q j := by simp [List.getD, hj]
theorem choose_lt' {α : Type} {n : Nat} {p : Nat → α → Prop} [Inhabited α] (h : ∀ i, i < n → ∃ q, p i q) : ∃ q : Nat → α, ∀ i, i < n → p i (q i) := by
  classical
  exact ⟨fun i => if hi : i < n then (h i hi).choose else default, fun i hi => by simp only [dif_pos hi]; exact (h i hi).choose_spec⟩
set_option maxRecDepth 100000 in
theorem open_toks {H : Type} {enc : TypeId × Value → H} {W : World} {base : Nat} {spare : Nat → Bool} {held : Bool} {fuel : Nat} {a' : Option Addr} {n' c' : Nat} {x : DataW H × List MemPlace} (h : DataW.trod enc Tryd.prog W base spare held fuel 30 [.slice a' n' c'] = some x) :
    ∃ l : List MemTok.E, l.length = n' ∧ MemTok.Rd W a' l ∧ n' ≤ 9223372036854775807 ∧ TokList.Wide l := by
  rcases open_slice Tryd.underlying30 h with ⟨h0, _⟩ | ⟨a, len, cap, m, n, D, Pl, hcs, hb, hl, hm, hmm, _, hx⟩
  · simp at h0
    obtain ⟨rfl, rfl, rfl⟩ := h0
    exact ⟨[], rfl, .inl rfl, by omega, fun j hj => by simp at hj⟩
  · simp only [List.cons.injEq, and_true, Value.slice.injEq] at hcs
    obtain ⟨rfl, rfl, rfl⟩ := hcs
    unfold maxLen at hm
    have hlm : n' ≤ m := by rw [hmm]; split <;> omega
    have each : ∀ i, i < n' → ∃ q : MemTok.E, W.cell? (a.add (i * 4)) = some (.int .i64 q.1) ∧ W.cell? (a.add (i * 4 + 1)) = some (.int .i64 q.2.1) ∧ W.cell? (a.add (i * 4 + 2)) = some (.string q.2.2.1) ∧ W.cell? (a.add (i * 4 + 3)) = some (.int .i64 q.2.2.2) ∧ q.2.2.1.size ≤ 9223372036854775807 := by
      intro i hi
      obtain ⟨cs', h1, h2⟩ := hx i (by omega)
      rw [cellsT] at h1
      obtain ⟨_, hlen, hcell⟩ := World.cells?_some h1
      obtain ⟨xs, k, _, _, _, hlx, hfl⟩ := DataW.trod_struct Tryd.underlying24 h2
      obtain ⟨x0, x1, x2, x3, rfl⟩ := list4 hlx
      have g0 := hfl 0 _ rfl
      have g1 := hfl 1 _ rfl
      have g2 := hfl 2 _ rfl
      have g3 := hfl 3 _ rfl
      match cs', hlen with
      | [v0, v1, v2, v3], _ =>
        simp [cells3, cells9] at g0 g1 g2 g3
        obtain ⟨z0, hz0, _, _⟩ := DataW.trod_int Tryd.underlying3 g0
        obtain ⟨z1, hz1, _, _⟩ := DataW.trod_int Tryd.underlying3 g1
        obtain ⟨z2, hz2, _, hs2⟩ := DataW.trod_string Tryd.underlying9 g2
        unfold maxLen at hs2
        obtain ⟨z3, hz3, _, _⟩ := DataW.trod_int Tryd.underlying3 g3
        simp at hz0 hz1 hz2 hz3
        subst hz0 hz1 hz2 hz3
        have e0 := hcell 0 (by omega)
        have e1 := hcell 1 (by omega)
        have e2 := hcell 2 (by omega)
        have e3 := hcell 3 (by omega)
        rw [add_add'] at e0 e1 e2 e3
        exact ⟨(z0, z1, z2, z3), by simpa using e0, by simpa using e1, by simpa using e2, by simpa using e3, by show z2.size ≤ _; omega⟩
    haveI : Inhabited MemTok.E := ⟨(0, 0, ⟨#[]⟩, 0)⟩
    obtain ⟨q, hq⟩ := choose_lt' each
    refine ⟨(List.range n').map q, by simp, ?_, by omega, ?_⟩
    · by_cases h0 : n' = 0
      · exact .inl (by simp [h0])
      · obtain ⟨b, off, spot⟩ := a
        obtain ⟨c0, _⟩ := hq 0 (by omega)
        have hspot : spot = none := by simpa [Addr.add] using World.cell?_spot c0
        subst hspot
        refine .inr ⟨b, off, rfl, fun j hj => ?_⟩
        have hj' : j < n' := by simpa using hj
        obtain ⟨c0, c1, c2, c3, _⟩ := hq j hj'
        rw [ea] at c0 c1 c2 c3
        unfold MemTok.f0At MemTok.f1At MemTok.f2At MemTok.f3At
        rw [getTok q j hj']
        exact ⟨c0, by rw [Nat.add_assoc]; exact c1, by rw [Nat.add_assoc]; exact c2, by rw [Nat.add_assoc]; exact c3⟩
    · intro j hj
      have hj' : j < n' := by simpa using hj
      obtain ⟨_, _, _, _, s0⟩ := hq j hj'
      unfold MemTok.f2At
      rw [getTok q j hj']
      exact s0
end Go.Proofs.YtjndgjheehjohaaDoor.OpenToks
