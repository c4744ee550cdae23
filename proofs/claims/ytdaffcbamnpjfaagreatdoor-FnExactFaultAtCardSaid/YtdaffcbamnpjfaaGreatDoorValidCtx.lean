/-
  What a module gives to a body that is gone through: in plain words, and what a right form says of it.
-/
import Derived.Test.YtdaffcbamnpjfaaGreatDoorFormImpl
import Derived.Test.YtdaffcbamnpjfaaGreatDoorPlainValid
namespace Go.Proofs.YtdaffcbamnpjfaaGreatDoor.ValidCtx
open Go.RowKit PlainOps NameCalls PlainNum NumCalls InsCalls InsImpl PlainShape InsMem PlainAll FormCalls ModMem FormImpl PlainValid

/-- The Sig's place of a function in the numbering of functions. -/
def sgI (m : M) (k : Nat) : Int := if k < m.imps.length then MemImport.f2At m.imps k else (MemFunc.at1 m.fns (k - m.imps.length)).sig
/-- What a body with Sig s and x locals sees. -/
def ctxOf (m : M) (s x : Int) : Ctx :=
  { nf := m.imps.length + m.fns.length, sp := fun k => MemSig.f0At m.sigs (sgI m k).toNat, sr := fun k => MemSig.f1At m.sigs (sgI m k).toNat, loc := MemSig.f0At m.sigs s.toNat + x, ng := m.gls.length, mt := fun k => MemGlobal.f0At m.gls k, mem := decide (m.pages ≠ -1), own := MemSig.f1At m.sigs s.toNat }
/-- What a right form says. -/
structure Facts (m : M) : Prop where
  sg : ∀ j, j < m.sigs.length → 0 ≤ MemSig.f0At m.sigs j ∧ MemSig.f0At m.sigs j ≤ 60 ∧ 0 ≤ MemSig.f1At m.sigs j ∧ MemSig.f1At m.sigs j ≤ 1
  im : ∀ j, j < m.imps.length → 0 ≤ MemImport.f2At m.imps j ∧ MemImport.f2At m.imps j < m.sigs.length
  fn : ∀ j, j < m.fns.length → 0 ≤ (MemFunc.at1 m.fns j).sig ∧ (MemFunc.at1 m.fns j).sig < m.sigs.length ∧ 0 ≤ (MemFunc.at1 m.fns j).loc ∧ (MemFunc.at1 m.fns j).loc ≤ 60 ∧ boOk (MemFunc.at1 m.fns j).body = true
  ex : ∀ j, j < m.exs.length → (MemExport.f1At m.exs j = 0 ∨ MemExport.f1At m.exs j = 2 ∨ MemExport.f1At m.exs j = 3) ∧ 0 ≤ MemExport.f2At m.exs j ∧ MemExport.f2At m.exs j ≤ 1000
  pg : -1 ≤ m.pages ∧ m.pages ≤ 2
  co : m.sigs.length ≤ 30 ∧ m.imps.length + m.fns.length ≤ 60 ∧ m.gls.length ≤ 30 ∧ m.exs.length ≤ 60 ∧ m.dat.length ≤ 20
theorem allP_at {p : Nat → Bool} : ∀ (f k : Nat), allP p f k = true → ∀ j, k ≤ j → j < k + f → p j = true
  | 0, k, _, j, h1, h2 => by omega
  | f + 1, k, h, j, h1, h2 => by
    cases hp : p k with
    | false => rw [allP_no hp] at h; cases h
    | true =>
      rw [allP_yes hp] at h
      by_cases e : j = k
      · rw [e]; exact hp
      · exact allP_at f (k + 1) h j (by omega) (by omega)
theorem allF_at {l : List I3} : ∀ (f k : Nat), allF l f k = true → ∀ j, k ≤ j → j < k + f → okAt l j = true
  | 0, k, _, j, h1, h2 => by omega
  | f + 1, k, h, j, h1, h2 => by
    cases hp : okAt l k with
    | false => rw [allF_no hp] at h; cases h
    | true =>
      rw [allF_yes hp] at h
      by_cases e : j = k
      · rw [e]; exact hp
      · exact allF_at f (k + 1) h j (by omega) (by omega)
theorem wi_is {n lo hi : Int} (h : wi n lo hi = true) : lo ≤ n ∧ n ≤ hi := of_decide_eq_true h
theorem facts {m : M} (h : formOk m = true) : Facts m := by
  unfold formOk at h
  simp only [Bool.and_eq_true] at h
  obtain ⟨hco, hme, hsg, him, hfn, hgl, hex, hda⟩ := h
  have hco' := of_decide_eq_true hco
  refine ⟨fun j hj => ?_, fun j hj => ?_, fun j hj => ?_, fun j hj => ?_, ?_, by omega⟩
  · have := allP_at _ 0 hsg j (by omega) (by omega)
    unfold sgOk at this
    simp only [Bool.and_eq_true] at this
    have h1 := wi_is this.1
    have h2 := wi_is this.2
    omega
  · have := allP_at _ 0 him j (by omega) (by omega)
    unfold imOk at this
    simp only [Bool.and_eq_true] at this
    have h1 := wi_is this.1
    omega
  · have := allP_at _ 0 hfn j (by omega) (by omega)
    unfold fnOk at this
    simp only [Bool.and_eq_true] at this
    have h1 := wi_is this.1
    have h2 := wi_is this.2.1
    exact ⟨by omega, by omega, by omega, by omega, this.2.2⟩
  · have := allP_at _ 0 hex j (by omega) (by omega)
    unfold exOk at this
    simp only [Bool.and_eq_true] at this
    have h1 := of_decide_eq_true this.1
    have h2 := wi_is this.2.2
    exact ⟨h1, h2.1, h2.2⟩
  · unfold meOk at hme
    split at hme
    · have := wi_is hme; omega
    · simp only [Bool.and_eq_true] at hme
      have := wi_is hme.1
      omega
theorem sgI_lt {m : M} (f : Facts m) {k : Nat} (hk : k < m.imps.length + m.fns.length) : 0 ≤ sgI m k ∧ sgI m k < m.sigs.length := by
  unfold sgI
  split
  · exact f.im k (by assumption)
  · have := f.fn (k - m.imps.length) (by omega)
    exact ⟨this.1, this.2.1⟩
theorem okC {m : M} (f : Facts m) {s x : Int} (h0 : 0 ≤ s) (h1 : s < m.sigs.length) : OkC (ctxOf m s x) := by
  refine ⟨?_, fun j hj => ?_⟩
  · have := f.sg s.toNat (by omega)
    exact ⟨this.2.2.1, this.2.2.2⟩
  · obtain ⟨a, b⟩ := sgI_lt f (k := j) hj
    exact f.sg (sgI m j).toNat (by omega)
/-- What is asked of an instruction. -/
structure InsF (o a : Int) : Prop where
  one : o = 2 ∨ o = 3 ∨ o = 4 → 0 ≤ a ∧ a ≤ 1
  idx : o = 12 ∨ o = 13 ∨ o = 16 ∨ o = 32 ∨ o = 33 ∨ o = 34 ∨ o = 35 ∨ o = 36 → 0 ≤ a ∧ a ≤ 1000
theorem insF {o a b : Int} (h : insOk o a b = true) : InsF o a := by
  unfold insOk at h
  simp only [Bool.and_eq_true] at h
  have h2 := h.2
  refine ⟨fun e => ?_, fun e => ?_⟩
  · have hk : kd o = 1 := by unfold kd; rw [if_pos e]
    rw [hk] at h2
    have := of_decide_eq_true (show decide (0 ≤ a ∧ a ≤ 1 ∧ b = 0) = true from h2)
    omega
  · have hk : kd o = 2 := by unfold kd; rw [if_neg (by omega), if_pos e]
    rw [hk] at h2
    have := of_decide_eq_true (show decide (0 ≤ a ∧ a ≤ 1000 ∧ b = 0) = true from h2)
    omega
theorem ctx_same {m m' : M} (s : Same m m') (z x : Int) : ctxOf m' z x = ctxOf m z x := by
  have hg : ∀ k, k < m.imps.length + m.fns.length → sgI m' k = sgI m k := fun k hk => by
    unfold sgI
    rw [s.s1]
    split
    · rfl
    · exact (s.s2 (k - m.imps.length) (by omega)).1
  have hg' : ∀ k, sgI m' k = sgI m k := fun k => by
    by_cases hk : k < m.imps.length + m.fns.length
    · exact hg k hk
    · unfold sgI
      rw [s.s1, if_neg (by omega), if_neg (by omega)]
      unfold MemFunc.at1
      have hn := s.n2
      rw [List.getD_eq_getElem?_getD, List.getD_eq_getElem?_getD, List.getElem?_eq_none (by omega), List.getElem?_eq_none (by omega)]
  unfold ctxOf
  rw [s.s0, s.s1, s.n2, s.s3, s.sp]
  simp only [hg']
end Go.Proofs.YtdaffcbamnpjfaaGreatDoor.ValidCtx
