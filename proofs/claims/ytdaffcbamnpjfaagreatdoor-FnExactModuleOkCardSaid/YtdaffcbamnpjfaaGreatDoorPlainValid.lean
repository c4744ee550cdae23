/-
  What a body does to heights, in plain words: what is open, what an instruction takes and puts, where the first fault is.
-/
import Derived.KernelRfl
import Derived.Test.YtdaffcbamnpjfaaGreatDoorPlainShape
namespace Go.Proofs.YtdaffcbamnpjfaaGreatDoor.PlainValid
open PlainShape

/-- One that is open: its operation, its results, its base, whether it is dead. -/
structure Fr where
  op : Int
  res : Int
  base : Int
  dead : Bool
def dF : Fr := ⟨0, 0, 0, false⟩
/-- What a body sees. -/
structure Ctx where
  nf : Nat
  sp : Nat → Int
  sr : Nat → Int
  loc : Int
  ng : Nat
  mt : Nat → Bool
  mem : Bool
  own : Int
/-- n values are taken: the height behind it, and whether it goes. -/
def tk : Nat → Int → Int → Bool → Int × Bool
  | 0, h, _, _ => (h, true)
  | n + 1, h, base, dead => if base < h then tk n (h - 1) base dead else if dead = true then tk n h base dead else (h, false)
theorem tk_down {n : Nat} {h base : Int} {dead : Bool} (hb : base < h) : tk (n + 1) h base dead = tk n (h - 1) base dead := if_pos hb
theorem tk_dead {n : Nat} {h base : Int} (hb : ¬ base < h) : tk (n + 1) h base true = tk n h base true := by rw [tk, if_neg hb, if_pos rfl]
theorem tk_no {n : Nat} {h base : Int} (hb : ¬ base < h) : tk (n + 1) h base false = (h, false) := by rw [tk, if_neg hb, if_neg (by decide)]
theorem tk_add (m n : Nat) : ∀ (h base : Int) (dead : Bool), tk (m + n) h base dead = if (tk m h base dead).2 = true then tk n (tk m h base dead).1 base dead else ((tk m h base dead).1, false) := by
  induction m with
  | zero => intro h base dead; rw [Nat.zero_add]; rfl
  | succ m ih =>
    intro h base dead
    rw [show m + 1 + n = (m + n) + 1 by omega]
    by_cases hb : base < h
    · rw [tk_down hb, tk_down hb]; exact ih _ _ _
    · cases dead with
      | true => rw [tk_dead hb, tk_dead hb]; exact ih _ _ _
      | false => rw [tk_no hb, tk_no hb]; rfl
/-- The height goes down to the base at most. -/
theorem tk_le (n : Nat) : ∀ (h base : Int) (dead : Bool), (tk n h base dead).1 ≤ h ∧ (base ≤ h → base ≤ (tk n h base dead).1) ∧ (h ≤ base → (tk n h base dead).1 = h) := by
  induction n with
  | zero => intro h base dead; exact ⟨Int.le_refl _, fun x => x, fun _ => rfl⟩
  | succ n ih =>
    intro h base dead
    by_cases hb : base < h
    · rw [tk_down hb]
      obtain ⟨a, b, _⟩ := ih (h - 1) base dead
      exact ⟨by omega, fun _ => b (by omega), fun x => by omega⟩
    · cases dead with
      | true =>
        rw [tk_dead hb]
        exact ih h base true
      | false => rw [tk_no hb]; exact ⟨Int.le_refl _, fun x => x, fun _ => rfl⟩
def topF (st : List Fr) : Fr := st.getD (st.length - 1) dF
/-- How many a branch to it takes. -/
def brT (f : Fr) : Int := if f.op = 3 then 0 else f.res
/-- What an instruction that opens, closes and leaves nothing takes and puts. -/
def effT (c : Ctx) (o a : Int) : Int :=
  if o = 1 ∨ o = 2 ∨ o = 3 then 0 else if o = 16 then c.sp a.toNat else if o = 32 ∨ o = 35 ∨ o = 63 ∨ o = 65 then 0 else if o = 4 ∨ o = 26 ∨ o = 33 ∨ o = 36 then 1 else if o = 54 then 2 else if o = 27 then 3 else if o = 34 ∨ o = 40 ∨ o = 64 ∨ o = 69 then 1 else if 103 ≤ o ∧ o ≤ 105 then 1 else 2
def effP (c : Ctx) (o a : Int) : Int :=
  if o = 1 ∨ o = 2 ∨ o = 3 then 0 else if o = 16 then c.sr a.toNat else if o = 32 ∨ o = 35 ∨ o = 63 ∨ o = 65 then 1 else if o = 4 ∨ o = 26 ∨ o = 33 ∨ o = 36 then 0 else if o = 54 then 0 else if o = 27 then 1 else if o = 34 ∨ o = 40 ∨ o = 64 ∨ o = 69 then 1 else 1
/-- Whether what an instruction names is there. -/
def there (c : Ctx) (o a : Int) (n : Nat) : Bool :=
  if o = 12 ∨ o = 13 then decide (a < n) else if o = 16 then decide (a < c.nf) else if o = 32 ∨ o = 33 ∨ o = 34 then decide (a < c.loc) else if o = 35 then decide (a < c.ng) else if o = 36 then decide (a < c.ng) && c.mt a.toNat else if o = 40 ∨ o = 54 ∨ o = 63 ∨ o = 64 then c.mem else true
/-- Height and what is open. -/
abbrev S2 := Int × List Fr
/-- It leaves with n values. -/
def leave (n : Int) (s : S2) : Option S2 :=
  if (tk n.toNat s.1 (topF s.2).base (topF s.2).dead).2 = true then some ((topF s.2).base, s.2.set (s.2.length - 1) ⟨(topF s.2).op, (topF s.2).res, (topF s.2).base, true⟩) else none
def exch (n p : Int) (s : S2) : Option S2 :=
  if (tk n.toNat s.1 (topF s.2).base (topF s.2).dead).2 = true then some ((tk n.toNat s.1 (topF s.2).base (topF s.2).dead).1 + p, s.2) else none
/-- The last open one has its results, and nothing else. -/
def ends (s : S2) : Bool := (tk (topF s.2).res.toNat s.1 (topF s.2).base (topF s.2).dead).2 && decide ((tk (topF s.2).res.toNat s.1 (topF s.2).base (topF s.2).dead).1 = (topF s.2).base)
def closes (s : S2) : Bool := ends s && decide ((topF s.2).op ≠ 4 ∨ (topF s.2).res = 0)
def turn (s : S2) : Option S2 := if ends s = true then some ((topF s.2).base, s.2.set (s.2.length - 1) ⟨5, (topF s.2).res, (topF s.2).base, false⟩) else none
def close (s : S2) : Option S2 := if closes s = true then some ((topF s.2).base + (topF s.2).res, s.2.take (s.2.length - 1)) else none
def opens (o a : Int) (s : S2) : S2 := (s.1, s.2 ++ [⟨o, a, s.1, false⟩])
def brIf (n : Int) (s : S2) : Option S2 := (exch 1 0 s).bind (exch n n)
/-- One instruction. -/
def step (c : Ctx) (o a : Int) (s : S2) : Option S2 :=
  if there c o a s.2.length = false then none
  else if o = 0 then leave 0 s
  else if o = 2 ∨ o = 3 ∨ o = 4 then (exch (effT c o a) 0 s).map (opens o a)
  else if o = 5 then turn s
  else if o = 11 then close s
  else if o = 12 then leave (brT (s.2.getD (s.2.length - 1 - a.toNat) dF)) s
  else if o = 13 then brIf (brT (s.2.getD (s.2.length - 1 - a.toNat) dF)) s
  else if o = 15 then leave c.own s
  else exch (effT c o a) (effP c o a) s
/-- The height as it is told. -/
def told (s : S2) : Int := if (topF s.2).dead = true then -1 else s.1
/-- From k on, f instructions: the heights that are told, and the place of the first fault, or -1. -/
def walk (c : Ctx) (l : List I3) : Nat → Nat → S2 → List Int → List Int × Int
  | 0, k, s, acc => if closes s = true then (acc, -1) else (acc, (k : Int))
  | f + 1, k, s, acc => match step c (oAt l k) (aAt l k) s with
    | none => (acc ++ [told s], (k : Int))
    | some s' => walk c l f (k + 1) s' (acc ++ [told s])
def start (c : Ctx) : S2 := (0, [⟨2, c.own, 0, false⟩])
def body (c : Ctx) (l : List I3) : List Int × Int := walk c l l.length 0 (start c) []
theorem walk_no {c : Ctx} {l : List I3} {f k : Nat} {s : S2} {acc : List Int} (h : step c (oAt l k) (aAt l k) s = none) : walk c l (f + 1) k s acc = (acc ++ [told s], (k : Int)) := by rw [walk, h]
theorem walk_yes {c : Ctx} {l : List I3} {f k : Nat} {s s' : S2} {acc : List Int} (h : step c (oAt l k) (aAt l k) s = some s') : walk c l (f + 1) k s acc = walk c l f (k + 1) s' (acc ++ [told s]) := by rw [walk, h]
theorem walk_len (c : Ctx) (l : List I3) : ∀ (f k : Nat) (s : S2) (acc : List Int), acc.length ≤ (walk c l f k s acc).1.length ∧ (walk c l f k s acc).1.length ≤ acc.length + f := by
  intro f
  induction f with
  | zero => intro k s acc; rw [walk]; split <;> simp
  | succ f ih =>
    intro k s acc
    rw [walk]
    cases step c (oAt l k) (aAt l k) s with
    | none => simp
    | some s' =>
      have := ih (k + 1) s' (acc ++ [told s])
      simp only [List.length_append, List.length_singleton] at this
      simp only
      omega
/-- Where there is no fault each instruction has its height. -/
theorem walk_full (c : Ctx) (l : List I3) : ∀ (f k : Nat) (s : S2) (acc : List Int), (walk c l f k s acc).2 = -1 → (walk c l f k s acc).1.length = acc.length + f := by
  intro f
  induction f with
  | zero =>
    intro k s acc h
    rw [walk] at h ⊢
    split at h
    · rename_i hc; rw [if_pos hc]; simp
    · simp at h
  | succ f ih =>
    intro k s acc
    rw [walk]
    cases step c (oAt l k) (aAt l k) s with
    | none => intro h; simp at h
    | some s' =>
      intro h
      have := ih (k + 1) s' (acc ++ [told s]) h
      simp only [List.length_append, List.length_singleton] at this
      simp only
      omega
/-- Heights lie between 0 and k, and results are none or one. -/
structure Bnd (k : Nat) (s : S2) : Prop where
  lo : 0 ≤ s.1
  hi : s.1 ≤ k
  fr : ∀ j, j < s.2.length → 0 ≤ (s.2.getD j dF).base ∧ (s.2.getD j dF).base ≤ k ∧ 0 ≤ (s.2.getD j dF).res ∧ (s.2.getD j dF).res ≤ 1
structure OkC (c : Ctx) : Prop where
  own : 0 ≤ c.own ∧ c.own ≤ 1
  sg : ∀ j, j < c.nf → 0 ≤ c.sp j ∧ c.sp j ≤ 60 ∧ 0 ≤ c.sr j ∧ c.sr j ≤ 1
theorem Bnd.mono {k k' : Nat} {s : S2} (h : Bnd k s) (hk : k ≤ k') : Bnd k' s := ⟨h.lo, by have := h.hi; omega, fun j hj => by have := h.fr j hj; omega⟩
theorem Bnd.top {k : Nat} {s : S2} (h : Bnd k s) (hn : s.2.length ≠ 0) : 0 ≤ (topF s.2).base ∧ (topF s.2).base ≤ k ∧ 0 ≤ (topF s.2).res ∧ (topF s.2).res ≤ 1 := h.fr (s.2.length - 1) (by omega)
theorem bnd_set {k : Nat} {s : S2} (h : Bnd k s) (hn : s.2.length ≠ 0) (o : Int) (d : Bool) : Bnd k ((topF s.2).base, s.2.set (s.2.length - 1) ⟨o, (topF s.2).res, (topF s.2).base, d⟩) := by
  obtain ⟨a, b, x, y⟩ := h.top hn
  refine ⟨a, b, fun j hj => ?_⟩
  rw [List.length_set] at hj
  by_cases e : j = s.2.length - 1
  · subst e
    simp only [List.getD_eq_getElem?_getD, List.getElem?_set_self hj, Option.getD_some]
    exact ⟨a, b, x, y⟩
  · simp only [List.getD_eq_getElem?_getD, List.getElem?_set_ne (fun e' => e e'.symm)]
    have := h.fr j hj
    rw [List.getD_eq_getElem?_getD] at this
    exact this
theorem leave_bnd {k : Nat} {s s' : S2} {n : Int} (h : Bnd k s) (hn : s.2.length ≠ 0) (e : leave n s = some s') : Bnd k s' ∧ s'.2.length = s.2.length := by
  unfold leave at e
  split at e
  · cases e
    exact ⟨bnd_set h hn _ _, by simp⟩
  · cases e
theorem exch_bnd {k : Nat} {s s' : S2} {n p : Int} (h : Bnd k s) (hn : s.2.length ≠ 0) (hp : 0 ≤ p) (hp1 : p ≤ 1) (e : exch n p s = some s') : Bnd (k + 1) s' ∧ s'.2 = s.2 ∧ (s'.1 ≤ s.1 + p) := by
  unfold exch at e
  split at e
  · cases e
    obtain ⟨a, b, x, y⟩ := h.top hn
    obtain ⟨t1, t2, t3⟩ := tk_le n.toNat s.1 (topF s.2).base (topF s.2).dead
    have hl := h.lo
    have hh := h.hi
    refine ⟨⟨?_, ?_, (h.mono (Nat.le_succ k)).fr⟩, rfl, ?_⟩
    · show 0 ≤ _ + p
      by_cases q : (topF s.2).base ≤ s.1
      · have := t2 q; omega
      · have := t3 (by omega); omega
    · show _ + p ≤ ((k + 1 : Nat) : Int); omega
    · show _ + p ≤ _; omega
  · cases e
theorem turn_bnd {k : Nat} {s s' : S2} (h : Bnd k s) (hn : s.2.length ≠ 0) (e : turn s = some s') : Bnd k s' ∧ s'.2.length = s.2.length := by
  unfold turn at e
  split at e
  · cases e
    exact ⟨bnd_set h hn _ _, by simp⟩
  · cases e
theorem ends_base {s : S2} (h : ends s = true) : (tk (topF s.2).res.toNat s.1 (topF s.2).base (topF s.2).dead).2 = true ∧ (tk (topF s.2).res.toNat s.1 (topF s.2).base (topF s.2).dead).1 = (topF s.2).base := by
  unfold ends at h
  simpa using h
theorem close_bnd {k : Nat} {s s' : S2} (h : Bnd k s) (hn : s.2.length ≠ 0) (e : close s = some s') : Bnd (k + 1) s' ∧ s'.2.length = s.2.length - 1 := by
  unfold close at e
  split at e
  · cases e
    obtain ⟨a, b, x, y⟩ := h.top hn
    refine ⟨⟨by show 0 ≤ _ + _; omega, by show _ + _ ≤ ((k + 1 : Nat) : Int); omega, fun j hj => ?_⟩, by simp⟩
    have hj' : j < s.2.length - 1 := by simp at hj; omega
    have := (h.mono (Nat.le_succ k)).fr j (by omega)
    rw [List.getD_eq_getElem?_getD] at this ⊢
    rw [List.getElem?_take, if_pos hj']
    exact this
  · cases e
theorem opens_bnd {k : Nat} {s : S2} {o a : Int} (h : Bnd k s) (h0 : 0 ≤ a) (h1 : a ≤ 1) : Bnd k (opens o a s) ∧ (opens o a s).2.length = s.2.length + 1 := by
  refine ⟨⟨h.lo, h.hi, fun j hj => ?_⟩, by simp [opens]⟩
  simp only [opens, List.length_append, List.length_singleton] at hj ⊢
  by_cases e : j < s.2.length
  · rw [List.getD_eq_getElem?_getD, List.getElem?_append_left e, ← List.getD_eq_getElem?_getD]
    exact h.fr j e
  · obtain rfl : j = s.2.length := by omega
    rw [List.getD_eq_getElem?_getD, List.getElem?_append_right (Nat.le_refl _)]
    simp
    exact ⟨h.lo, h.hi, h0, h1⟩
theorem brT_bnd {k : Nat} {s : S2} (h : Bnd k s) {j : Nat} (hj : j < s.2.length) : 0 ≤ brT (s.2.getD j dF) ∧ brT (s.2.getD j dF) ≤ 1 := by
  obtain ⟨_, _, x, y⟩ := h.fr j hj
  unfold brT
  split <;> omega
end Go.Proofs.YtdaffcbamnpjfaaGreatDoor.PlainValid
