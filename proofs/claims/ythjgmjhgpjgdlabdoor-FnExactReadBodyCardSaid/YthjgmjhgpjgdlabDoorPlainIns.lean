/-
  Reading instructions from the beginning of a list of bytes, in plain words.
-/
import Derived.Test.YthjgmjhgpjgdlabDoorPlainRd
import Derived.Test.YthjgmjhgpjgdlabDoorPlainAll
namespace Go.Proofs.YthjgmjhgpjgdlabDoor.PlainIns
open Go.RowKit PlainOps PlainNum PlainLeb PlainGet PlainRd PlainShape InsCalls PlainAll

/-- What stands behind operation o: A, B and how many bytes they take. -/
def rdTail (o : Int) (r : List UInt8) : Option (Int × Int × Nat) :=
  if kd o = 1 then (match r with
    | [] => none
    | x :: _ => if x = 64 then some (0, 0, 1) else if x = 127 then some (1, 0, 1) else none)
  else if kd o = 2 then (match gU r with
    | none => none
    | some (n, k) => some ((n : Int), 0, k))
  else if kd o = 3 then (match gU r with
    | none => none
    | some (n, k) => match gU (r.drop k) with
      | none => none
      | some (m, j) => some ((m : Int), (n : Int), k + j))
  else if kd o = 4 then (match gS r with
    | none => none
    | some (n, k) => some (n, 0, k))
  else if o = 63 ∨ o = 64 then (match r with
    | [] => none
    | x :: _ => if x = 0 then some (0, 0, 1) else none)
  else some (0, 0, 0)
/-- An instruction, and how many bytes it takes. -/
def rdIns : List UInt8 → Option (I3 × Nat)
  | [] => none
  | u :: r => if opNm (u.toNat : Int) = ⟨#[]⟩ then none else match rdTail (u.toNat : Int) r with
    | none => none
    | some (a, b, k) => some (((u.toNat : Int), a, b), k + 1)
theorem rdTail_le {o : Int} {r : List UInt8} {a b : Int} {k : Nat} (h : rdTail o r = some (a, b, k)) : k ≤ r.length ∧ -34359738368 ≤ a ∧ a < 34359738368 ∧ 0 ≤ b ∧ b < 34359738368 := by
  unfold rdTail at h
  split at h
  · cases r with
    | nil => cases h
    | cons x r =>
      simp only at h
      split at h
      · simp only [Option.some.injEq, Prod.mk.injEq] at h; simp; omega
      · split at h
        · simp only [Option.some.injEq, Prod.mk.injEq] at h; simp; omega
        · cases h
  · split at h
    · cases hg : gU r with
      | none => rw [hg] at h; cases h
      | some p =>
        obtain ⟨n, j⟩ := p
        have := gU_le hg
        rw [hg] at h
        simp only [Option.some.injEq, Prod.mk.injEq] at h
        omega
    · split at h
      · cases hg : gU r with
        | none => rw [hg] at h; cases h
        | some p =>
          obtain ⟨n, j⟩ := p
          have h1 := gU_le hg
          rw [hg] at h
          simp only at h
          cases hg2 : gU (r.drop j) with
          | none => rw [hg2] at h; cases h
          | some p =>
            obtain ⟨m, i⟩ := p
            have h2 := gU_le hg2
            rw [List.length_drop] at h2
            rw [hg2] at h
            simp only [Option.some.injEq, Prod.mk.injEq] at h
            omega
      · split at h
        · cases hg : gS r with
          | none => rw [hg] at h; cases h
          | some p =>
            obtain ⟨n, j⟩ := p
            have := gS_le hg
            rw [hg] at h
            simp only [Option.some.injEq, Prod.mk.injEq] at h
            omega
        · split at h
          · cases r with
            | nil => cases h
            | cons x r =>
              simp only at h
              split at h
              · simp only [Option.some.injEq, Prod.mk.injEq] at h; simp; omega
              · cases h
          · simp only [Option.some.injEq, Prod.mk.injEq] at h; omega
theorem rdIns_le {bs : List UInt8} {i : I3} {k : Nat} (h : rdIns bs = some (i, k)) : 0 < k ∧ k ≤ bs.length := by
  cases bs with
  | nil => cases h
  | cons u r =>
    rw [rdIns] at h
    split at h
    · cases h
    · cases ht : rdTail (u.toNat : Int) r with
      | none => rw [ht] at h; cases h
      | some p =>
        obtain ⟨a, b, j⟩ := p
        have := rdTail_le ht
        rw [ht] at h
        simp only [Option.some.injEq, Prod.mk.injEq] at h
        rw [List.length_cons]
        omega
/-- All that a reader reads, as long as there are bytes. -/
def rdW (rd : List UInt8 → Option (I3 × Nat)) : Nat → List UInt8 → Option (List I3)
  | 0, [] => some []
  | 0, _ :: _ => none
  | _ + 1, [] => some []
  | f + 1, u :: r => match rd (u :: r) with
    | none => none
    | some (i, k) => match rdW rd f ((u :: r).drop k) with
      | none => none
      | some l => some (i :: l)
theorem rdW_nil (rd : List UInt8 → Option (I3 × Nat)) (f : Nat) : rdW rd f [] = some [] := by cases f <;> rfl
theorem rdW_no {rd : List UInt8 → Option (I3 × Nat)} {f : Nat} {bs : List UInt8} (h0 : bs ≠ []) (h : rd bs = none) : rdW rd f bs = none := by
  cases bs with
  | nil => exact absurd rfl h0
  | cons u r =>
    cases f with
    | zero => rfl
    | succ f => rw [rdW, h]
theorem rdW_yes {rd : List UInt8 → Option (I3 × Nat)} {f : Nat} {bs : List UInt8} {i : I3} {k : Nat} (h0 : bs ≠ []) (h : rd bs = some (i, k)) : rdW rd (f + 1) bs = (rdW rd f (bs.drop k)).map (i :: ·) := by
  cases bs with
  | nil => exact absurd rfl h0
  | cons u r =>
    rw [rdW, h]
    show (match rdW rd f ((u :: r).drop k) with
      | none => none
      | some l => some (i :: l)) = _
    generalize rdW rd f ((u :: r).drop k) = x
    cases x <;> rfl
/-- All instructions. -/
def rdAll (f : Nat) (bs : List UInt8) : Option (List I3) := rdW rdIns f bs
theorem rdAll_nil (f : Nat) : rdAll f [] = some [] := rdW_nil _ f
theorem rdAll_no {f : Nat} {bs : List UInt8} (h0 : bs ≠ []) (h : rdIns bs = none) : rdAll f bs = none := rdW_no h0 h
theorem rdAll_yes {f : Nat} {bs : List UInt8} {i : I3} {k : Nat} (h : rdIns bs = some (i, k)) : rdAll (f + 1) bs = (rdAll f (bs.drop k)).map (i :: ·) := rdW_yes (fun e => by subst e; cases h) h
/-- The list that was read so far, and what the rest makes. -/
def joinR (l : List I3) (x : Option (List I3)) : Option (List I3) := x.map (l ++ ·)
theorem joinR_step (l : List I3) (i : I3) (x : Option (List I3)) : joinR l (x.map (i :: ·)) = joinR (l ++ [i]) x := by
  cases x <;> simp [joinR]
theorem joinR_none (l : List I3) : joinR l none = none := rfl
end Go.Proofs.YthjgmjhgpjgdlabDoor.PlainIns
