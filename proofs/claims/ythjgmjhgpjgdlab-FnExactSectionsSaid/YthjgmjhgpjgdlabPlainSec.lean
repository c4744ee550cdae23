/-
  The sections of a module's bytes, in plain words.
-/
import Derived.Test.YthjgmjhgpjgdlabPlainRd
namespace Go.Proofs.Ythjgmjhgpjgdlab.PlainSec
open Go.RowKit PlainNum PlainLeb PlainGet PlainRd

/-- What every module's bytes begin with. -/
def hd : List UInt8 := [0, 97, 115, 109, 1, 0, 0, 0]
/-- The numbers of sections. -/
def isSec (n : Int) : Bool := n == 1 || (n == 2 || (n == 3 || (n == 5 || (n == 6 || (n == 7 || (n == 10 || n == 11))))))
/-- One section: its number, and how many bytes it takes in all. -/
def rdSec (last : Int) : List UInt8 → Option (Int × Nat)
  | [] => none
  | u :: r => if isSec (u.toNat : Int) = true ∧ last < (u.toNat : Int) then match gU r with
      | none => none
      | some (n, k) => if n ≤ r.length - k then some ((u.toNat : Int), 1 + k + n) else none
    else none
/-- The numbers of all sections. -/
def secs : Nat → Int → List UInt8 → Option (List Int)
  | 0, _, [] => some []
  | 0, _, _ :: _ => none
  | _ + 1, _, [] => some []
  | f + 1, last, u :: r => match rdSec last (u :: r) with
    | none => none
    | some (n, k) => match secs f n ((u :: r).drop k) with
      | none => none
      | some l => some (n :: l)
theorem secs_nil (f : Nat) (last : Int) : secs f last [] = some [] := by cases f <;> rfl
theorem secs_no {f : Nat} {last : Int} {bs : List UInt8} (h0 : bs ≠ []) (h : rdSec last bs = none) : secs f last bs = none := by
  cases bs with
  | nil => exact absurd rfl h0
  | cons u r =>
    cases f with
    | zero => rfl
    | succ f => rw [secs, h]
theorem secs_yes {f : Nat} {last : Int} {bs : List UInt8} {n : Int} {k : Nat} (h : rdSec last bs = some (n, k)) : secs (f + 1) last bs = (secs f n (bs.drop k)).map (n :: ·) := by
  cases bs with
  | nil => cases h
  | cons u r =>
    rw [secs, h]
    show (match secs f n ((u :: r).drop k) with
      | none => none
      | some l => some (n :: l)) = _
    generalize secs f n ((u :: r).drop k) = x
    cases x <;> rfl
theorem rdSec_yes {last : Int} {u : UInt8} {r : List UInt8} {n k : Nat} (h1 : isSec (u.toNat : Int) = true) (h2 : last < (u.toNat : Int)) (hg : gU r = some (n, k)) (hn : n ≤ r.length - k) : rdSec last (u :: r) = some ((u.toNat : Int), 1 + k + n) := by
  rw [rdSec, if_pos ⟨h1, h2⟩, hg]
  exact if_pos hn
theorem rdSec_no1 {last : Int} {u : UInt8} {r : List UInt8} (h : ¬ (isSec (u.toNat : Int) = true ∧ last < (u.toNat : Int))) : rdSec last (u :: r) = none := by rw [rdSec, if_neg h]
theorem rdSec_no2 {last : Int} {u : UInt8} {r : List UInt8} (hg : gU r = none) : rdSec last (u :: r) = none := by
  rw [rdSec, hg]
  split <;> rfl
theorem rdSec_no3 {last : Int} {u : UInt8} {r : List UInt8} {n k : Nat} (hg : gU r = some (n, k)) (hn : ¬ n ≤ r.length - k) : rdSec last (u :: r) = none := by
  rw [rdSec, hg]
  split
  · exact if_neg hn
  · rfl
def joinS (l : List Int) (x : Option (List Int)) : Option (List Int) := x.map (l ++ ·)
theorem joinS_step (l : List Int) (i : Int) (x : Option (List Int)) : joinS l (x.map (i :: ·)) = joinS (l ++ [i]) x := by
  cases x <;> simp [joinS]
/-- What Sections answers. -/
def ansSec (bs : List UInt8) : Option (List Int) := if bs.take 8 = hd then secs (bs.drop 8).length 0 (bs.drop 8) else none
end Go.Proofs.Ythjgmjhgpjgdlab.PlainSec
