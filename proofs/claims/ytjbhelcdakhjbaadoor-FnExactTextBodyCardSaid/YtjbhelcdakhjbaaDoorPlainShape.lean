/-
  Lists of instructions in plain words: where what begins ends, where an if's else stands, which lists are rightly shaped.
-/
import Derived.KernelRfl
namespace Go.Proofs.YtjbhelcdakhjbaaDoor.PlainShape

/-- An instruction: its operation, A and B. -/
abbrev I3 := Int × Int × Int
/-- The operation at place k. -/
def oAt (l : List I3) (k : Nat) : Int := (l.getD k (0, 0, 0)).1
def aAt (l : List I3) (k : Nat) : Int := (l.getD k (0, 0, 0)).2.1
def bAt (l : List I3) (k : Nat) : Int := (l.getD k (0, 0, 0)).2.2
def bg (op : Int) : Bool := op == 2 || (op == 3 || op == 4)
/-- How many are open behind op. -/
def stp (d op : Int) : Int := if bg op then d + 1 else if op = 11 then d - 1 else d
def endF (l : List I3) : Nat → Nat → Int → Int
  | 0, _, _ => -1
  | f + 1, k, d => if stp d (oAt l k) = 0 then (k : Int) else endF l f (k + 1) (stp d (oAt l k))
def endOf (l : List I3) (at' : Int) : Int := if at' < 0 ∨ (l.length : Int) ≤ at' then -1 else if bg (oAt l at'.toNat) = false then -1 else endF l (l.length - at'.toNat) at'.toNat 0
theorem bg_ne {op : Int} (h : bg op = true) : op ≠ 11 := by
  intro e
  subst e
  cases h
theorem bg_cases (op : Int) : bg op = true ↔ op = 2 ∨ op = 3 ∨ op = 4 := by simp [bg]
theorem stp_bg {d op : Int} (h : bg op = true) : stp d op = d + 1 := if_pos h
theorem stp_end {d : Int} : stp d 11 = d - 1 := rfl
theorem stp_no {d op : Int} (h : bg op = false) (h1 : op ≠ 11) : stp d op = d := by
  unfold stp
  rw [h, if_neg (by decide), if_neg h1]
theorem endF_yes {l : List I3} {f k : Nat} {d d' : Int} (h : stp d (oAt l k) = d') (h0 : d' = 0) : endF l (f + 1) k d = (k : Int) := by
  rw [endF, h, if_pos h0]
theorem endF_no {l : List I3} {f k : Nat} {d d' : Int} (h : stp d (oAt l k) = d') (h0 : d' ≠ 0) : endF l (f + 1) k d = endF l f (k + 1) d' := by
  rw [endF, h, if_neg h0]
end Go.Proofs.YtjbhelcdakhjbaaDoor.PlainShape
