/-
  The bytes of instructions in plain words.
-/
import Derived.Test.YtffngjgjhialnaaGreatDoorPlainAll
import Derived.Test.YtffngjgjhialnaaGreatDoorPlainLeb
namespace Go.Proofs.YtffngjgjhialnaaGreatDoor.PlainBytes
open Go.RowKit PlainOps PlainNum PlainShape InsCalls PlainAll PlainLeb

/-- A plain number in pieces; a number with a sign. -/
def uv (n : Int) : List UInt8 := Lib.uvarint (n % 4294967296).toNat
def sv (n : Int) : List UInt8 := sleb 5 (wrap32 n)
theorem uv_len (n : Int) : (uv n).length ≤ 10 := Lib.uvarint_length64 (x := (n % 4294967296).toNat) (by omega)
theorem uv_pos (n : Int) : 0 < (uv n).length := Lib.uvarint_pos _
theorem sv_len (n : Int) : (sv n).length ≤ 5 := sleb_length 5 _
theorem sv_pos (n : Int) : 0 < (sv n).length := sleb_pos 4 _
/-- The byte of a number. -/
def by1 (o : Int) : UInt8 := (o % 256).toNat.toUInt8
theorem by1_is (o : Int) : ((by1 o).toNat : Int) = o % 256 := by
  unfold by1
  rw [toU8 (by omega)]
  omega
/-- What stands behind an operation. -/
def tailB (o a b : Int) : List UInt8 :=
  if kd o = 1 then [if a = 1 then 127 else 64] else if kd o = 2 then uv a else if kd o = 3 then uv b ++ uv a else if kd o = 4 then sv a else if o = 63 ∨ o = 64 then [0] else []
def insB (o a b : Int) : List UInt8 := by1 o :: tailB o a b
theorem insB_len (o a b : Int) : (insB o a b).length ≤ 21 := by
  have h1 := uv_len a
  have h2 := uv_len b
  have h3 := sv_len a
  unfold insB tailB
  rw [List.length_cons]
  (repeat' split) <;> (try simp only [List.length_cons, List.length_nil, List.length_append]) <;> omega
def insBAt (l : List I3) (k : Nat) : List UInt8 := insB (oAt l k) (aAt l k) (bAt l k)
/-- The bytes of the first k instructions. -/
def bodyB (l : List I3) : Nat → List UInt8
  | 0 => []
  | k + 1 => bodyB l k ++ insBAt l k
theorem bodyB_len (l : List I3) : ∀ k, (bodyB l k).length ≤ 21 * k
  | 0 => by simp [bodyB]
  | k + 1 => by
    have := bodyB_len l k
    have h := insB_len (oAt l k) (aAt l k) (bAt l k)
    simp only [bodyB, insBAt, List.length_append]
    omega
def bodyBytes (l : List I3) : List UInt8 := if allF l l.length 0 = true then bodyB l l.length else []
theorem bodyBytes_len (l : List I3) : (bodyBytes l).length ≤ 21 * l.length := by
  unfold bodyBytes
  split
  · exact bodyB_len l _
  · simp
theorem tail1 {o a b : Int} (h : kd o = 1) (ha : a = 1) : insB o a b = [by1 o] ++ [127] := by unfold insB tailB; rw [if_pos h, if_pos ha]; rfl
theorem tail1' {o a b : Int} (h : kd o = 1) (ha : a ≠ 1) : insB o a b = [by1 o] ++ [64] := by unfold insB tailB; rw [if_pos h, if_neg ha]; rfl
theorem tail2 {o a b : Int} (h : kd o = 2) : insB o a b = [by1 o] ++ uv a := by unfold insB tailB; rw [if_neg (by omega), if_pos h]; rfl
theorem tail3 {o a b : Int} (h : kd o = 3) : insB o a b = ([by1 o] ++ uv b) ++ uv a := by unfold insB tailB; rw [if_neg (by omega), if_neg (by omega), if_pos h]; rfl
theorem tail4 {o a b : Int} (h : kd o = 4) : insB o a b = [by1 o] ++ sv a := by unfold insB tailB; rw [if_neg (by omega), if_neg (by omega), if_neg (by omega), if_pos h]; rfl
theorem tail0 {o a b : Int} (h : kd o = 0) (ho : o = 63 ∨ o = 64) : insB o a b = [by1 o] ++ [0] := by unfold insB tailB; rw [if_neg (by omega), if_neg (by omega), if_neg (by omega), if_neg (by omega), if_pos ho]; rfl
theorem tail0' {o a b : Int} (h : kd o = 0) (ho : ¬ (o = 63 ∨ o = 64)) : insB o a b = [by1 o] := by unfold insB tailB; rw [if_neg (by omega), if_neg (by omega), if_neg (by omega), if_neg (by omega), if_neg ho]
end Go.Proofs.YtffngjgjhialnaaGreatDoor.PlainBytes
