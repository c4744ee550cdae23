/-
  Bodies as texts, in plain words.
-/
import Derived.Test.YtjbhelcdakhjbaaDoorInsImpl
import Derived.Test.YtjbhelcdakhjbaaDoorPlainAll
import Derived.Test.YtjbhelcdakhjbaaDoorNumTextLaw
import Derived.Lib.Join
namespace Go.Proofs.YtjbhelcdakhjbaaDoor.PlainBody
open Go.RowKit PlainOps NameCalls PlainNum InsCalls PlainShape PlainAll

def nmL (o : Int) : List UInt8 := if 0 ≤ o ∧ o < 121 then opTab.getD o.toNat [] else []
theorem opNm_tx (o : Int) : opNm o = tx (nmL o) := by
  unfold opNm nmL
  split <;> rfl
theorem nmL_len (o : Int) : (nmL o).length ≤ 20 := by
  unfold nmL
  split
  · exact getD_small (by decide +kernel) _
  · exact Nat.zero_le _
def numL (a : Int) : List UInt8 := Lib.itoa (wrap32 a)
theorem numL_len (a : Int) : (numL a).length ≤ 21 := by
  have h := wrap32_lo a
  unfold numL
  by_cases hneg : wrap32 a < 0
  · obtain ⟨u, hu⟩ : ∃ u : Nat, wrap32 a = -(u : Int) := ⟨(-wrap32 a).toNat, by omega⟩
    rw [hu, Lib.itoa_neg u (by omega), List.length_cons, Lib.decDigits_length]
    have := Lib.nDigits_le20 u (by omega)
    omega
  · obtain ⟨u, hu⟩ : ∃ u : Nat, wrap32 a = (u : Int) := ⟨(wrap32 a).toNat, by omega⟩
    rw [hu, Lib.itoa_nonneg u, Lib.decDigits_length]
    have := Lib.nDigits_le20 u (by omega)
    omega
/-- The text of an instruction. -/
def insL (o a b : Int) : List UInt8 := nmL o ++ (if kd o = 0 then [] else 32 :: numL a) ++ (if kd o = 3 then 32 :: numL b else [])
theorem insL_len (o a b : Int) : (insL o a b).length ≤ 64 := by
  unfold insL
  have h1 := nmL_len o
  have h2 := numL_len a
  have h3 := numL_len b
  rw [List.length_append, List.length_append]
  split <;> split <;> simp <;> omega
def insAt (l : List I3) (k : Nat) : List UInt8 := insL (oAt l k) (aAt l k) (bAt l k)
/-- The text of the first k instructions. -/
def bodyT (l : List I3) : Nat → List UInt8
  | 0 => []
  | k + 1 => bodyT l k ++ (if k = 0 then [] else [59]) ++ insAt l k
theorem bodyT_len (l : List I3) : ∀ k, (bodyT l k).length ≤ 65 * k
  | 0 => Nat.le_refl _
  | k + 1 => by
    have h1 := bodyT_len l k
    have h2 := insL_len (oAt l k) (aAt l k) (bAt l k)
    rw [bodyT, List.length_append, List.length_append]
    unfold insAt
    split <;> simp <;> omega
def bodyText (l : List I3) : ByteArray := if allF l l.length 0 = true then tx (bodyT l l.length) else ⟨#[]⟩
theorem tx_size (l : List UInt8) : (tx l).size = l.length := by simp [tx, ByteArray.size]
theorem join_snoc (xs : List (List UInt8)) (y sep : List UInt8) (h : xs ≠ []) : Lib.join (xs ++ [y]) sep = Lib.join xs sep ++ sep ++ y := by
  cases xs with
  | nil => exact absurd rfl h
  | cons x r => rw [List.cons_append, Lib.join_cons, Lib.join_cons]; simp [Lib.joinTail]
/-- What Join makes of the texts. -/
theorem join_body (l : List I3) : ∀ k, Lib.join ((List.range k).map fun j => insAt l j) [59] = bodyT l k
  | 0 => rfl
  | 1 => by simp [Lib.join_one, bodyT]
  | k + 2 => by
    rw [List.range_succ, List.map_append, List.map_cons, List.map_nil, join_snoc _ _ _ (by simp), join_body l (k + 1)]
    show _ = bodyT l (k + 1) ++ (if k + 1 = 0 then [] else [59]) ++ insAt l (k + 1)
    rw [if_neg (by omega)]
end Go.Proofs.YtjbhelcdakhjbaaDoor.PlainBody
