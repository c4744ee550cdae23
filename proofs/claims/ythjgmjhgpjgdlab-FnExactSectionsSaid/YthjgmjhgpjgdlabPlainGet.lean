/-
  Plain facts on reading pieces of seven bits, no program in sight: which bytes are taken, what they make together.
-/
import Derived.Test.YthjgmjhgpjgdlabPlainLeb
namespace Go.Proofs.Ythjgmjhgpjgdlab.PlainGet
open Go.RowKit PlainNum PlainLeb

/-- What pieces make together. -/
def val : List UInt8 → Nat
  | [] => 0
  | u :: r => u.toNat % 128 + 128 * val r
/-- The bytes of the number that begins a list: up to the first below 128, no more than k. -/
def took : Nat → List UInt8 → List UInt8
  | 0, _ => []
  | _ + 1, [] => []
  | k + 1, u :: r => if u.toNat < 128 then [u] else u :: took k r
/-- The last byte; 0 where there is none. -/
def lst (t : List UInt8) : Nat := (t.getLast?.getD 0).toNat
/-- It ends. -/
abbrev fin (t : List UInt8) : Prop := 0 < t.length ∧ lst t < 128
abbrev okU (t : List UInt8) : Prop := fin t ∧ (t.length < 5 ∨ lst t ≤ 15)
abbrev okS (t : List UInt8) : Prop := fin t ∧ (t.length < 5 ∨ lst t ≤ 7 ∨ 120 ≤ lst t)
def sval (t : List UInt8) : Int := if 64 ≤ lst t then (val t : Int) - 128 ^ t.length else (val t : Int)

theorem val_snoc (pre : List UInt8) (u : UInt8) : val (pre ++ [u]) = val pre + u.toNat % 128 * 128 ^ pre.length := by
  induction pre with
  | nil => simp [val]
  | cons p r ih =>
    rw [List.cons_append, val, ih, val, List.length_cons, Nat.pow_succ, Nat.mul_add, Nat.mul_left_comm 128, Nat.mul_comm 128 (128 ^ r.length)]
    omega
theorem val_lt (t : List UInt8) : val t < 128 ^ t.length := by
  induction t with
  | nil => simp [val]
  | cons u r ih => rw [val, List.length_cons, Nat.pow_succ]; omega
theorem lst_snoc (pre : List UInt8) (u : UInt8) : lst (pre ++ [u]) = u.toNat := by simp [lst]
theorem took_length : ∀ (k : Nat) (l : List UInt8), (took k l).length ≤ k
  | 0, _ => by simp [took]
  | _ + 1, [] => by simp [took]
  | k + 1, u :: r => by
    rw [took]
    split
    · simp
    · have := took_length k r; simp; omega
theorem took_small (k : Nat) {u : UInt8} (r : List UInt8) (h : u.toNat < 128) : took (k + 1) (u :: r) = [u] := by rw [took, if_pos h]
theorem took_big (k : Nat) {u : UInt8} (r : List UInt8) (h : ¬ u.toNat < 128) : took (k + 1) (u :: r) = u :: took k r := by rw [took, if_neg h]
theorem took_nil (k : Nat) : took k [] = [] := by cases k <;> rfl
/-- Bytes that go on never end. -/
theorem not_fin {pre : List UInt8} (h : ∀ u ∈ pre, 128 ≤ u.toNat) : ¬ fin pre := by
  rintro ⟨h0, h1⟩
  rcases List.eq_nil_or_concat pre with rfl | ⟨q, u, rfl⟩
  · simp at h0
  · rw [List.concat_eq_append] at h h1
    rw [lst_snoc] at h1
    have := h u (by simp)
    omega
theorem drop_cons {bs : List UInt8} {j : Nat} (h : j < bs.length) : bs.drop j = bs[j]?.getD 0 :: bs.drop (j + 1) := by
  rw [List.drop_eq_getElem_cons h]; simp [h]
/-- The bytes of the number at a place. -/
def tk (bs : List UInt8) (at' : Int) : List UInt8 := took 5 (bs.drop at'.toNat)
def nought : Value := .tuple #[.int .i64 0, .int .i64 0, .bool false]
/-- What GetU answers. -/
def ansU (bs : List UInt8) (at' : Int) : Value :=
  if 0 ≤ at' ∧ at' < bs.length ∧ okU (tk bs at') then .tuple #[.int .i64 (val (tk bs at') : Int), .int .i64 (at' + (tk bs at').length), .bool true] else nought
/-- What GetS answers. -/
def ansS (bs : List UInt8) (at' : Int) : Value :=
  if 0 ≤ at' ∧ at' < bs.length ∧ okS (tk bs at') then .tuple #[.int .i64 (sval (tk bs at')), .int .i64 (at' + (tk bs at').length), .bool true] else nought
theorem ansU_yes {bs : List UInt8} {at' : Int} (h : 0 ≤ at' ∧ at' < bs.length ∧ okU (tk bs at')) : ansU bs at' = .tuple #[.int .i64 (val (tk bs at') : Int), .int .i64 (at' + (tk bs at').length), .bool true] := if_pos h
theorem ansU_no {bs : List UInt8} {at' : Int} (h : ¬ (0 ≤ at' ∧ at' < bs.length ∧ okU (tk bs at'))) : ansU bs at' = nought := if_neg h
theorem ansS_yes {bs : List UInt8} {at' : Int} (h : 0 ≤ at' ∧ at' < bs.length ∧ okS (tk bs at')) : ansS bs at' = .tuple #[.int .i64 (sval (tk bs at')), .int .i64 (at' + (tk bs at').length), .bool true] := if_pos h
theorem ansS_no {bs : List UInt8} {at' : Int} (h : ¬ (0 ≤ at' ∧ at' < bs.length ∧ okS (tk bs at'))) : ansS bs at' = nought := if_neg h
theorem tk_length (bs : List UInt8) (at' : Int) : (tk bs at').length ≤ 5 := took_length _ _
theorem lst_lt (t : List UInt8) : lst t < 256 := UInt8.toNat_lt _
theorem sval_hi {t : List UInt8} (h : 64 ≤ lst t) : sval t = (val t : Int) - 128 ^ t.length := if_pos h
theorem sval_lo {t : List UInt8} (h : ¬ 64 ≤ lst t) : sval t = (val t : Int) := if_neg h
theorem andNot_byte (u : UInt8) : bits .andNot .u8 (u.toNat : Int) 128 = (u.toNat : Int) % 128 := by
  have h := u.toNat_lt
  have := andNot_u8 (a := (u.toNat : Int))
  rwa [show (u.toNat : Int) % 256 = (u.toNat : Int) by omega] at this
theorem or_natU64 (x y : Int) : bits .or .u64 x y = IntKind.u64.wrap (((x % 18446744073709551616).toNat ||| (y % 18446744073709551616).toNat : Nat) : Int) := by
  show IntKind.u64.wrap ((BitVec.ofInt 64 x ||| BitVec.ofInt 64 y).toNat : Int) = _
  rw [BitVec.toNat_or, BitVec.toNat_ofInt, BitVec.toNat_ofInt]; rfl
theorem or_apart {V Z i C : Nat} (hC : C = 2 ^ i) (hV : V < C) (hb : C * Z + V < 18446744073709551616) : bits .or .u64 (V : Int) ((Z : Int) * (C : Int)) = (V : Int) + (Z : Int) * (C : Int) := by
  have e1 : (V : Int) % 18446744073709551616 = (V : Int) := Int.emod_eq_of_lt (by omega) (by omega)
  have e2 : ((Z : Int) * (C : Int)) = ((C * Z : Nat) : Int) := by rw [Nat.mul_comm]; simp
  have e3 : ((C * Z : Nat) : Int) % 18446744073709551616 = ((C * Z : Nat) : Int) := Int.emod_eq_of_lt (by omega) (by omega)
  have e4 : V ||| C * Z = C * Z + V := by
    rw [hC] at hV ⊢
    rw [Nat.or_comm, ← Nat.two_pow_add_eq_or_of_lt hV]
  rw [or_natU64, e2, e1, e3, Int.toNat_natCast, Int.toNat_natCast, e4, IntKind.wrap_u64]
  omega
theorem sval_eq {t : List UInt8} (h : fin t) : sval t = if 64 * 128 ^ (t.length - 1) ≤ val t then (val t : Int) - 128 ^ t.length else (val t : Int) := by
  obtain ⟨h0, h1⟩ := h
  rcases List.eq_nil_or_concat t with rfl | ⟨q, u, rfl⟩
  · simp at h0
  · rw [List.concat_eq_append] at h0 h1 ⊢
    have hv := val_snoc q u
    have hl := val_lt q
    rw [lst_snoc] at h1
    rw [Nat.mod_eq_of_lt h1] at hv
    have hlen : (q ++ [u]).length - 1 = q.length := by simp
    unfold sval
    rw [lst_snoc, hlen]
    by_cases h64 : 64 ≤ u.toNat
    · have := Nat.mul_le_mul_right (128 ^ q.length) h64
      rw [if_pos h64, if_pos (by omega)]
    · have h63 : u.toNat ≤ 63 := by omega
      have := Nat.mul_le_mul_right (128 ^ q.length) h63
      rw [if_neg h64, if_neg (by omega)]
end Go.Proofs.Ythjgmjhgpjgdlab.PlainGet
