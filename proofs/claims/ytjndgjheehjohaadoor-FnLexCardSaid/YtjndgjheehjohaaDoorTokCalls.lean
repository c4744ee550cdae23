/-
  What the functions on single tokens answer when they are called: the law's copy and count, SignOf; a text is cloned.
-/
import Derived.Test.YtjndgjheehjohaaDoorMemTok
import Derived.Test.YtjndgjheehjohaaDoorShelf
namespace Go.Proofs.YtjndgjheehjohaaDoor.TokCalls
open Go.RowKit

/-- A token as a value. -/
abbrev tokV (k n : Int) (s : ByteArray) (a : Int) : Value := .agg #[.int .i64 k, .int .i64 n, .string s, .int .i64 a]
/-- The sign of a token. -/
def signOf (k : Int) (s : ByteArray) : ByteArray := if k = 3 then s else ⟨#[]⟩
theorem szTok (k n : Int) (s : ByteArray) (a l : Int) (w : World) (hl : s.size ≤ 9223372036854775807) (h0 : 0 ≤ l) (h1 : l ≤ 1048576) :
    Calls Tryd.prog 10 #[tokV k n s a, .int .i64 l] w fun e w' => ∃ r : Int, e = .returned (.int .i64 r) ∧ -1 ≤ r ∧ r ≤ l ∧ (0 ≤ r → s.size ≤ 1048576) ∧ (0 ≤ r → r = l - s.size) ∧ Below w.heap.size w w' := by
  by_cases h : l - (s.size : Int) < 0
  · go_enter Tryd.func10, Tryd.ntmps10
    go_wp2_with fail
    go_ret
    exact ⟨-1, rfl, by omega, by omega, by omega, by omega, (Below.refl _ _).alloc (Nat.le_refl _) _⟩
  · have h' : ¬ l - (s.size : Int) < 0 := h
    have h2 : 0 ≤ l - (s.size : Int) := by omega
    go_enter Tryd.func10, Tryd.ntmps10
    go_wp2_with fail
    go_ret
    exact ⟨l - (s.size : Int), rfl, by omega, by omega, by omega, by omega, (Below.refl _ _).alloc (Nat.le_refl _) _⟩
theorem clone (s : ByteArray) (w : World) (hlim : s.size ≤ 281474976710656) :
    Calls Tryd.prog 32 #[.string s] w fun e w' => e = .returned (.string s) ∧ Below w.heap.size w w' := by
  go_enter Tryd.func32, Tryd.ntmps32
  go_wp2_with (go_at_call 52; refine (Tryd.stringslite_Clone s _ hlim).mono ?_; rintro e w1 ⟨rfl, b1⟩)
  go_ret
  exact ⟨rfl, b1⟩
end Go.Proofs.YtjndgjheehjohaaDoor.TokCalls
