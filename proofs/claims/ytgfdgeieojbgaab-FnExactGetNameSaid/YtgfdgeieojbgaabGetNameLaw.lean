/-
  The exact law of GetName.
-/
import Derived.Test.YtgfdgeieojbgaabGetName
import Derived.Test.YtgfdgeieojbgaabNameRows
namespace Go.Proofs.Ytgfdgeieojbgaab.GetNameLaw
open Go.RowKit PlainNum PlainLeb PlainGet NumCalls ByteMem PutU PutULaw GetName NameRows

theorem ansN_form (bs : List UInt8) (p : Int) : ∃ (x : ByteArray) (y : Int) (c : Bool), ansN bs p = .tuple #[.string x, .int .i64 y, .bool c] := by
  unfold ansN
  split
  · exact ⟨_, _, _, rfl⟩
  · exact ⟨_, _, _, rfl⟩
set_option maxRecDepth 100000 in
set_option maxHeartbeats 4000000 in
theorem fnExactGetName (a : Option Addr) (len cap : Nat) (zs : List Int) (p : Int) (w : World)
    (h0 : (a = none ∧ len = 0 ∧ cap = 0 ∧ zs = []) ∨
      ∃ x, a = some x ∧ len ≤ cap ∧ cap ≤ maxLen ∧ zs.length = cap ∧ (∀ i, i < zs.length → w.cell? (x.add i) = some (.int .u8 (zs.getD i 0))) ∧ ∀ n ∈ zs, (Lit.int .u8 n).wf = true) :
    Calls Try.prog 4 #[.slice a len cap, .int .i64 p] w fun e w' => e = .returned (.bool true) ∧ Below w.heap.size w w' := by
  obtain ⟨bs, rfl, h, hl63⟩ := rdb_of_row h0
  clear h0
  by_cases hbig : (1048576 : Int) < (bs.length : Int)
  · go_enter Try.func4, Try.ntmps4
    go_wp2_with fail
    go_ret
    exact ⟨rfl, Below.refl _ _⟩
  · have hn : bs.length ≤ 1048576 := by omega
    obtain ⟨x, y, c, hans⟩ := ansN_form bs p
    go_enter Try.func4, Try.ntmps4
    go_wp2_with (go_at_call 6; refine (copyB w _ a cap bs h hn (Below.refl _ _)).mono ?_; rintro e w1 ⟨g1, rfl, hg1, k1, b1, c1⟩)
    go_wp2_with (go_at_call 11; refine (spec_getName _ _ _ bs p k1 (Nat.le_refl _) hn).mono ?_; rw [hans]; rintro e w' ⟨rfl, rfl⟩)
    go_wp2_with (go_at_call 6; refine (copyB w _ a cap bs h hn c1).mono ?_; rintro e w3 ⟨gx, rfl, hgx, kx, b3, c3⟩)
    go_wp2_with (go_at_call 12; refine (impl_getName _ _ _ bs p kx (Nat.le_refl _) hn).mono ?_; rw [hans]; rintro e w4 ⟨rfl, b4⟩)
    have c4 := c3.trans (b4.mono c3.size)
    have kx4 := kx.below b4
    go_wp2_with (go_at_call 6; refine (copyB w _ a cap bs h hn c4).mono ?_; rintro e w6 ⟨gt, rfl, hgt, kt, b6, c6⟩)
    have kx6 := kx4.below b6
    go_wp2_with (go_at_call 8; refine (eqB _ _ _ _ _ bs kx6 kt (by omega)).mono ?_; rintro e w7 ⟨rfl, m7, rfl⟩)
    go_ret
    exact ⟨rfl, below_drewN c6 m7⟩
end Go.Proofs.Ytgfdgeieojbgaab.GetNameLaw
