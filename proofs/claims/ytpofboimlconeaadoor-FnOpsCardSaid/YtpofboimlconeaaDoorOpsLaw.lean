/-
  The law of operations: each has a name of its own.
-/
import Derived.Test.YtpofboimlconeaaDoorNameCalls
import Derived.Test.YtpofboimlconeaaDoorDraws
namespace Go.Proofs.YtpofboimlconeaaDoor.OpsLaw
open Go.RowKit PlainOps NameCalls PlainNum NumCalls Draws

/-- No two operations have one name. -/
theorem tab_inj : ∀ i : Nat, i < 121 → ∀ j : Nat, j < 121 → opTab.getD i [] ≠ [] → opTab.getD i [] = opTab.getD j [] → i = j := by decide +kernel
theorem tx_inj {a b : List UInt8} (h : tx a = tx b) : a = b := by
  have := congrArg (fun x : ByteArray => x.data.toList) h
  simpa [tx] using this
theorem tx_nil {a : List UInt8} (h : ¬ tx a = ⟨#[]⟩) : a ≠ [] := fun e => h (by rw [e]; rfl)
/-- An operation's name is read again. -/
theorem nmOp_opNm (op : Int) (h : ¬ opNm op = ⟨#[]⟩) : nmOp (opNm op) = op := by
  by_cases hin : 0 ≤ op ∧ op < 121
  · obtain ⟨k, rfl⟩ : ∃ k : Nat, op = (k : Int) := ⟨op.toNat, by omega⟩
    unfold nmOp
    rw [if_neg h]
    rcases nmFrom_is (s := opNm (k : Int)) 121 0 with ⟨_, h2⟩ | ⟨j, _, h2, h3, h4⟩
    · exact absurd rfl (h2 k (by omega) (by omega))
    · rw [h3]
      rw [opNm_in j (by omega), opNm_in k (by omega)] at h4
      rw [opNm_in k (by omega)] at h
      rw [tab_inj k (by omega) j (by omega) (tx_nil h) (tx_inj h4.symm)]
  · exact absurd (opNm_out hin) h
theorem drawOpName {B cap len : Nat} {a : Option Addr} {w0 w : World} (hs : Src B w0 a len) (hB : B ≤ w0.heap.size) (hb : Below B w0 w) :
    Calls Tryd.prog 7 #[.slice a len cap] w fun e w' => ∃ x : Int, e = .returned (.int .i64 x) ∧ Below B w0 w' := by
  go_enter Tryd.func7, Tryd.ntmps7
  go_wp2_with (first | (go_at_call 15; refine (newB hs hB ?_).mono ?_; assumption; rintro e w' ⟨blk, rfl, hst⟩) | (go_at_call 16; refine (belowS (B := B) (w0 := w0) _ ?_).mono ?_; assumption; rintro e w' ⟨x, rfl, x0, x1, hst⟩; replace x1 := x1 (by decide)) | (go_at_call 17; refine (rawS (B := B) (w0 := w0) ?_).mono ?_; assumption; rintro e w' ⟨x, rfl, hst⟩))
  all_goals (go_ret; exact ⟨_, rfl, And.right (by assumption)⟩)
set_option maxHeartbeats 2000000 in
theorem fnOps (a : Option Addr) (len cap : Nat) (w : World) (hs : Src w.heap.size w a len) (ht : Tab w) :
    Calls Tryd.prog 3 #[.slice a len cap] w fun e w' => e = .returned (.bool true) ∧ Below w.heap.size w w' := by
  have hl63 := hs.1
  have ht' : Hid (Tab w) := ht
  clear ht
  by_cases hbig : (1048576 : Int) < (len : Int)
  · go_enter Tryd.func3, Tryd.ntmps3
    go_wp2_with fail
    go_ret
    exact ⟨rfl, Below.refl _ _⟩
  · have hs' : Hid (Src w.heap.size w a len) := hs
    clear hs
    go_enter Tryd.func3, Tryd.ntmps3
    go_wp2_with (go_at_call 7; refine (drawOpName hs'.out (Nat.le_refl _) (Below.refl _ _)).mono ?_; rintro e w1 ⟨op, rfl, b1⟩)
    have h1 : Hid _ := fun u => spec_opName op u
    have h2 : Hid _ := fun u => impl_opName op u
    have h3 : Hid _ := fun u => impl_nameOp (opNm op) u
    by_cases h0 : opNm op = ⟨#[]⟩
    · rw [h0, show nmOp ⟨#[]⟩ = -1 from rfl] at h3
      rw [h0] at h1 h2
      clear h0
      go_wp2_with (first | (go_at_call 8; refine (h2.out _ (ht'.out.later b1)).mono ?_; rintro e w2 ⟨rfl, rfl⟩) | (go_at_call 9; refine (h1.out _).mono ?_; rintro e w3 ⟨rfl, b3⟩; replace b3 := b1.trans (b3.mono b1.size)) | (go_at_call 10; refine (h3.out _ (ht'.out.later b3)).mono ?_; rintro e w4 ⟨rfl, rfl⟩))
      go_ret
      exact ⟨rfl, b3⟩
    · rw [nmOp_opNm op h0] at h3
      obtain ⟨n1, n2⟩ := str_nil h0
      clear h0
      generalize opNm op = T at *
      go_wp2_with (first | (go_at_call 8; refine (h2.out _ (ht'.out.later b1)).mono ?_; rintro e w2 ⟨rfl, rfl⟩) | (go_at_call 9; refine (h1.out _).mono ?_; rintro e w3 ⟨rfl, b3⟩; replace b3 := b1.trans (b3.mono b1.size)) | (go_at_call 10; refine (h3.out _ (ht'.out.later b3)).mono ?_; rintro e w4 ⟨rfl, rfl⟩))
      go_ret
      exact ⟨rfl, b3⟩
end Go.Proofs.YtpofboimlconeaaDoor.OpsLaw
