/-
  What the program's GetU and GetS answer when they are called: as the specification's.
-/
import Derived.Test.YthjgmjhgpjgdlabImplPieces
import Derived.BigQuiet
import Derived.Deep.RegionWith
import Derived.Deep.QuietTactic
namespace Go.Proofs.Ythjgmjhgpjgdlab.ImplGets
open Go.RowKit PlainNum PlainLeb PlainGet NumCalls ByteMem PutU ImplGet ImplPieces

theorem piecesAt (b off cap : Nat) (bs : List UInt8) (p : Int) (w : World) (hcap : bs.length ≤ cap) (hln : bs.length ≤ 4611686018427387904) (hb : b < w.heap.size)
    (hc : ∀ j, j < bs.length → w.cell? ⟨b, off + j, none⟩ = some (.int .u8 ((bs[j]?.getD 0).toNat : Int))) :
    Calls Try.prog 30 #[.slice (some ⟨b, off, none⟩) bs.length cap, .int .i64 p] w fun e w' =>
      e = .returned (.tuple #[.agg #[.int .u64 (val (come bs p) : Int), .int .i64 ((come bs p).length : Int), .int .u8 (lst (come bs p) : Int)], .bool (decide (fin (come bs p)))]) ∧ Below w.heap.size w w' :=
  (callsIn_wide (n := 8)).1 (piecesAt_in 8 (by omega) b off cap bs p w hcap hln hb hc)
set_option maxHeartbeats 1000000 in
theorem fitsU_yes (V L M : Nat) (w : World) (hM : M < 256) (h : L < 5 ∨ M ≤ 15) :
    Calls Try.prog 31 #[.agg #[.int .u64 (V : Int), .int .i64 (L : Int), .int .u8 (M : Int)]] w fun e w' => e = .returned (.bool true) ∧ w' = w.alloc (.cells #[.int .u64 (V : Int), .int .i64 (L : Int), .int .u8 (M : Int)] 63) := by
  by_cases h5 : (L : Int) < 5
  · go_enter Try.func31, Try.ntmps31
    go_wp2
    go_ret
    exact ⟨rfl, rfl⟩
  · have h6 : (M : Int) ≤ 15 := by omega
    go_enter Try.func31, Try.ntmps31
    go_wp2
    go_ret
    exact ⟨rfl, rfl⟩
theorem fitsU_no (V L M : Nat) (w : World) (hM : M < 256) (h : ¬ (L < 5 ∨ M ≤ 15)) :
    Calls Try.prog 31 #[.agg #[.int .u64 (V : Int), .int .i64 (L : Int), .int .u8 (M : Int)]] w fun e w' => e = .returned (.bool false) ∧ w' = w.alloc (.cells #[.int .u64 (V : Int), .int .i64 (L : Int), .int .u8 (M : Int)] 63) := by
  have h5 : ¬ (L : Int) < 5 := by omega
  have h6 : ¬ (M : Int) ≤ 15 := by omega
  go_enter Try.func31, Try.ntmps31
  go_wp2
  go_ret
  exact ⟨by simp, rfl⟩
theorem okU_come {bs : List UInt8} {p : Int} : (0 ≤ p ∧ p < bs.length ∧ okU (tk bs p)) ↔ okU (come bs p) := by
  unfold come
  constructor
  · intro h; rw [if_pos ⟨h.1, h.2.1⟩]; exact h.2.2
  · intro h
    by_cases hi : 0 ≤ p ∧ p < bs.length
    · rw [if_pos hi] at h; exact ⟨hi.1, hi.2, h⟩
    · rw [if_neg hi] at h; exact absurd h.1.1 (Nat.lt_irrefl _)
theorem okS_come {bs : List UInt8} {p : Int} : (0 ≤ p ∧ p < bs.length ∧ okS (tk bs p)) ↔ okS (come bs p) := by
  unfold come
  constructor
  · intro h; rw [if_pos ⟨h.1, h.2.1⟩]; exact h.2.2
  · intro h
    by_cases hi : 0 ≤ p ∧ p < bs.length
    · rw [if_pos hi] at h; exact ⟨hi.1, hi.2, h⟩
    · rw [if_neg hi] at h; exact absurd h.1.1 (Nat.lt_irrefl _)
theorem come_tk {bs : List UInt8} {p : Int} (h : fin (come bs p)) : come bs p = tk bs p := by
  unfold come at *
  by_cases hi : 0 ≤ p ∧ p < bs.length
  · rw [if_pos hi]
  · rw [if_neg hi] at h; exact absurd h.1 (Nat.lt_irrefl _)
theorem come_length (bs : List UInt8) (p : Int) : (come bs p).length ≤ 5 := by
  unfold come
  split
  · exact tk_length _ _
  · simp
set_option maxRecDepth 100000 in
set_option maxHeartbeats 4000000 in
theorem impl_getU (w : World) (b off cap : Nat) (bs : List UInt8) (p : Int) (hcap : bs.length ≤ cap) (hln : bs.length ≤ 4611686018427387904) (hb : b < w.heap.size)
    (hc : ∀ j, j < bs.length → w.cell? ⟨b, off + j, none⟩ = some (.int .u8 ((bs[j]?.getD 0).toNat : Int))) :
    Calls Try.prog 29 #[.slice (some ⟨b, off, none⟩) bs.length cap, .int .i64 p] w fun e w' => e = .returned (ansU bs p) ∧ Below w.heap.size w w' := by
  have hp := piecesAt b off cap bs p w hcap hln hb hc
  clear hc
  have hlen := come_length bs p
  have hvl := val_lt (come bs p)
  have hll := lst_lt (come bs p)
  obtain ⟨ans, hans⟩ : ∃ ans, ansU bs p = ans := ⟨_, rfl⟩
  rw [hans]
  by_cases hf : fin (come bs p)
  · have hct := come_tk hf
    have hin : 0 ≤ p ∧ p < bs.length := by
      by_cases hi : 0 ≤ p ∧ p < bs.length
      · exact hi
      · rw [come, if_neg hi] at hf; exact absurd hf.1 (Nat.lt_irrefl _)
    rw [decide_eq_true hf] at hp
    by_cases hk : okU (come bs p)
    · have hres : Hid (ans = .tuple #[.int .i64 (val (come bs p) : Int), .int .i64 (p + (come bs p).length), .bool true]) := by
        show ans = _
        rw [← hans, ansU_yes (okU_come.2 hk), hct]
      have hk2 := hk.2
      have hv35 : val (come bs p) < 34359738368 := Nat.lt_of_lt_of_le hvl (Nat.le_trans (Nat.pow_le_pow_right (by decide) hlen) (by decide))
      clear hans hk hf hct
      generalize (come bs p).length = L at *
      generalize val (come bs p) = V at *
      generalize lst (come bs p) = M at *
      go_enter Try.func29, Try.ntmps29
      go_wp2_with (first | (go_at_call 30; refine hp.mono ?_; rintro e w1 ⟨rfl, b1⟩) | (go_at_call 31; refine (fitsU_yes V L M _ hll hk2).mono ?_; rintro e w2 ⟨rfl, rfl⟩))
      go_quiet (fail)
      go_wp2_with fail
      go_ret3
      exact ⟨by rw [hres.out]; rfl, below_drewN ((b1.alloc b1.size _).alloc (by have := b1.size; simp; omega) _) _⟩
    · have hres : Hid (ans = nought) := hans.symm.trans (ansU_no fun h => hk (okU_come.1 h))
      have hk2 : ¬ ((come bs p).length < 5 ∨ lst (come bs p) ≤ 15) := fun h => hk ⟨hf, h⟩
      clear hans hk hf hct
      generalize (come bs p).length = L at *
      generalize val (come bs p) = V at *
      generalize lst (come bs p) = M at *
      go_enter Try.func29, Try.ntmps29
      go_wp2_with (first | (go_at_call 30; refine hp.mono ?_; rintro e w1 ⟨rfl, b1⟩) | (go_at_call 31; refine (fitsU_no V L M _ hll hk2).mono ?_; rintro e w2 ⟨rfl, rfl⟩))
      go_ret3
      exact ⟨by rw [hres.out]; rfl, (b1.alloc b1.size _).alloc (by have := b1.size; simp; omega) _⟩
  · have hres : Hid (ans = nought) := hans.symm.trans (ansU_no fun h => hf (okU_come.1 h).1)
    rw [decide_eq_false hf] at hp
    clear hans hf
    generalize (come bs p).length = L at *
    generalize val (come bs p) = V at *
    generalize lst (come bs p) = M at *
    go_enter Try.func29, Try.ntmps29
    go_wp2_with (go_at_call 30; refine hp.mono ?_; rintro e w1 ⟨rfl, b1⟩)
    go_ret3
    exact ⟨by rw [hres.out]; rfl, b1.alloc b1.size _⟩
end Go.Proofs.Ythjgmjhgpjgdlab.ImplGets
