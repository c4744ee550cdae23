/-
  What the program's GetU and GetS answer when they are called: as the specification's.
-/
import Derived.Test.YthjgmjhgpjgdlabDoorImplPieces
import Derived.BigQuiet
import Derived.Deep.RegionWith
import Derived.Deep.QuietTactic
namespace Go.Proofs.YthjgmjhgpjgdlabDoor.ImplGets
open Go.RowKit PlainNum PlainLeb PlainGet NumCalls ByteMem PutU ImplGet ImplPieces

theorem piecesAt (b off cap : Nat) (bs : List UInt8) (p : Int) (w : World) (hcap : bs.length ≤ cap) (hln : bs.length ≤ 4611686018427387904) (hb : b < w.heap.size)
    (hc : ∀ j, j < bs.length → w.cell? ⟨b, off + j, none⟩ = some (.int .u8 ((bs[j]?.getD 0).toNat : Int))) :
    Calls Tryd.prog 75 #[.slice (some ⟨b, off, none⟩) bs.length cap, .int .i64 p] w fun e w' =>
      e = .returned (.tuple #[.agg #[.int .u64 (val (come bs p) : Int), .int .i64 ((come bs p).length : Int), .int .u8 (lst (come bs p) : Int)], .bool (decide (fin (come bs p)))]) ∧ Below w.heap.size w w' :=
  (callsIn_wide (n := 8)).1 (piecesAt_in 8 (by omega) b off cap bs p w hcap hln hb hc)
set_option maxHeartbeats 1000000 in
theorem fitsU_yes (V L M : Nat) (w : World) (hM : M < 256) (h : L < 5 ∨ M ≤ 15) :
    Calls Tryd.prog 76 #[.agg #[.int .u64 (V : Int), .int .i64 (L : Int), .int .u8 (M : Int)]] w fun e w' => e = .returned (.bool true) ∧ w' = w.alloc (.cells #[.int .u64 (V : Int), .int .i64 (L : Int), .int .u8 (M : Int)] 105) := by
  by_cases h5 : (L : Int) < 5
  · go_enter Tryd.func76, Tryd.ntmps76
    go_wp2
    go_ret
    exact ⟨rfl, rfl⟩
  · have h6 : (M : Int) ≤ 15 := by omega
    go_enter Tryd.func76, Tryd.ntmps76
    go_wp2
    go_ret
    exact ⟨rfl, rfl⟩
theorem fitsU_no (V L M : Nat) (w : World) (hM : M < 256) (h : ¬ (L < 5 ∨ M ≤ 15)) :
    Calls Tryd.prog 76 #[.agg #[.int .u64 (V : Int), .int .i64 (L : Int), .int .u8 (M : Int)]] w fun e w' => e = .returned (.bool false) ∧ w' = w.alloc (.cells #[.int .u64 (V : Int), .int .i64 (L : Int), .int .u8 (M : Int)] 105) := by
  have h5 : ¬ (L : Int) < 5 := by omega
  have h6 : ¬ (M : Int) ≤ 15 := by omega
  go_enter Tryd.func76, Tryd.ntmps76
  go_wp2
  go_ret
  exact ⟨by simp, rfl⟩
theorem fitsS_yes (V L M : Nat) (w : World) (hM : M < 256) (h : L < 5 ∨ M ≤ 7 ∨ 120 ≤ M) :
    Calls Tryd.prog 77 #[.agg #[.int .u64 (V : Int), .int .i64 (L : Int), .int .u8 (M : Int)]] w fun e w' => e = .returned (.bool true) ∧ w' = w.alloc (.cells #[.int .u64 (V : Int), .int .i64 (L : Int), .int .u8 (M : Int)] 105) := by
  rcases (show (L : Int) < 5 ∨ (¬ (L : Int) < 5 ∧ (M : Int) ≤ 7) ∨ (¬ (L : Int) < 5 ∧ ¬ (M : Int) ≤ 7 ∧ 120 ≤ (M : Int)) by omega) with h5 | ⟨h5, h6⟩ | ⟨h5, h6, h7⟩
  all_goals
    go_enter Tryd.func77, Tryd.ntmps77
    go_wp2
    go_ret
    exact ⟨rfl, rfl⟩
theorem fitsS_no (V L M : Nat) (w : World) (hM : M < 256) (h : ¬ (L < 5 ∨ M ≤ 7 ∨ 120 ≤ M)) :
    Calls Tryd.prog 77 #[.agg #[.int .u64 (V : Int), .int .i64 (L : Int), .int .u8 (M : Int)]] w fun e w' => e = .returned (.bool false) ∧ w' = w.alloc (.cells #[.int .u64 (V : Int), .int .i64 (L : Int), .int .u8 (M : Int)] 105) := by
  have h5 : ¬ (L : Int) < 5 := by omega
  have h6 : ¬ (M : Int) ≤ 7 := by omega
  have h7 : ¬ 120 ≤ (M : Int) := by omega
  go_enter Tryd.func77, Tryd.ntmps77
  go_wp2
  go_ret
  exact ⟨by simp, rfl⟩
set_option maxHeartbeats 2000000 in
theorem signed (V L M : Nat) (w : World) (h0 : 0 < L) (h5 : L ≤ 5) (h : V < 128 ^ L) (R : Int) (hR : R = if 64 * 128 ^ (L - 1) ≤ V then (V : Int) - 128 ^ L else (V : Int)) :
    Calls Tryd.prog 78 #[.agg #[.int .u64 (V : Int), .int .i64 (L : Int), .int .u8 (M : Int)]] w fun e w' => e = .returned (.int .i64 R) ∧ w' = w.alloc (.cells #[.int .u64 (V : Int), .int .i64 (L : Int), .int .u8 (M : Int)] 105) := by
  have hR' : Hid (R = if 64 * 128 ^ (L - 1) ≤ V then (V : Int) - 128 ^ L else (V : Int)) := hR
  clear hR
  rcases (show L = 1 ∨ L = 2 ∨ L = 3 ∨ L = 4 ∨ L = 5 by omega) with rfl | rfl | rfl | rfl | rfl
  all_goals
    simp only [Nat.reducePow] at h
    go_enter Tryd.func78, Tryd.ntmps78
    go_wp2
    go_ret
    refine ⟨?_, rfl⟩
    refine congrArg (fun z => Ending.returned (Value.int .i64 z)) ?_
    rw [hR'.out]
    simp only [Nat.reducePow, Nat.reduceSub, Nat.reduceMul, Int.reducePow, wrap64]
    split <;> omega
theorem okU_come {bs : List UInt8} {p : Int} : (0 ≤ p ∧ p < bs.length ∧ okU (tk bs p)) ↔ okU (come bs p) := by
  unfold come
  constructor
  · intro h; rw [if_pos ⟨h.1, h.2.1⟩]; exact h.2.2
  · intro h
    by_cases hi : 0 ≤ p ∧ p < bs.length
    · rw [if_pos hi] at h; exact ⟨hi.1, hi.2, h⟩
    · rw [if_neg hi] at h; exact absurd h.1.1 (Nat.lt_irrefl _)
theorem okS_come {bs : List UInt8} {p : Int} : (0 ≤ p ∧ p < bs.length ∧ okS (tk bs p)) ↔ okS (come bs p) := by
  unfold come
  constructor
  · intro h; rw [if_pos ⟨h.1, h.2.1⟩]; exact h.2.2
  · intro h
    by_cases hi : 0 ≤ p ∧ p < bs.length
    · rw [if_pos hi] at h; exact ⟨hi.1, hi.2, h⟩
    · rw [if_neg hi] at h; exact absurd h.1.1 (Nat.lt_irrefl _)
theorem come_tk {bs : List UInt8} {p : Int} (h : fin (come bs p)) : come bs p = tk bs p := by
  unfold come at *
  by_cases hi : 0 ≤ p ∧ p < bs.length
  · rw [if_pos hi]
  · rw [if_neg hi] at h; exact absurd h.1 (Nat.lt_irrefl _)
theorem come_length (bs : List UInt8) (p : Int) : (come bs p).length ≤ 5 := by
  unfold come
  split
  · exact tk_length _ _
  · simp
set_option maxRecDepth 100000 in
set_option maxHeartbeats 4000000 in
theorem impl_getU (w : World) (b off cap : Nat) (bs : List UInt8) (p : Int) (hcap : bs.length ≤ cap) (hln : bs.length ≤ 4611686018427387904) (hb : b < w.heap.size)
    (hc : ∀ j, j < bs.length → w.cell? ⟨b, off + j, none⟩ = some (.int .u8 ((bs[j]?.getD 0).toNat : Int))) :
    Calls Tryd.prog 68 #[.slice (some ⟨b, off, none⟩) bs.length cap, .int .i64 p] w fun e w' => e = .returned (ansU bs p) ∧ Below w.heap.size w w' := by
  have hp := piecesAt b off cap bs p w hcap hln hb hc
  clear hc
  have hlen := come_length bs p
  have hvl := val_lt (come bs p)
  have hll := lst_lt (come bs p)
  obtain ⟨ans, hans⟩ : ∃ ans, ansU bs p = ans := ⟨_, rfl⟩
  rw [hans]
  by_cases hf : fin (come bs p)
  · have hct := come_tk hf
    have hin : 0 ≤ p ∧ p < bs.length := by
      by_cases hi : 0 ≤ p ∧ p < bs.length
      · exact hi
      · rw [come, if_neg hi] at hf; exact absurd hf.1 (Nat.lt_irrefl _)
    rw [decide_eq_true hf] at hp
    by_cases hk : okU (come bs p)
    · have hres : Hid (ans = .tuple #[.int .i64 (val (come bs p) : Int), .int .i64 (p + (come bs p).length), .bool true]) := by
        show ans = _
        rw [← hans, ansU_yes (okU_come.2 hk), hct]
      have hk2 := hk.2
      have hv35 : val (come bs p) < 34359738368 := Nat.lt_of_lt_of_le hvl (Nat.le_trans (Nat.pow_le_pow_right (by decide) hlen) (by decide))
      clear hans hk hf hct
      generalize (come bs p).length = L at *
      generalize val (come bs p) = V at *
      generalize lst (come bs p) = M at *
      go_enter Tryd.func68, Tryd.ntmps68
      go_wp2_with (first | (go_at_call 75; refine hp.mono ?_; rintro e w1 ⟨rfl, b1⟩) | (go_at_call 76; refine (fitsU_yes V L M _ hll hk2).mono ?_; rintro e w2 ⟨rfl, rfl⟩))
      go_quiet (fail)
      go_wp2_with fail
      go_ret3
      exact ⟨by rw [hres.out]; rfl, below_drewN ((b1.alloc b1.size _).alloc (by have := b1.size; simp; omega) _) _⟩
    · have hres : Hid (ans = nought) := hans.symm.trans (ansU_no fun h => hk (okU_come.1 h))
      have hk2 : ¬ ((come bs p).length < 5 ∨ lst (come bs p) ≤ 15) := fun h => hk ⟨hf, h⟩
      clear hans hk hf hct
      generalize (come bs p).length = L at *
      generalize val (come bs p) = V at *
      generalize lst (come bs p) = M at *
      go_enter Tryd.func68, Tryd.ntmps68
      go_wp2_with (first | (go_at_call 75; refine hp.mono ?_; rintro e w1 ⟨rfl, b1⟩) | (go_at_call 76; refine (fitsU_no V L M _ hll hk2).mono ?_; rintro e w2 ⟨rfl, rfl⟩))
      go_ret3
      exact ⟨by rw [hres.out]; rfl, (b1.alloc b1.size _).alloc (by have := b1.size; simp; omega) _⟩
  · have hres : Hid (ans = nought) := hans.symm.trans (ansU_no fun h => hf (okU_come.1 h).1)
    rw [decide_eq_false hf] at hp
    clear hans hf
    generalize (come bs p).length = L at *
    generalize val (come bs p) = V at *
    generalize lst (come bs p) = M at *
    go_enter Tryd.func68, Tryd.ntmps68
    go_wp2_with (go_at_call 75; refine hp.mono ?_; rintro e w1 ⟨rfl, b1⟩)
    go_ret3
    exact ⟨by rw [hres.out]; rfl, b1.alloc b1.size _⟩
set_option maxRecDepth 100000 in
set_option maxHeartbeats 4000000 in
theorem impl_getS (w : World) (b off cap : Nat) (bs : List UInt8) (p : Int) (hcap : bs.length ≤ cap) (hln : bs.length ≤ 4611686018427387904) (hb : b < w.heap.size)
    (hc : ∀ j, j < bs.length → w.cell? ⟨b, off + j, none⟩ = some (.int .u8 ((bs[j]?.getD 0).toNat : Int))) :
    Calls Tryd.prog 69 #[.slice (some ⟨b, off, none⟩) bs.length cap, .int .i64 p] w fun e w' => e = .returned (ansS bs p) ∧ Below w.heap.size w w' := by
  have hp := piecesAt b off cap bs p w hcap hln hb hc
  clear hc
  have hlen := come_length bs p
  have hvl := val_lt (come bs p)
  have hll := lst_lt (come bs p)
  obtain ⟨ans, hans⟩ : ∃ ans, ansS bs p = ans := ⟨_, rfl⟩
  rw [hans]
  by_cases hf : fin (come bs p)
  · have hct := come_tk hf
    have hin : 0 ≤ p ∧ p < bs.length := by
      by_cases hi : 0 ≤ p ∧ p < bs.length
      · exact hi
      · rw [come, if_neg hi] at hf; exact absurd hf.1 (Nat.lt_irrefl _)
    rw [decide_eq_true hf] at hp
    by_cases hk : okS (come bs p)
    · have hres : Hid (ans = .tuple #[.int .i64 (sval (come bs p)), .int .i64 (p + (come bs p).length), .bool true]) := by
        show ans = _
        rw [← hans, ansS_yes (okS_come.2 hk), hct]
      have hk2 := hk.2
      have hf0 := hf.1
      have hsv := sval_eq hf
      have hv35 : val (come bs p) < 34359738368 := Nat.lt_of_lt_of_le hvl (Nat.le_trans (Nat.pow_le_pow_right (by decide) hlen) (by decide))
      clear hans hk hf hct
      generalize sval (come bs p) = R at *
      generalize (come bs p).length = L at *
      generalize val (come bs p) = V at *
      generalize lst (come bs p) = M at *
      have hsg : ∀ w, Hid (Calls Tryd.prog 78 #[.agg #[.int .u64 (V : Int), .int .i64 (L : Int), .int .u8 (M : Int)]] w fun e w' => e = .returned (.int .i64 R) ∧ w' = w.alloc (.cells #[.int .u64 (V : Int), .int .i64 (L : Int), .int .u8 (M : Int)] 105)) := fun w => signed V L M w hf0 hlen hvl R hsv
      have hsg' : Hid (∀ w, Hid (Calls Tryd.prog 78 #[.agg #[.int .u64 (V : Int), .int .i64 (L : Int), .int .u8 (M : Int)]] w fun e w' => e = .returned (.int .i64 R) ∧ w' = w.alloc (.cells #[.int .u64 (V : Int), .int .i64 (L : Int), .int .u8 (M : Int)] 105))) := hsg
      have hwp : Hid (IntKind.i64.wrap (p + (L : Int)) = p + (L : Int)) := by
        show IntKind.i64.wrap (p + (L : Int)) = p + (L : Int)
        rw [IntKind.wrap_i64]; omega
      clear hsg hsv hvl
      go_enter Tryd.func69, Tryd.ntmps69
      go_wp2_with (first | (go_at_call 75; refine hp.mono ?_; rintro e w1 ⟨rfl, b1⟩) | (go_at_call 77; refine (fitsS_yes V L M _ hll hk2).mono ?_; rintro e w2 ⟨rfl, rfl⟩))
      go_region_with (go_at_call 78; refine ((hsg'.out _).out).mono ?_; rintro e w3 ⟨rfl, rfl⟩)
      all_goals go_wp2_with fail
      all_goals
        go_ret3
        refine ⟨?_, (((b1.alloc b1.size _).alloc (by have := b1.size; simp; omega) _).alloc (by have := b1.size; simp; omega) _).drew⟩
        rw [hres.out]
        simp [Act.put, hwp.out]
    · have hres : Hid (ans = nought) := hans.symm.trans (ansS_no fun h => hk (okS_come.1 h))
      have hk2 : ¬ ((come bs p).length < 5 ∨ lst (come bs p) ≤ 7 ∨ 120 ≤ lst (come bs p)) := fun h => hk ⟨hf, h⟩
      clear hans hk hf hct
      generalize (come bs p).length = L at *
      generalize val (come bs p) = V at *
      generalize lst (come bs p) = M at *
      go_enter Tryd.func69, Tryd.ntmps69
      go_wp2_with (first | (go_at_call 75; refine hp.mono ?_; rintro e w1 ⟨rfl, b1⟩) | (go_at_call 77; refine (fitsS_no V L M _ hll hk2).mono ?_; rintro e w2 ⟨rfl, rfl⟩))
      go_ret3
      exact ⟨by rw [hres.out]; rfl, (b1.alloc b1.size _).alloc (by have := b1.size; simp; omega) _⟩
  · have hres : Hid (ans = nought) := hans.symm.trans (ansS_no fun h => hf (okS_come.1 h).1)
    rw [decide_eq_false hf] at hp
    clear hans hf
    generalize (come bs p).length = L at *
    generalize val (come bs p) = V at *
    generalize lst (come bs p) = M at *
    go_enter Tryd.func69, Tryd.ntmps69
    go_wp2_with (go_at_call 75; refine hp.mono ?_; rintro e w1 ⟨rfl, b1⟩)
    go_ret3
    exact ⟨by rw [hres.out]; rfl, b1.alloc b1.size _⟩
end Go.Proofs.YthjgmjhgpjgdlabDoor.ImplGets
