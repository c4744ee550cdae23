/-
  How much a module's parts take: the laws' own counting.
-/
import Derived.Test.YtdaffcbamnpjfaaGreatDoorMemSig
import Derived.Test.YtdaffcbamnpjfaaGreatDoorMemGlobal
import Derived.Test.YtdaffcbamnpjfaaGreatDoorMemImport
import Derived.Test.YtdaffcbamnpjfaaGreatDoorMemExport
namespace Go.Proofs.YtdaffcbamnpjfaaGreatDoor.ModSz
open Go.RowKit InsMem
theorem szInsS (a : Option Addr) (n cap : Nat) (left : Int) (w : World) (hn : n ≤ 9223372036854775807) (h0 : 0 ≤ left) (h1 : left ≤ 1048576) :
    Calls Tryz.prog 104 #[.slice a n cap, .int .i64 left] w fun e w' => e = .returned (.int .i64 (if (n : Int) ≤ left then left - (n : Int) else -1)) ∧ w = w' := by
  by_cases h : (n : Int) ≤ left
  · rw [if_pos h]
    have h' : ¬ left - (n : Int) < 0 := by omega
    go_enter Tryz.func104, Tryz.ntmps104
    go_wp2_with fail
    all_goals (go_ret; exact ⟨rfl, rfl⟩)
  · rw [if_neg h]
    have h' : left - (n : Int) < 0 := by omega
    go_enter Tryz.func104, Tryz.ntmps104
    go_wp2_with fail
    all_goals (go_ret; exact ⟨rfl, rfl⟩)
theorem szSigS (a : Option Addr) (n cap : Nat) (left : Int) (w : World) (hn : n ≤ 9223372036854775807) (h0 : 0 ≤ left) (h1 : left ≤ 1048576) :
    Calls Tryz.prog 22 #[.slice a n cap, .int .i64 left] w fun e w' => e = .returned (.int .i64 (if (n : Int) ≤ left then left - (n : Int) else -1)) ∧ w = w' := by
  by_cases h : (n : Int) ≤ left
  · rw [if_pos h]
    have h' : ¬ left - (n : Int) < 0 := by omega
    go_enter Tryz.func22, Tryz.ntmps22
    go_wp2_with fail
    all_goals (go_ret; exact ⟨rfl, rfl⟩)
  · rw [if_neg h]
    have h' : left - (n : Int) < 0 := by omega
    go_enter Tryz.func22, Tryz.ntmps22
    go_wp2_with fail
    all_goals (go_ret; exact ⟨rfl, rfl⟩)
theorem szGlobalS (a : Option Addr) (n cap : Nat) (left : Int) (w : World) (hn : n ≤ 9223372036854775807) (h0 : 0 ≤ left) (h1 : left ≤ 1048576) :
    Calls Tryz.prog 25 #[.slice a n cap, .int .i64 left] w fun e w' => e = .returned (.int .i64 (if (n : Int) ≤ left then left - (n : Int) else -1)) ∧ w = w' := by
  by_cases h : (n : Int) ≤ left
  · rw [if_pos h]
    have h' : ¬ left - (n : Int) < 0 := by omega
    go_enter Tryz.func25, Tryz.ntmps25
    go_wp2_with fail
    all_goals (go_ret; exact ⟨rfl, rfl⟩)
  · rw [if_neg h]
    have h' : left - (n : Int) < 0 := by omega
    go_enter Tryz.func25, Tryz.ntmps25
    go_wp2_with fail
    all_goals (go_ret; exact ⟨rfl, rfl⟩)
theorem szByteS (a : Option Addr) (n cap : Nat) (left : Int) (w : World) (hn : n ≤ 9223372036854775807) (h0 : 0 ≤ left) (h1 : left ≤ 1048576) :
    Calls Tryz.prog 105 #[.slice a n cap, .int .i64 left] w fun e w' => e = .returned (.int .i64 (if (n : Int) ≤ left then left - (n : Int) else -1)) ∧ w = w' := by
  by_cases h : (n : Int) ≤ left
  · rw [if_pos h]
    have h' : ¬ left - (n : Int) < 0 := by omega
    go_enter Tryz.func105, Tryz.ntmps105
    go_wp2_with fail
    all_goals (go_ret; exact ⟨rfl, rfl⟩)
  · rw [if_neg h]
    have h' : left - (n : Int) < 0 := by omega
    go_enter Tryz.func105, Tryz.ntmps105
    go_wp2_with fail
    all_goals (go_ret; exact ⟨rfl, rfl⟩)
theorem szImport (x0 : ByteArray) (x1 : ByteArray) (x2 : Int) (left : Int) (w : World) (z0 : x0.size ≤ 9223372036854775807) (z1 : x1.size ≤ 9223372036854775807) (h0 : 0 ≤ left) (h1 : left ≤ 1048576) :
    Calls Tryz.prog 60 #[.agg #[.string x0, .string x1, .int .i64 x2], .int .i64 left] w fun e w' => ∃ r : Int, e = .returned (.int .i64 r) ∧ r ≤ left ∧ -1 ≤ r ∧ (0 ≤ r → (x0.size : Int) ≤ left ∧ (x1.size : Int) ≤ left) ∧ Below w.heap.size w w' := by
  by_cases a0 : (x0.size : Int) ≤ left
  · have n0 : ¬ left - (x0.size : Int) < 0 := by omega
    by_cases a1 : (x1.size : Int) ≤ left - (x0.size : Int)
    · have n1 : ¬ left - (x0.size : Int) - (x1.size : Int) < 0 := by omega
      go_enter Tryz.func60, Tryz.ntmps60
      go_wp2_with fail
      go_ret
      exact ⟨_, rfl, by omega, by omega, fun _ => by omega, (Below.refl _ _).alloc (Nat.le_refl _) _⟩
    · have n1 : left - (x0.size : Int) - (x1.size : Int) < 0 := by omega
      go_enter Tryz.func60, Tryz.ntmps60
      go_wp2_with fail
      go_ret
      exact ⟨-1, rfl, by omega, by omega, fun h => by omega, (Below.refl _ _).alloc (Nat.le_refl _) _⟩
  · have n0 : left - (x0.size : Int) < 0 := by omega
    go_enter Tryz.func60, Tryz.ntmps60
    go_wp2_with fail
    go_ret
    exact ⟨-1, rfl, by omega, by omega, fun h => by omega, (Below.refl _ _).alloc (Nat.le_refl _) _⟩
set_option maxHeartbeats 4000000 in
theorem szImportS (w : World) (a : Option Addr) (cap : Nat) (l : List MemImport.E) (left : Int) (h : MemImport.Rd w a l) (hn : l.length ≤ 9223372036854775807) (hz : ∀ j, j < l.length → (MemImport.f0At l j).size ≤ 9223372036854775807 ∧ (MemImport.f1At l j).size ≤ 9223372036854775807) (h0 : 0 ≤ left) (h1 : left ≤ 1048576) :
    Calls Tryz.prog 23 #[.slice a l.length cap, .int .i64 left] w fun e w' => ∃ r : Int, e = .returned (.int .i64 r) ∧ r ≤ left ∧ -1 ≤ r ∧ (0 ≤ r → (l.length : Int) ≤ left ∧ ∀ j, j < l.length → ((MemImport.f0At l j).size : Int) ≤ 1048576 ∧ ((MemImport.f1At l j).size : Int) ≤ 1048576) ∧ Below w.heap.size w w' := by
  by_cases hle : (l.length : Int) ≤ left
  · have h' : ¬ left - (l.length : Int) < 0 := by omega
    have k1 : Hid (MemImport.Rd w a l) := h
    have hz' : Hid (∀ j, j < l.length → (MemImport.f0At l j).size ≤ 9223372036854775807 ∧ (MemImport.f1At l j).size ≤ 9223372036854775807) := hz
    clear h hz
    go_enter Tryz.func23, Tryz.ntmps23
    go_wp2_with fail
    go_loopw [1, 5] (fun vl i wr => ∃ (k : Nat) (lf : Int), k ≤ l.length ∧ i = .int .i64 k ∧ vl = .int .i64 lf ∧ 0 ≤ lf ∧ lf ≤ left ∧ (∀ j, j < k → ((MemImport.f0At l j).size : Int) ≤ 1048576 ∧ ((MemImport.f1At l j).size : Int) ≤ 1048576) ∧ Below w.heap.size w wr) (fun _ i _ => l.length - (intOf i).toNat)
    case atStart => exact ⟨0, left - (l.length : Int), Nat.zero_le _, rfl, rfl, by omega, by omega, fun j hj => by omega, Below.refl _ _⟩
    case round =>
      obtain ⟨k, lf, hk, rfl, rfl, l0, l1, hall, hb⟩ := hrel
      have hall' : Hid (∀ j, j < k → ((MemImport.f0At l j).size : Int) ≤ 1048576 ∧ ((MemImport.f1At l j).size : Int) ≤ 1048576) := hall
      by_cases hlt : k < l.length
      · have hlt' : (k : Int) < (l.length : Int) := by omega
        rcases k1.out.later hb with h0' | ⟨b, off, ha, hc⟩
        · omega
        · obtain ⟨c0, c1, c2⟩ := hc k hlt
          have hzk := hz'.out k hlt
          subst ha
          have hs : Hid (∀ u, Calls Tryz.prog 60 #[.agg #[.string (MemImport.f0At l k), .string (MemImport.f1At l k), .int .i64 (MemImport.f2At l k)], .int .i64 lf] u fun e w' => ∃ r : Int, e = .returned (.int .i64 r) ∧ r ≤ lf ∧ -1 ≤ r ∧ (0 ≤ r → ((MemImport.f0At l k).size : Int) ≤ lf ∧ ((MemImport.f1At l k).size : Int) ≤ lf) ∧ Below u.heap.size u w') := fun u => szImport (MemImport.f0At l k) (MemImport.f1At l k) (MemImport.f2At l k) lf u hzk.1 hzk.2 l0 (by omega)
          have hb' : Hid (Below w.heap.size w wr) := hb
          clear hb hc hall
          have hstep : Hid (∀ r : Int, 0 ≤ r → (((MemImport.f0At l k).size : Int) ≤ lf ∧ ((MemImport.f1At l k).size : Int) ≤ lf) → ∀ j, j < k + 1 → ((MemImport.f0At l j).size : Int) ≤ 1048576 ∧ ((MemImport.f1At l j).size : Int) ≤ 1048576) := fun r _ hbd j hj => by
            by_cases e : j = k
            · subst e; omega
            · exact hall'.out j (by omega)
          generalize MemImport.f0At l k = x0 at *
          generalize MemImport.f1At l k = x1 at *
          generalize MemImport.f2At l k = x2 at *
          go_wp2_with (go_at_call 60; refine (hs.out _).mono ?_; rintro e w2 ⟨r, rfl, r1, r2, r3, b2⟩)
          · go_ret
            exact ⟨-1, rfl, by omega, by omega, fun h => by omega, hb'.out.trans (b2.mono hb'.out.size)⟩
          · go_roundw
            case rel => exact ⟨k + 1, r, by omega, by go_num, rfl, by omega, by omega, hstep.out r (by omega) (r3 (by omega)), hb'.out.trans (b2.mono hb'.out.size)⟩
            case measure => simp [intOf]; omega
      · obtain rfl : k = l.length := by omega
        have hb' : Hid (Below w.heap.size w wr) := hb
        clear hb hall
        go_wp2_with fail
        go_ret
        exact ⟨lf, rfl, by omega, by omega, fun _ => ⟨hle, hall'.out⟩, hb'.out⟩
  · have h' : left - (l.length : Int) < 0 := by omega
    clear h hz
    go_enter Tryz.func23, Tryz.ntmps23
    go_wp2_with fail
    go_ret
    exact ⟨-1, rfl, by omega, by omega, fun h => by omega, Below.refl _ _⟩
theorem szExport (x0 : ByteArray) (x1 : Int) (x2 : Int) (left : Int) (w : World) (z0 : x0.size ≤ 9223372036854775807) (h0 : 0 ≤ left) (h1 : left ≤ 1048576) :
    Calls Tryz.prog 62 #[.agg #[.string x0, .int .i64 x1, .int .i64 x2], .int .i64 left] w fun e w' => ∃ r : Int, e = .returned (.int .i64 r) ∧ r ≤ left ∧ -1 ≤ r ∧ (0 ≤ r → (x0.size : Int) ≤ left) ∧ Below w.heap.size w w' := by
  by_cases a0 : (x0.size : Int) ≤ left
  · have n0 : ¬ left - (x0.size : Int) < 0 := by omega
    go_enter Tryz.func62, Tryz.ntmps62
    go_wp2_with fail
    go_ret
    first | exact ⟨_, rfl, by omega, by omega, fun _ => by omega, (Below.refl _ _).alloc (Nat.le_refl _) _⟩ | exact ⟨_, rfl, by omega, by omega, (Below.refl _ _).alloc (Nat.le_refl _) _⟩
  · have n0 : left - (x0.size : Int) < 0 := by omega
    go_enter Tryz.func62, Tryz.ntmps62
    go_wp2_with fail
    go_ret
    exact ⟨-1, rfl, by omega, by omega, fun h => by omega, (Below.refl _ _).alloc (Nat.le_refl _) _⟩
set_option maxHeartbeats 4000000 in
theorem szExportS (w : World) (a : Option Addr) (cap : Nat) (l : List MemExport.E) (left : Int) (h : MemExport.Rd w a l) (hn : l.length ≤ 9223372036854775807) (hz : ∀ j, j < l.length → (MemExport.f0At l j).size ≤ 9223372036854775807) (h0 : 0 ≤ left) (h1 : left ≤ 1048576) :
    Calls Tryz.prog 26 #[.slice a l.length cap, .int .i64 left] w fun e w' => ∃ r : Int, e = .returned (.int .i64 r) ∧ r ≤ left ∧ -1 ≤ r ∧ (0 ≤ r → (l.length : Int) ≤ left ∧ ∀ j, j < l.length → ((MemExport.f0At l j).size : Int) ≤ 1048576) ∧ Below w.heap.size w w' := by
  by_cases hle : (l.length : Int) ≤ left
  · have h' : ¬ left - (l.length : Int) < 0 := by omega
    have k1 : Hid (MemExport.Rd w a l) := h
    have hz' : Hid (∀ j, j < l.length → (MemExport.f0At l j).size ≤ 9223372036854775807) := hz
    clear h hz
    go_enter Tryz.func26, Tryz.ntmps26
    go_wp2_with fail
    go_loopw [1, 5] (fun vl i wr => ∃ (k : Nat) (lf : Int), k ≤ l.length ∧ i = .int .i64 k ∧ vl = .int .i64 lf ∧ 0 ≤ lf ∧ lf ≤ left ∧ (∀ j, j < k → ((MemExport.f0At l j).size : Int) ≤ 1048576) ∧ Below w.heap.size w wr) (fun _ i _ => l.length - (intOf i).toNat)
    case atStart => exact ⟨0, left - (l.length : Int), Nat.zero_le _, rfl, rfl, by omega, by omega, fun j hj => by omega, Below.refl _ _⟩
    case round =>
      obtain ⟨k, lf, hk, rfl, rfl, l0, l1, hall, hb⟩ := hrel
      have hall' : Hid (∀ j, j < k → ((MemExport.f0At l j).size : Int) ≤ 1048576) := hall
      by_cases hlt : k < l.length
      · have hlt' : (k : Int) < (l.length : Int) := by omega
        rcases k1.out.later hb with h0' | ⟨b, off, ha, hc⟩
        · omega
        · obtain ⟨c0, c1, c2⟩ := hc k hlt
          have hzk := hz'.out k hlt
          subst ha
          have hs : Hid (∀ u, Calls Tryz.prog 62 #[.agg #[.string (MemExport.f0At l k), .int .i64 (MemExport.f1At l k), .int .i64 (MemExport.f2At l k)], .int .i64 lf] u fun e w' => ∃ r : Int, e = .returned (.int .i64 r) ∧ r ≤ lf ∧ -1 ≤ r ∧ (0 ≤ r → ((MemExport.f0At l k).size : Int) ≤ lf) ∧ Below u.heap.size u w') := fun u => szExport (MemExport.f0At l k) (MemExport.f1At l k) (MemExport.f2At l k) lf u hzk l0 (by omega)
          have hb' : Hid (Below w.heap.size w wr) := hb
          clear hb hc hall
          have hstep : Hid (∀ r : Int, 0 ≤ r → (((MemExport.f0At l k).size : Int) ≤ lf) → ∀ j, j < k + 1 → ((MemExport.f0At l j).size : Int) ≤ 1048576) := fun r _ hbd j hj => by
            by_cases e : j = k
            · subst e; omega
            · exact hall'.out j (by omega)
          generalize MemExport.f0At l k = x0 at *
          generalize MemExport.f1At l k = x1 at *
          generalize MemExport.f2At l k = x2 at *
          go_wp2_with (go_at_call 62; refine (hs.out _).mono ?_; rintro e w2 ⟨r, rfl, r1, r2, r3, b2⟩)
          · go_ret
            exact ⟨-1, rfl, by omega, by omega, fun h => by omega, hb'.out.trans (b2.mono hb'.out.size)⟩
          · go_roundw
            case rel => exact ⟨k + 1, r, by omega, by go_num, rfl, by omega, by omega, hstep.out r (by omega) (r3 (by omega)), hb'.out.trans (b2.mono hb'.out.size)⟩
            case measure => simp [intOf]; omega
      · obtain rfl : k = l.length := by omega
        have hb' : Hid (Below w.heap.size w wr) := hb
        clear hb hall
        go_wp2_with fail
        go_ret
        exact ⟨lf, rfl, by omega, by omega, fun _ => ⟨hle, hall'.out⟩, hb'.out⟩
  · have h' : left - (l.length : Int) < 0 := by omega
    clear h hz
    go_enter Tryz.func26, Tryz.ntmps26
    go_wp2_with fail
    go_ret
    exact ⟨-1, rfl, by omega, by omega, fun h => by omega, Below.refl _ _⟩
end Go.Proofs.YtdaffcbamnpjfaaGreatDoor.ModSz
