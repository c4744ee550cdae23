/-
  How much functions and data take: the laws' own counting.
-/
import Derived.Test.YtdaffcbamnpjfaaGreatDoorModSz
import Derived.Test.YtdaffcbamnpjfaaGreatDoorMemFunc
import Derived.Test.YtdaffcbamnpjfaaGreatDoorMemData
namespace Go.Proofs.YtdaffcbamnpjfaaGreatDoor.ModSz2
open Go.RowKit InsMem
theorem szFunc (s x : Int) (a : Option Addr) (c n : Nat) (left : Int) (w : World) (hn : n ≤ 9223372036854775807) (h0 : 0 ≤ left) (h1 : left ≤ 1048576) :
    Calls Tryz.prog 61 #[.agg #[.int .i64 s, .int .i64 x, .slice a n c], .int .i64 left] w fun e w' => ∃ r : Int, e = .returned (.int .i64 r) ∧ r ≤ left ∧ -1 ≤ r ∧ (0 ≤ r → (n : Int) ≤ left) ∧ Below w.heap.size w w' := by
  have hz : Hid (∀ u, Calls Tryz.prog 104 #[.slice a n c, .int .i64 left] u fun e w' => e = .returned (.int .i64 (if (n : Int) ≤ left then left - (n : Int) else -1)) ∧ u = w') := fun u => ModSz.szInsS a n c left u hn h0 h1
  obtain ⟨r, hr⟩ : ∃ r, (if (n : Int) ≤ left then left - (n : Int) else -1) = r := ⟨_, rfl⟩
  rw [hr] at hz
  have f1 : Hid (r ≤ left ∧ -1 ≤ r ∧ (0 ≤ r → (n : Int) ≤ left)) := by
    rw [← hr]
    show _ ∧ _ ∧ _
    split <;> refine ⟨by omega, by omega, fun _ => by omega⟩
  have hr1 : -1 ≤ r := f1.out.2.1
  have hr2 : r ≤ 1048576 := by have := f1.out.1; omega
  clear hr
  by_cases hneg : r < 0
  · go_enter Tryz.func61, Tryz.ntmps61
    go_wp2_with (go_at_call 104; refine (hz.out _).mono ?_; rintro e w' ⟨rfl, rfl⟩)
    go_ret
    exact ⟨-1, rfl, by omega, by omega, fun h => by omega, (Below.refl _ _).alloc (Nat.le_refl _) _⟩
  · go_enter Tryz.func61, Tryz.ntmps61
    go_wp2_with (go_at_call 104; refine (hz.out _).mono ?_; rintro e w' ⟨rfl, rfl⟩)
    go_ret
    exact ⟨r, rfl, f1.out.1, f1.out.2.1, f1.out.2.2, (Below.refl _ _).alloc (Nat.le_refl _) _⟩
set_option maxHeartbeats 4000000 in
theorem szFuncS (w : World) (a : Option Addr) (cap : Nat) (l : List MemFunc.E) (left : Int) (h : MemFunc.Rd w a l) (hn : l.length ≤ 9223372036854775807) (hz : ∀ j, j < l.length → (MemFunc.at1 l j).body.length ≤ 9223372036854775807) (h0 : 0 ≤ left) (h1 : left ≤ 1048576) :
    Calls Tryz.prog 24 #[.slice a l.length cap, .int .i64 left] w fun e w' => ∃ r : Int, e = .returned (.int .i64 r) ∧ r ≤ left ∧ -1 ≤ r ∧ (0 ≤ r → (l.length : Int) ≤ left ∧ ∀ j, j < l.length → ((MemFunc.at1 l j).body.length : Int) ≤ 1048576) ∧ Below w.heap.size w w' := by
  by_cases hle : (l.length : Int) ≤ left
  · have h' : ¬ left - (l.length : Int) < 0 := by omega
    have k1 : Hid (MemFunc.Rd w a l) := h
    have hz' : Hid (∀ j, j < l.length → (MemFunc.at1 l j).body.length ≤ 9223372036854775807) := hz
    clear h hz
    go_enter Tryz.func24, Tryz.ntmps24
    go_wp2_with fail
    go_loopw [1, 5] (fun vl i wr => ∃ (k : Nat) (lf : Int), k ≤ l.length ∧ i = .int .i64 k ∧ vl = .int .i64 lf ∧ 0 ≤ lf ∧ lf ≤ left ∧ (∀ j, j < k → ((MemFunc.at1 l j).body.length : Int) ≤ 1048576) ∧ Below w.heap.size w wr) (fun _ i _ => l.length - (intOf i).toNat)
    case atStart => exact ⟨0, left - (l.length : Int), Nat.zero_le _, rfl, rfl, by omega, by omega, fun j hj => by omega, Below.refl _ _⟩
    case round =>
      obtain ⟨k, lf, hk, rfl, rfl, l0, l1, hall, hb⟩ := hrel
      have hall' : Hid (∀ j, j < k → ((MemFunc.at1 l j).body.length : Int) ≤ 1048576) := hall
      by_cases hlt : k < l.length
      · have hlt' : (k : Int) < (l.length : Int) := by omega
        rcases k1.out.later hb with h0' | ⟨b, off, ha, hc⟩
        · omega
        · obtain ⟨c0, c1, c2, hrb⟩ := hc k hlt
          have hzk := hz'.out k hlt
          subst ha
          have hs : Hid (∀ u, Calls Tryz.prog 61 #[.agg #[.int .i64 (MemFunc.at1 l k).sig, .int .i64 (MemFunc.at1 l k).loc, .slice (MemFunc.at1 l k).ad (MemFunc.at1 l k).body.length (MemFunc.at1 l k).cp], .int .i64 lf] u fun e w' => ∃ r : Int, e = .returned (.int .i64 r) ∧ r ≤ lf ∧ -1 ≤ r ∧ (0 ≤ r → ((MemFunc.at1 l k).body.length : Int) ≤ lf) ∧ Below u.heap.size u w') := fun u => szFunc _ _ _ _ _ lf u hzk l0 (by omega)
          have hb' : Hid (Below w.heap.size w wr) := hb
          have hstep : Hid (∀ r : Int, 0 ≤ r → ((MemFunc.at1 l k).body.length : Int) ≤ lf → ∀ j, j < k + 1 → ((MemFunc.at1 l j).body.length : Int) ≤ 1048576) := fun r _ hbd j hj => by
            by_cases e : j = k
            · subst e; omega
            · exact hall'.out j (by omega)
          clear hb hc hall hrb
          generalize (MemFunc.at1 l k).body.length = y0 at *
          generalize (MemFunc.at1 l k).sig = y1 at *
          generalize (MemFunc.at1 l k).loc = y2 at *
          generalize (MemFunc.at1 l k).ad = y3 at *
          generalize (MemFunc.at1 l k).cp = y4 at *
          go_wp2_with (go_at_call 61; refine (hs.out _).mono ?_; rintro e w2 ⟨r, rfl, r1, r2, r3, b2⟩)
          · go_ret
            exact ⟨-1, rfl, by omega, by omega, fun h => by omega, hb'.out.trans (b2.mono hb'.out.size)⟩
          · go_roundw
            case rel => exact ⟨k + 1, r, by omega, by go_num, rfl, by omega, by omega, hstep.out r (by omega) (r3 (by omega)), hb'.out.trans (b2.mono hb'.out.size)⟩
            case measure => simp [intOf]; omega
      · obtain rfl : k = l.length := by omega
        have hb' : Hid (Below w.heap.size w wr) := hb
        clear hb hall
        go_wp2_with fail
        go_ret
        exact ⟨lf, rfl, by omega, by omega, fun _ => ⟨hle, hall'.out⟩, hb'.out⟩
  · have h' : left - (l.length : Int) < 0 := by omega
    clear h hz
    go_enter Tryz.func24, Tryz.ntmps24
    go_wp2_with fail
    go_ret
    exact ⟨-1, rfl, by omega, by omega, fun h => by omega, Below.refl _ _⟩
theorem szData (s : Int) (a : Option Addr) (c n : Nat) (left : Int) (w : World) (hn : n ≤ 9223372036854775807) (h0 : 0 ≤ left) (h1 : left ≤ 1048576) :
    Calls Tryz.prog 63 #[.agg #[.int .i64 s, .slice a n c], .int .i64 left] w fun e w' => ∃ r : Int, e = .returned (.int .i64 r) ∧ r ≤ left ∧ -1 ≤ r ∧ (0 ≤ r → (n : Int) ≤ left) ∧ Below w.heap.size w w' := by
  have hz : Hid (∀ u, Calls Tryz.prog 105 #[.slice a n c, .int .i64 left] u fun e w' => e = .returned (.int .i64 (if (n : Int) ≤ left then left - (n : Int) else -1)) ∧ u = w') := fun u => ModSz.szByteS a n c left u hn h0 h1
  obtain ⟨r, hr⟩ : ∃ r, (if (n : Int) ≤ left then left - (n : Int) else -1) = r := ⟨_, rfl⟩
  rw [hr] at hz
  have f1 : Hid (r ≤ left ∧ -1 ≤ r ∧ (0 ≤ r → (n : Int) ≤ left)) := by
    rw [← hr]
    show _ ∧ _ ∧ _
    split <;> refine ⟨by omega, by omega, fun _ => by omega⟩
  have hr1 : -1 ≤ r := f1.out.2.1
  have hr2 : r ≤ 1048576 := by have := f1.out.1; omega
  clear hr
  by_cases hneg : r < 0
  · go_enter Tryz.func63, Tryz.ntmps63
    go_wp2_with (go_at_call 105; refine (hz.out _).mono ?_; rintro e w' ⟨rfl, rfl⟩)
    go_ret
    exact ⟨-1, rfl, by omega, by omega, fun h => by omega, (Below.refl _ _).alloc (Nat.le_refl _) _⟩
  · go_enter Tryz.func63, Tryz.ntmps63
    go_wp2_with (go_at_call 105; refine (hz.out _).mono ?_; rintro e w' ⟨rfl, rfl⟩)
    go_ret
    exact ⟨r, rfl, f1.out.1, f1.out.2.1, f1.out.2.2, (Below.refl _ _).alloc (Nat.le_refl _) _⟩
set_option maxHeartbeats 4000000 in
theorem szDataS (w : World) (a : Option Addr) (cap : Nat) (l : List MemData.E) (left : Int) (h : MemData.Rd w a l) (hn : l.length ≤ 9223372036854775807) (hz : ∀ j, j < l.length → (MemData.at1 l j).n ≤ 9223372036854775807) (h0 : 0 ≤ left) (h1 : left ≤ 1048576) :
    Calls Tryz.prog 27 #[.slice a l.length cap, .int .i64 left] w fun e w' => ∃ r : Int, e = .returned (.int .i64 r) ∧ r ≤ left ∧ -1 ≤ r ∧ (0 ≤ r → (l.length : Int) ≤ left ∧ ∀ j, j < l.length → ((MemData.at1 l j).n : Int) ≤ 1048576) ∧ Below w.heap.size w w' := by
  by_cases hle : (l.length : Int) ≤ left
  · have h' : ¬ left - (l.length : Int) < 0 := by omega
    have k1 : Hid (MemData.Rd w a l) := h
    have hz' : Hid (∀ j, j < l.length → (MemData.at1 l j).n ≤ 9223372036854775807) := hz
    clear h hz
    go_enter Tryz.func27, Tryz.ntmps27
    go_wp2_with fail
    go_loopw [1, 5] (fun vl i wr => ∃ (k : Nat) (lf : Int), k ≤ l.length ∧ i = .int .i64 k ∧ vl = .int .i64 lf ∧ 0 ≤ lf ∧ lf ≤ left ∧ (∀ j, j < k → ((MemData.at1 l j).n : Int) ≤ 1048576) ∧ Below w.heap.size w wr) (fun _ i _ => l.length - (intOf i).toNat)
    case atStart => exact ⟨0, left - (l.length : Int), Nat.zero_le _, rfl, rfl, by omega, by omega, fun j hj => by omega, Below.refl _ _⟩
    case round =>
      obtain ⟨k, lf, hk, rfl, rfl, l0, l1, hall, hb⟩ := hrel
      have hall' : Hid (∀ j, j < k → ((MemData.at1 l j).n : Int) ≤ 1048576) := hall
      by_cases hlt : k < l.length
      · have hlt' : (k : Int) < (l.length : Int) := by omega
        rcases k1.out.later hb with h0' | ⟨b, off, ha, hc⟩
        · omega
        · obtain ⟨c0, c1, hrb⟩ := hc k hlt
          have hzk := hz'.out k hlt
          subst ha
          have hs : Hid (∀ u, Calls Tryz.prog 63 #[.agg #[.int .i64 (MemData.at1 l k).pos, .slice (MemData.at1 l k).ad (MemData.at1 l k).n (MemData.at1 l k).cp], .int .i64 lf] u fun e w' => ∃ r : Int, e = .returned (.int .i64 r) ∧ r ≤ lf ∧ -1 ≤ r ∧ (0 ≤ r → ((MemData.at1 l k).n : Int) ≤ lf) ∧ Below u.heap.size u w') := fun u => szData _ _ _ _ lf u hzk l0 (by omega)
          have hb' : Hid (Below w.heap.size w wr) := hb
          have hstep : Hid (∀ r : Int, 0 ≤ r → ((MemData.at1 l k).n : Int) ≤ lf → ∀ j, j < k + 1 → ((MemData.at1 l j).n : Int) ≤ 1048576) := fun r _ hbd j hj => by
            by_cases e : j = k
            · subst e; omega
            · exact hall'.out j (by omega)
          clear hb hc hall hrb
          generalize (MemData.at1 l k).n = y0 at *
          generalize (MemData.at1 l k).pos = y1 at *
          generalize (MemData.at1 l k).ad = y2 at *
          generalize (MemData.at1 l k).cp = y3 at *
          go_wp2_with (go_at_call 63; refine (hs.out _).mono ?_; rintro e w2 ⟨r, rfl, r1, r2, r3, b2⟩)
          · go_ret
            exact ⟨-1, rfl, by omega, by omega, fun h => by omega, hb'.out.trans (b2.mono hb'.out.size)⟩
          · go_roundw
            case rel => exact ⟨k + 1, r, by omega, by go_num, rfl, by omega, by omega, hstep.out r (by omega) (r3 (by omega)), hb'.out.trans (b2.mono hb'.out.size)⟩
            case measure => simp [intOf]; omega
      · obtain rfl : k = l.length := by omega
        have hb' : Hid (Below w.heap.size w wr) := hb
        clear hb hall
        go_wp2_with fail
        go_ret
        exact ⟨lf, rfl, by omega, by omega, fun _ => ⟨hle, hall'.out⟩, hb'.out⟩
  · have h' : left - (l.length : Int) < 0 := by omega
    clear h hz
    go_enter Tryz.func27, Tryz.ntmps27
    go_wp2_with fail
    go_ret
    exact ⟨-1, rfl, by omega, by omega, fun h => by omega, Below.refl _ _⟩
end Go.Proofs.YtdaffcbamnpjfaaGreatDoor.ModSz2
