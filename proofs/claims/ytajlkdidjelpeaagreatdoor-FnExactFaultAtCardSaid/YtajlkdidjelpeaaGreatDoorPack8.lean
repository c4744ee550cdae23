/-
  How much a module's parts take: the laws' own counting.
  Slices of functions in memory (each with a body, a slice of its own), and what the laws' own helpers on them do.
  Slices of bytes in memory, and what the laws' own helpers on them do: copy, compare, mark, look at the marks.
-/
import Derived.Test.YtajlkdidjelpeaaGreatDoorPack6
import Derived.Test.YtajlkdidjelpeaaGreatDoorPack7
import Derived.Test.YtajlkdidjelpeaaGreatDoorPack5
import Derived.Test.YtajlkdidjelpeaaGreatDoorPack3
import Derived.Deep.QuietTactic
import Derived.BigQuiet
import Derived.Deep.OwnRows
import Derived.Below
import Derived.WalkSpells
import Derived.WalkSmall
namespace Go.Proofs.YtajlkdidjelpeaaGreatDoor.ModSz
open Go.RowKit InsMem
theorem szInsS (a : Option Addr) (n cap : Nat) (left : Int) (w : World) (hn : n ≤ 9223372036854775807) (h0 : 0 ≤ left) (h1 : left ≤ 1048576) :
    Calls Tryz.prog 104 #[.slice a n cap, .int .i64 left] w fun e w' => e = .returned (.int .i64 (if (n : Int) ≤ left then left - (n : Int) else -1)) ∧ w = w' := by
  by_cases h : (n : Int) ≤ left
  · rw [if_pos h]
    have h' : ¬ left - (n : Int) < 0 := by omega
    go_enter Tryz.func104, Tryz.ntmps104
    go_wp2_with fail
    all_goals (go_ret; exact ⟨rfl, rfl⟩)
  · rw [if_neg h]
    have h' : left - (n : Int) < 0 := by omega
    go_enter Tryz.func104, Tryz.ntmps104
    go_wp2_with fail
    all_goals (go_ret; exact ⟨rfl, rfl⟩)
theorem szSigS (a : Option Addr) (n cap : Nat) (left : Int) (w : World) (hn : n ≤ 9223372036854775807) (h0 : 0 ≤ left) (h1 : left ≤ 1048576) :
    Calls Tryz.prog 22 #[.slice a n cap, .int .i64 left] w fun e w' => e = .returned (.int .i64 (if (n : Int) ≤ left then left - (n : Int) else -1)) ∧ w = w' := by
  by_cases h : (n : Int) ≤ left
  · rw [if_pos h]
    have h' : ¬ left - (n : Int) < 0 := by omega
    go_enter Tryz.func22, Tryz.ntmps22
    go_wp2_with fail
    all_goals (go_ret; exact ⟨rfl, rfl⟩)
  · rw [if_neg h]
    have h' : left - (n : Int) < 0 := by omega
    go_enter Tryz.func22, Tryz.ntmps22
    go_wp2_with fail
    all_goals (go_ret; exact ⟨rfl, rfl⟩)
theorem szGlobalS (a : Option Addr) (n cap : Nat) (left : Int) (w : World) (hn : n ≤ 9223372036854775807) (h0 : 0 ≤ left) (h1 : left ≤ 1048576) :
    Calls Tryz.prog 25 #[.slice a n cap, .int .i64 left] w fun e w' => e = .returned (.int .i64 (if (n : Int) ≤ left then left - (n : Int) else -1)) ∧ w = w' := by
  by_cases h : (n : Int) ≤ left
  · rw [if_pos h]
    have h' : ¬ left - (n : Int) < 0 := by omega
    go_enter Tryz.func25, Tryz.ntmps25
    go_wp2_with fail
    all_goals (go_ret; exact ⟨rfl, rfl⟩)
  · rw [if_neg h]
    have h' : left - (n : Int) < 0 := by omega
    go_enter Tryz.func25, Tryz.ntmps25
    go_wp2_with fail
    all_goals (go_ret; exact ⟨rfl, rfl⟩)
theorem szByteS (a : Option Addr) (n cap : Nat) (left : Int) (w : World) (hn : n ≤ 9223372036854775807) (h0 : 0 ≤ left) (h1 : left ≤ 1048576) :
    Calls Tryz.prog 105 #[.slice a n cap, .int .i64 left] w fun e w' => e = .returned (.int .i64 (if (n : Int) ≤ left then left - (n : Int) else -1)) ∧ w = w' := by
  by_cases h : (n : Int) ≤ left
  · rw [if_pos h]
    have h' : ¬ left - (n : Int) < 0 := by omega
    go_enter Tryz.func105, Tryz.ntmps105
    go_wp2_with fail
    all_goals (go_ret; exact ⟨rfl, rfl⟩)
  · rw [if_neg h]
    have h' : left - (n : Int) < 0 := by omega
    go_enter Tryz.func105, Tryz.ntmps105
    go_wp2_with fail
    all_goals (go_ret; exact ⟨rfl, rfl⟩)
theorem szImport (x0 : ByteArray) (x1 : ByteArray) (x2 : Int) (left : Int) (w : World) (z0 : x0.size ≤ 9223372036854775807) (z1 : x1.size ≤ 9223372036854775807) (h0 : 0 ≤ left) (h1 : left ≤ 1048576) :
    Calls Tryz.prog 60 #[.agg #[.string x0, .string x1, .int .i64 x2], .int .i64 left] w fun e w' => ∃ r : Int, e = .returned (.int .i64 r) ∧ r ≤ left ∧ -1 ≤ r ∧ (0 ≤ r → (x0.size : Int) ≤ left ∧ (x1.size : Int) ≤ left) ∧ Below w.heap.size w w' := by
  by_cases a0 : (x0.size : Int) ≤ left
  · have n0 : ¬ left - (x0.size : Int) < 0 := by omega
    by_cases a1 : (x1.size : Int) ≤ left - (x0.size : Int)
    · have n1 : ¬ left - (x0.size : Int) - (x1.size : Int) < 0 := by omega
      go_enter Tryz.func60, Tryz.ntmps60
      go_wp2_with fail
      go_ret
      exact ⟨_, rfl, by omega, by omega, fun _ => by omega, (Below.refl _ _).alloc (Nat.le_refl _) _⟩
    · have n1 : left - (x0.size : Int) - (x1.size : Int) < 0 := by omega
      go_enter Tryz.func60, Tryz.ntmps60
      go_wp2_with fail
      go_ret
      exact ⟨-1, rfl, by omega, by omega, fun h => by omega, (Below.refl _ _).alloc (Nat.le_refl _) _⟩
  · have n0 : left - (x0.size : Int) < 0 := by omega
    go_enter Tryz.func60, Tryz.ntmps60
    go_wp2_with fail
    go_ret
    exact ⟨-1, rfl, by omega, by omega, fun h => by omega, (Below.refl _ _).alloc (Nat.le_refl _) _⟩
set_option maxHeartbeats 4000000 in
theorem szImportS (w : World) (a : Option Addr) (cap : Nat) (l : List MemImport.E) (left : Int) (h : MemImport.Rd w a l) (hn : l.length ≤ 9223372036854775807) (hz : ∀ j, j < l.length → (MemImport.f0At l j).size ≤ 9223372036854775807 ∧ (MemImport.f1At l j).size ≤ 9223372036854775807) (h0 : 0 ≤ left) (h1 : left ≤ 1048576) :
    Calls Tryz.prog 23 #[.slice a l.length cap, .int .i64 left] w fun e w' => ∃ r : Int, e = .returned (.int .i64 r) ∧ r ≤ left ∧ -1 ≤ r ∧ (0 ≤ r → (l.length : Int) ≤ left ∧ ∀ j, j < l.length → ((MemImport.f0At l j).size : Int) ≤ 1048576 ∧ ((MemImport.f1At l j).size : Int) ≤ 1048576) ∧ Below w.heap.size w w' := by
  by_cases hle : (l.length : Int) ≤ left
  · have h' : ¬ left - (l.length : Int) < 0 := by omega
    have k1 : Hid (MemImport.Rd w a l) := h
    have hz' : Hid (∀ j, j < l.length → (MemImport.f0At l j).size ≤ 9223372036854775807 ∧ (MemImport.f1At l j).size ≤ 9223372036854775807) := hz
    clear h hz
    go_enter Tryz.func23, Tryz.ntmps23
    go_wp2_with fail
    go_loopw [1, 5] (fun vl i wr => ∃ (k : Nat) (lf : Int), k ≤ l.length ∧ i = .int .i64 k ∧ vl = .int .i64 lf ∧ 0 ≤ lf ∧ lf ≤ left ∧ (∀ j, j < k → ((MemImport.f0At l j).size : Int) ≤ 1048576 ∧ ((MemImport.f1At l j).size : Int) ≤ 1048576) ∧ Below w.heap.size w wr) (fun _ i _ => l.length - (intOf i).toNat)
    case atStart => exact ⟨0, left - (l.length : Int), Nat.zero_le _, rfl, rfl, by omega, by omega, fun j hj => by omega, Below.refl _ _⟩
    case round =>
      obtain ⟨k, lf, hk, rfl, rfl, l0, l1, hall, hb⟩ := hrel
      have hall' : Hid (∀ j, j < k → ((MemImport.f0At l j).size : Int) ≤ 1048576 ∧ ((MemImport.f1At l j).size : Int) ≤ 1048576) := hall
      by_cases hlt : k < l.length
      · have hlt' : (k : Int) < (l.length : Int) := by omega
        rcases k1.out.later hb with h0' | ⟨b, off, ha, hc⟩
        · omega
        · obtain ⟨c0, c1, c2⟩ := hc k hlt
          have hzk := hz'.out k hlt
          subst ha
          have hs : Hid (∀ u, Calls Tryz.prog 60 #[.agg #[.string (MemImport.f0At l k), .string (MemImport.f1At l k), .int .i64 (MemImport.f2At l k)], .int .i64 lf] u fun e w' => ∃ r : Int, e = .returned (.int .i64 r) ∧ r ≤ lf ∧ -1 ≤ r ∧ (0 ≤ r → ((MemImport.f0At l k).size : Int) ≤ lf ∧ ((MemImport.f1At l k).size : Int) ≤ lf) ∧ Below u.heap.size u w') := fun u => szImport (MemImport.f0At l k) (MemImport.f1At l k) (MemImport.f2At l k) lf u hzk.1 hzk.2 l0 (by omega)
          have hb' : Hid (Below w.heap.size w wr) := hb
          clear hb hc hall
          have hstep : Hid (∀ r : Int, 0 ≤ r → (((MemImport.f0At l k).size : Int) ≤ lf ∧ ((MemImport.f1At l k).size : Int) ≤ lf) → ∀ j, j < k + 1 → ((MemImport.f0At l j).size : Int) ≤ 1048576 ∧ ((MemImport.f1At l j).size : Int) ≤ 1048576) := fun r _ hbd j hj => by
            by_cases e : j = k
            · subst e; omega
            · exact hall'.out j (by omega)
          generalize MemImport.f0At l k = x0 at *
          generalize MemImport.f1At l k = x1 at *
          generalize MemImport.f2At l k = x2 at *
          go_wp2_with (go_at_call 60; refine (hs.out _).mono ?_; rintro e w2 ⟨r, rfl, r1, r2, r3, b2⟩)
          · go_ret
            exact ⟨-1, rfl, by omega, by omega, fun h => by omega, hb'.out.trans (b2.mono hb'.out.size)⟩
          · go_roundw
            case rel => exact ⟨k + 1, r, by omega, by go_num, rfl, by omega, by omega, hstep.out r (by omega) (r3 (by omega)), hb'.out.trans (b2.mono hb'.out.size)⟩
            case measure => simp [intOf]; omega
      · obtain rfl : k = l.length := by omega
        have hb' : Hid (Below w.heap.size w wr) := hb
        clear hb hall
        go_wp2_with fail
        go_ret
        exact ⟨lf, rfl, by omega, by omega, fun _ => ⟨hle, hall'.out⟩, hb'.out⟩
  · have h' : left - (l.length : Int) < 0 := by omega
    clear h hz
    go_enter Tryz.func23, Tryz.ntmps23
    go_wp2_with fail
    go_ret
    exact ⟨-1, rfl, by omega, by omega, fun h => by omega, Below.refl _ _⟩
theorem szExport (x0 : ByteArray) (x1 : Int) (x2 : Int) (left : Int) (w : World) (z0 : x0.size ≤ 9223372036854775807) (h0 : 0 ≤ left) (h1 : left ≤ 1048576) :
    Calls Tryz.prog 62 #[.agg #[.string x0, .int .i64 x1, .int .i64 x2], .int .i64 left] w fun e w' => ∃ r : Int, e = .returned (.int .i64 r) ∧ r ≤ left ∧ -1 ≤ r ∧ (0 ≤ r → (x0.size : Int) ≤ left) ∧ Below w.heap.size w w' := by
  by_cases a0 : (x0.size : Int) ≤ left
  · have n0 : ¬ left - (x0.size : Int) < 0 := by omega
    go_enter Tryz.func62, Tryz.ntmps62
    go_wp2_with fail
    go_ret
    first | exact ⟨_, rfl, by omega, by omega, fun _ => by omega, (Below.refl _ _).alloc (Nat.le_refl _) _⟩ | exact ⟨_, rfl, by omega, by omega, (Below.refl _ _).alloc (Nat.le_refl _) _⟩
  · have n0 : left - (x0.size : Int) < 0 := by omega
    go_enter Tryz.func62, Tryz.ntmps62
    go_wp2_with fail
    go_ret
    exact ⟨-1, rfl, by omega, by omega, fun h => by omega, (Below.refl _ _).alloc (Nat.le_refl _) _⟩
set_option maxHeartbeats 4000000 in
theorem szExportS (w : World) (a : Option Addr) (cap : Nat) (l : List MemExport.E) (left : Int) (h : MemExport.Rd w a l) (hn : l.length ≤ 9223372036854775807) (hz : ∀ j, j < l.length → (MemExport.f0At l j).size ≤ 9223372036854775807) (h0 : 0 ≤ left) (h1 : left ≤ 1048576) :
    Calls Tryz.prog 26 #[.slice a l.length cap, .int .i64 left] w fun e w' => ∃ r : Int, e = .returned (.int .i64 r) ∧ r ≤ left ∧ -1 ≤ r ∧ (0 ≤ r → (l.length : Int) ≤ left ∧ ∀ j, j < l.length → ((MemExport.f0At l j).size : Int) ≤ 1048576) ∧ Below w.heap.size w w' := by
  by_cases hle : (l.length : Int) ≤ left
  · have h' : ¬ left - (l.length : Int) < 0 := by omega
    have k1 : Hid (MemExport.Rd w a l) := h
    have hz' : Hid (∀ j, j < l.length → (MemExport.f0At l j).size ≤ 9223372036854775807) := hz
    clear h hz
    go_enter Tryz.func26, Tryz.ntmps26
    go_wp2_with fail
    go_loopw [1, 5] (fun vl i wr => ∃ (k : Nat) (lf : Int), k ≤ l.length ∧ i = .int .i64 k ∧ vl = .int .i64 lf ∧ 0 ≤ lf ∧ lf ≤ left ∧ (∀ j, j < k → ((MemExport.f0At l j).size : Int) ≤ 1048576) ∧ Below w.heap.size w wr) (fun _ i _ => l.length - (intOf i).toNat)
    case atStart => exact ⟨0, left - (l.length : Int), Nat.zero_le _, rfl, rfl, by omega, by omega, fun j hj => by omega, Below.refl _ _⟩
    case round =>
      obtain ⟨k, lf, hk, rfl, rfl, l0, l1, hall, hb⟩ := hrel
      have hall' : Hid (∀ j, j < k → ((MemExport.f0At l j).size : Int) ≤ 1048576) := hall
      by_cases hlt : k < l.length
      · have hlt' : (k : Int) < (l.length : Int) := by omega
        rcases k1.out.later hb with h0' | ⟨b, off, ha, hc⟩
        · omega
        · obtain ⟨c0, c1, c2⟩ := hc k hlt
          have hzk := hz'.out k hlt
          subst ha
          have hs : Hid (∀ u, Calls Tryz.prog 62 #[.agg #[.string (MemExport.f0At l k), .int .i64 (MemExport.f1At l k), .int .i64 (MemExport.f2At l k)], .int .i64 lf] u fun e w' => ∃ r : Int, e = .returned (.int .i64 r) ∧ r ≤ lf ∧ -1 ≤ r ∧ (0 ≤ r → ((MemExport.f0At l k).size : Int) ≤ lf) ∧ Below u.heap.size u w') := fun u => szExport (MemExport.f0At l k) (MemExport.f1At l k) (MemExport.f2At l k) lf u hzk l0 (by omega)
          have hb' : Hid (Below w.heap.size w wr) := hb
          clear hb hc hall
          have hstep : Hid (∀ r : Int, 0 ≤ r → (((MemExport.f0At l k).size : Int) ≤ lf) → ∀ j, j < k + 1 → ((MemExport.f0At l j).size : Int) ≤ 1048576) := fun r _ hbd j hj => by
            by_cases e : j = k
            · subst e; omega
            · exact hall'.out j (by omega)
          generalize MemExport.f0At l k = x0 at *
          generalize MemExport.f1At l k = x1 at *
          generalize MemExport.f2At l k = x2 at *
          go_wp2_with (go_at_call 62; refine (hs.out _).mono ?_; rintro e w2 ⟨r, rfl, r1, r2, r3, b2⟩)
          · go_ret
            exact ⟨-1, rfl, by omega, by omega, fun h => by omega, hb'.out.trans (b2.mono hb'.out.size)⟩
          · go_roundw
            case rel => exact ⟨k + 1, r, by omega, by go_num, rfl, by omega, by omega, hstep.out r (by omega) (r3 (by omega)), hb'.out.trans (b2.mono hb'.out.size)⟩
            case measure => simp [intOf]; omega
      · obtain rfl : k = l.length := by omega
        have hb' : Hid (Below w.heap.size w wr) := hb
        clear hb hall
        go_wp2_with fail
        go_ret
        exact ⟨lf, rfl, by omega, by omega, fun _ => ⟨hle, hall'.out⟩, hb'.out⟩
  · have h' : left - (l.length : Int) < 0 := by omega
    clear h hz
    go_enter Tryz.func26, Tryz.ntmps26
    go_wp2_with fail
    go_ret
    exact ⟨-1, rfl, by omega, by omega, fun h => by omega, Below.refl _ _⟩
end Go.Proofs.YtajlkdidjelpeaaGreatDoor.ModSz
namespace Go.Proofs.YtajlkdidjelpeaaGreatDoor.MemFunc
open Go.RowKit PlainShape InsMem

structure E where
  sig : Int
  loc : Int
  ad : Option Addr
  cp : Nat
  body : List I3
def dE : E := ⟨0, 0, none, 0, []⟩
def at1 (l : List E) (k : Nat) : E := l.getD k dE
/-- A slice of functions that can be read, bodies too. -/
def Rd (w : World) (a : Option Addr) (l : List E) : Prop :=
  l.length = 0 ∨ ∃ b off, a = some ⟨b, off, none⟩ ∧ ∀ j, j < l.length → w.cell? ⟨b, off + j * 3, none⟩ = some (.int .i64 (at1 l j).sig) ∧ w.cell? ⟨b, off + j * 3 + 1, none⟩ = some (.int .i64 (at1 l j).loc) ∧ w.cell? ⟨b, off + j * 3 + 2, none⟩ = some (.slice (at1 l j).ad (at1 l j).body.length (at1 l j).cp) ∧ RdI w (at1 l j).ad (at1 l j).body
theorem Rd.later {w w' : World} {a : Option Addr} {l : List E} (h : Rd w a l) (hb : Below w.heap.size w w') : Rd w' a l := by
  rcases h with h | ⟨b, off, ha, hc⟩
  · exact .inl h
  · refine .inr ⟨b, off, ha, fun j hj => ?_⟩
    obtain ⟨c0, c1, c2, hr⟩ := hc j hj
    have hs : b < w.heap.size := World.block_lt_of_cell? w _ c0
    exact ⟨by rw [hb.cell hs]; exact c0, by rw [hb.cell hs]; exact c1, by rw [hb.cell hs]; exact c2, hr.later hb⟩
def R3 (v0 v1 v2 : Value) (j : Nat) : Value := if j = 0 then v0 else if j = 1 then v1 else v2
theorem r3_made (w : World) (v0 v1 v2 : Value) (t : TypeId) : (w.alloc (.cells #[v0, v1, v2] t)).rowIs w.heap.size t 3 (R3 v0 v1 v2) :=
  World.rowIs_alloc w #[v0, v1, v2] t _ (fun i hi => by
    match i, hi with
    | 0, _ => rfl
    | 1, _ => rfl
    | 2, _ => rfl)
theorem r3 {w : World} {b : Nat} {t : TypeId} {v0 v1 v2 : Value} (h : w.rowIs b t 3 (R3 v0 v1 v2)) :
    w.cell? ⟨b, 0, none⟩ = some v0 ∧ w.cell? ⟨b, 1, none⟩ = some v1 ∧ w.cell? ⟨b, 2, none⟩ = some v2 ∧ w.frozen? ⟨b, 0, none⟩ = false ∧ w.frozen? ⟨b, 1, none⟩ = false ∧ w.frozen? ⟨b, 2, none⟩ = false :=
  ⟨h.cell (by omega), h.cell (by omega), h.cell (by omega), h.frozen _, h.frozen _, h.frozen _⟩
theorem s3 {w : World} {r : Nat} {t : TypeId} {f : Nat → Value} (h : w.rowIs r t 3 f) (o a b : Value) :
    (((w.setCell ⟨r, 0, none⟩ o).setCell ⟨r, 1, none⟩ a).setCell ⟨r, 2, none⟩ b).cell? ⟨r, 0, none⟩ = some o ∧
    (((w.setCell ⟨r, 0, none⟩ o).setCell ⟨r, 1, none⟩ a).setCell ⟨r, 2, none⟩ b).cell? ⟨r, 1, none⟩ = some a ∧
    (((w.setCell ⟨r, 0, none⟩ o).setCell ⟨r, 1, none⟩ a).setCell ⟨r, 2, none⟩ b).cell? ⟨r, 2, none⟩ = some b := by
  have h3 := ((h.set 0 o).set 1 a).set 2 b
  refine ⟨?_, ?_, ?_⟩ <;> rw [h3.cell (by omega)] <;> simp
theorem b3 {n r : Nat} {w : World} (hr : n ≤ r) (o a b : Value) : Below n w (((w.setCell ⟨r, 0, none⟩ o).setCell ⟨r, 1, none⟩ a).setCell ⟨r, 2, none⟩ b) :=
  (((Below.refl n w).setCell (p := ⟨r, 0, none⟩) hr o).setCell (p := ⟨r, 1, none⟩) hr a).setCell (p := ⟨r, 2, none⟩) hr b
set_option maxHeartbeats 2000000 in
theorem to1 (s x : Int) (a : Option Addr) (c : Nat) (l : List I3) (w : World) (h : RdI w a l) (hn : l.length ≤ 1048576) :
    Calls Tryz.prog 73 #[.agg #[.int .i64 s, .int .i64 x, .slice a l.length c]] w fun e w' => ∃ g, e = .returned (.agg #[.int .i64 s, .int .i64 x, .slice (some ⟨g, 0, none⟩) l.length l.length]) ∧ w.heap.size ≤ g ∧ RdI w' (some ⟨g, 0, none⟩) l ∧ Below w.heap.size w w' := by
  have h' : Hid (RdI w a l) := h
  clear h
  have ba : Below w.heap.size w (((w.alloc (.cells #[.int .i64 s, .int .i64 x, .slice a l.length c] 106)).alloc (.cells #[.int .i64 0, .int .i64 0, .slice none 0 0] 60)).alloc (.cells #[.int .i64 s, .int .i64 x, .slice none 0 0] 60)) := (((Below.refl _ _).alloc (Nat.le_refl _) _).alloc (by simp) _).alloc (by simp; omega) _
  have ro : Hid ((((w.alloc (.cells #[.int .i64 s, .int .i64 x, .slice a l.length c] 106)).alloc (.cells #[.int .i64 0, .int .i64 0, .slice none 0 0] 60)).alloc (.cells #[.int .i64 s, .int .i64 x, .slice none 0 0] 60)).rowIs (w.heap.size + 1 + 1) 60 3 (R3 (.int .i64 s) (.int .i64 x) (.slice none 0 0))) := by
    have := r3_made ((w.alloc (.cells #[.int .i64 s, .int .i64 x, .slice a l.length c] 106)).alloc (.cells #[.int .i64 0, .int .i64 0, .slice none 0 0] 60)) (.int .i64 s) (.int .i64 x) (.slice none 0 0) 60
    simp only [World.size_alloc] at this
    exact this
  have rr : Hid ((((w.alloc (.cells #[.int .i64 s, .int .i64 x, .slice a l.length c] 106)).alloc (.cells #[.int .i64 0, .int .i64 0, .slice none 0 0] 60)).alloc (.cells #[.int .i64 s, .int .i64 x, .slice none 0 0] 60)).rowIs (w.heap.size + 1) 60 3 (R3 (.int .i64 0) (.int .i64 0) (.slice none 0 0))) := by
    have := (r3_made (w.alloc (.cells #[.int .i64 s, .int .i64 x, .slice a l.length c] 106)) (.int .i64 0) (.int .i64 0) (.slice none 0 0) 60).alloc (.cells #[.int .i64 s, .int .i64 x, .slice none 0 0] 60)
    simp only [World.size_alloc] at this
    exact this
  go_enter Tryz.func73, Tryz.ntmps73
  go_wp2_with (go_at_call 113; refine (toInsS _ a c l (h'.out.later ba) hn).mono ?_; rintro e w1 ⟨g, rfl, hg, hrow, q1⟩; have ro1 : Hid (w1.rowIs (w.heap.size + 1 + 1) 60 3 (R3 (.int .i64 s) (.int .i64 x) (.slice none 0 0))) := row_later ro.out q1; have rr1 : Hid (w1.rowIs (w.heap.size + 1) 60 3 (R3 (.int .i64 0) (.int .i64 0) (.slice none 0 0))) := row_later rr.out q1; obtain ⟨a0, a1, a2, f0, f1, f2⟩ := r3 ro1.out; obtain ⟨p0, p1, p2, t0, t1, t2⟩ := r3 rr1.out; have hrw : Hid (w1.rowIs g 62 (l.length * 3) (fun j => .int .i64 (cv l j))) := hrow; clear hrow)
  simp only [World.size_alloc] at hg
  obtain ⟨e0, e1, e2⟩ := s3 (rr1.out.setOther (a := ⟨w.heap.size + 1 + 1, 2, none⟩) (by simp) (.slice (some ⟨g, 0, none⟩) l.length l.length)) (.int .i64 s) (.int .i64 x) (.slice (some ⟨g, 0, none⟩) l.length l.length)
  refine bodyPost_ret ?_ rfl ⟨g, rfl, by omega, ?_, ?_⟩
  · simp [results, go_sem, e0, e1, e2]
  · exact rdI_of_row ((((hrw.out.setOther (a := ⟨w.heap.size + 1 + 1, 2, none⟩) (by simp; omega) _).setOther (a := ⟨w.heap.size + 1, 0, none⟩) (by simp; omega) _).setOther (a := ⟨w.heap.size + 1, 1, none⟩) (by simp; omega) _).setOther (a := ⟨w.heap.size + 1, 2, none⟩) (by simp; omega) _)
  · exact (ba.trans (q1.mono ba.size)).trans (((Below.refl _ _).setCell (p := ⟨w.heap.size + 1 + 1, 2, none⟩) (by simp; omega) _).trans (b3 (by omega) _ _ _))
set_option maxHeartbeats 2000000 in
theorem eq1 (s x : Int) (a a' : Option Addr) (c c' : Nat) (l : List I3) (w : World) (h : RdI w a l) (h2 : RdI w a' l) (hn : l.length ≤ 2097152) :
    Calls Tryz.prog 84 #[.agg #[.int .i64 s, .int .i64 x, .slice a l.length c], .agg #[.int .i64 s, .int .i64 x, .slice a' l.length c']] w fun e w' => e = .returned (.bool true) ∧ Below w.heap.size w w' := by
  have ba : Below w.heap.size w ((w.alloc (.cells #[.int .i64 s, .int .i64 x, .slice a l.length c] 60)).alloc (.cells #[.int .i64 s, .int .i64 x, .slice a' l.length c'] 60)) := ((Below.refl _ _).alloc (Nat.le_refl _) _).alloc (by simp) _
  have h1' : Hid (RdI w a l) := h
  have h2' : Hid (RdI w a' l) := h2
  clear h h2
  go_enter Tryz.func84, Tryz.ntmps84
  go_wp2_with (go_at_call 129; refine (eqInsS _ a a' c c' l (h1'.out.later ba) (h2'.out.later ba) hn).mono ?_; rintro e w1 ⟨rfl, q1⟩)
  go_ret
  exact ⟨rfl, ba.trans (q1.mono ba.size)⟩
def cvF (G : Nat → Nat) (l : List E) (j : Nat) : Value := if j % 3 = 0 then .int .i64 (at1 l (j / 3)).sig else if j % 3 = 1 then .int .i64 (at1 l (j / 3)).loc else .slice (some ⟨G (j / 3), 0, none⟩) (at1 l (j / 3)).body.length (at1 l (j / 3)).body.length
def zvF (j : Nat) : Value := if j % 3 = 0 then .int .i64 0 else if j % 3 = 1 then .int .i64 0 else .slice none 0 0
theorem cvF0 (G : Nat → Nat) (l : List E) (k : Nat) : cvF G l (k * 3) = .int .i64 (at1 l k).sig := by unfold cvF; rw [if_pos (by omega), show k * 3 / 3 = k by omega]
theorem cvF1 (G : Nat → Nat) (l : List E) (k : Nat) : cvF G l (k * 3 + 1) = .int .i64 (at1 l k).loc := by unfold cvF; rw [if_neg (by omega), if_pos (by omega), show (k * 3 + 1) / 3 = k by omega]
theorem cvF2 (G : Nat → Nat) (l : List E) (k : Nat) : cvF G l (k * 3 + 2) = .slice (some ⟨G k, 0, none⟩) (at1 l k).body.length (at1 l k).body.length := by unfold cvF; rw [if_neg (by omega), if_neg (by omega), show (k * 3 + 2) / 3 = k by omega]
theorem cvF_upd (G : Nat → Nat) (l : List E) (k g j : Nat) (hj : j < k * 3) : cvF (fun i => if i = k then g else G i) l j = cvF G l j := by
  have : j / 3 ≠ k := by omega
  simp [cvF, this]
theorem infoF : (Tryz.prog.info? 60).map (fun i => (i.zero, i.size, i.bytes)) = some (some (.agg #[.int .i64 0, .int .i64 0, .slice none 0 0]), 3, 40) := by kernel_rfl
theorem run_mkF (m : Nat) (hn : m ≤ 1048576) (w : World) :
    (Instr.makeSlice 34 (.int .i64 (m : Int)) (.int .i64 (m : Int))).run Tryz.prog w = .ok (.slice (some ⟨w.heap.size, 0, none⟩) m m) (w.alloc (.cells (madeCells #[.int .i64 0, .int .i64 0, .slice none 0 0] (m * 3)) 60)) := by
  obtain ⟨i, hi, hzz⟩ := Option.map_eq_some_iff.1 infoF
  simp only [Prod.mk.injEq] at hzz
  obtain ⟨hz, hs, hb⟩ := hzz
  have hr := run_make (P := Tryz.prog) w 34 60 i _ Tryz.underlying34 hi hz .i64 .i64 m m (by omega) (Int.le_refl _) (by rw [hb]; omega) (by omega)
  simp only [Int.toNat_natCast, hs] at hr
  exact hr
theorem madeF (w : World) (m : Nat) : (w.alloc (.cells (madeCells #[.int .i64 0, .int .i64 0, .slice none 0 0] (m * 3)) 60)).rowIs w.heap.size 60 (m * 3) zvF :=
  ⟨madeCells #[.int .i64 0, .int .i64 0, .slice none 0 0] (m * 3), Deep.blk_alloc_new _ _, size_madeCells _ _, fun i hi => by
    have : i % 3 = 0 ∨ i % 3 = 1 ∨ i % 3 = 2 := by omega
    rcases this with h | h | h <;> simp [madeCells, zvF, hi, h]⟩
theorem rdI_other {w : World} {g : Nat} {l : List I3} {p : Addr} (h : RdI w (some ⟨g, 0, none⟩) l) (hne : g ≠ p.block) (v : Value) : RdI (w.setCell p v) (some ⟨g, 0, none⟩) l := by
  rcases h with h | ⟨b, off, ha, hc⟩
  · exact .inl h
  · simp only [Option.some.injEq, Addr.mk.injEq, and_true] at ha
    obtain ⟨rfl, rfl⟩ := ha
    refine .inr ⟨g, 0, rfl, fun j hj => ?_⟩
    obtain ⟨c0, c1, c2⟩ := hc j hj
    have hk : ∀ o, (w.setCell p v).cell? ⟨g, o, none⟩ = w.cell? ⟨g, o, none⟩ := fun o => World.cell?_setCell_other (w := w) (a := p) (b := ⟨g, o, none⟩) (v := v) (fun e => hne (by first | rw [← e] | rw [e]))
    exact ⟨(hk _).trans c0, (hk _).trans c1, (hk _).trans c2⟩
set_option maxRecDepth 20000 in
set_option maxHeartbeats 8000000 in
theorem toS (w : World) (a : Option Addr) (cap : Nat) (l : List E) (h : Rd w a l) (hn : l.length ≤ 1048576) (hbd : ∀ j, j < l.length → (at1 l j).body.length ≤ 1048576) :
    Calls Tryz.prog 34 #[.slice a l.length cap] w fun e w' => ∃ (b : Nat) (G : Nat → Nat), e = .returned (.slice (some ⟨b, 0, none⟩) l.length l.length) ∧ w.heap.size ≤ b ∧ w'.rowIs b 60 (l.length * 3) (cvF G l) ∧ (∀ j, j < l.length → w.heap.size < G j ∧ RdI w' (some ⟨G j, 0, none⟩) (at1 l j).body) ∧ Below w.heap.size w w' := by
  have hmk := run_mkF l.length hn
  have h' : Hid (Rd w a l) := h
  have hbd' : Hid (∀ j, j < l.length → (at1 l j).body.length ≤ 1048576) := hbd
  clear h hbd
  go_enter Tryz.func34, Tryz.ntmps34
  go_wp2_with fail
  clear hmk
  go_loopw [4] (fun i wr => ∃ (k : Nat) (G : Nat → Nat), k ≤ l.length ∧ i = .int .i64 k ∧ wr.rowIs w.heap.size 60 (l.length * 3) (fun j => if j < k * 3 then cvF G l j else zvF j) ∧ (∀ j, j < k → w.heap.size < G j ∧ RdI wr (some ⟨G j, 0, none⟩) (at1 l j).body) ∧ Below w.heap.size w wr) (fun i _ => l.length - (intOf i).toNat)
  case atStart => exact ⟨0, fun _ => 0, Nat.zero_le _, rfl, (madeF w l.length).congr (fun i hi => by simp), fun j hj => by omega, (Below.refl _ _).alloc (Nat.le_refl _) _⟩
  case round =>
    obtain ⟨k, G, hk, rfl, hrow, hG, hbel⟩ := hrel
    have hwl := hrow.lt
    by_cases hlt : k < l.length
    · have hlt' : (k : Int) < (l.length : Int) := by omega
      rcases h'.out.later hbel with h0 | ⟨b, off, ha, hc⟩
      · omega
      · obtain ⟨c0, c1, c2, hrb⟩ := hc k hlt
        subst ha
        have e0 := fun G => cvF0 G l k
        have e1 := fun G => cvF1 G l k
        have e2 := fun G => cvF2 G l k
        have hT : Hid (Calls Tryz.prog 73 #[.agg #[.int .i64 (at1 l k).sig, .int .i64 (at1 l k).loc, .slice (at1 l k).ad (at1 l k).body.length (at1 l k).cp]] wr fun e w' => ∃ g, e = .returned (.agg #[.int .i64 (at1 l k).sig, .int .i64 (at1 l k).loc, .slice (some ⟨g, 0, none⟩) (at1 l k).body.length (at1 l k).body.length]) ∧ wr.heap.size ≤ g ∧ RdI w' (some ⟨g, 0, none⟩) (at1 l k).body ∧ Below wr.heap.size wr w') := to1 _ _ _ _ _ wr hrb (hbd'.out k hlt)
        have e0' : Hid _ := e0
        have e1' : Hid _ := e1
        have e2' : Hid _ := e2
        have hrow' : Hid (wr.rowIs w.heap.size 60 (l.length * 3) (fun j => if j < k * 3 then cvF G l j else zvF j)) := hrow
        have hbel' : Hid (Below w.heap.size w wr) := hbel
        have hG' : Hid (∀ j, j < k → w.heap.size < G j ∧ RdI wr (some ⟨G j, 0, none⟩) (at1 l j).body) := hG
        clear hrow hbel hc hrb hG e0 e1 e2
        generalize hbk : (at1 l k).body = bk at *
        generalize (at1 l k).sig = y0 at *
        generalize (at1 l k).loc = y1 at *
        generalize (at1 l k).ad = y2 at *
        generalize (at1 l k).cp = y3 at *
        have hbk' : Hid ((at1 l k).body = bk) := hbk
        clear hbk
        go_wp2_with (go_at_call 73; refine hT.out.mono ?_; rintro e w1 ⟨g, rfl, hg, hrg, b1⟩; have hr1 : Hid (w1.rowIs w.heap.size 60 (l.length * 3) (fun j => if j < k * 3 then cvF G l j else zvF j)) := row_later hrow'.out b1; obtain ⟨⟨z0, q0⟩, ⟨z1, q1⟩, ⟨z2, q2⟩, g0, g1, g2⟩ := three hr1.out (i := k * 3) (by omega) (.int .i64 y0) (.int .i64 y1); have hrg' : Hid (RdI w1 (some ⟨g, 0, none⟩) bk) := hrg; clear hrg)
        go_roundw
        case rel =>
          refine ⟨k + 1, fun i => if i = k then g else G i, by omega, by go_num, ((((hr1.out.set (k * 3) (.int .i64 y0)).set (k * 3 + 1) (.int .i64 y1)).set (k * 3 + 2) (.slice (some ⟨g, 0, none⟩) bk.length bk.length)).congr fun j hj => ?_), fun j hj => ?_, ?_⟩
          · by_cases z2 : j = k * 3 + 2
            · rw [if_pos z2, if_pos (by omega), z2, e2'.out]; simp
            · rw [if_neg z2]
              by_cases z1 : j = k * 3 + 1
              · rw [if_pos z1, if_pos (by omega), z1, e1'.out]
              · rw [if_neg z1]
                by_cases z0 : j = k * 3
                · rw [if_pos z0, if_pos (by omega), z0, e0'.out]
                · rw [if_neg z0]
                  by_cases z3 : j < k * 3
                  · rw [if_pos z3, if_pos (by omega), cvF_upd G l k g j z3]
                  · rw [if_neg z3, if_neg (by omega)]
          · by_cases ej : j = k
            · subst ej
              rw [hbk'.out]
              simp only [if_true]
              exact ⟨by omega, rdI_other (rdI_other (rdI_other hrg'.out (p := ⟨w.heap.size, _, none⟩) (by simp; omega) _) (p := ⟨w.heap.size, _, none⟩) (by simp; omega) _) (p := ⟨w.heap.size, _, none⟩) (by simp; omega) _⟩
            · obtain ⟨d1, d2⟩ := hG'.out j (by omega)
              simp only [if_neg ej]
              exact ⟨d1, rdI_other (rdI_other (rdI_other (d2.later b1) (p := ⟨w.heap.size, _, none⟩) (by simp; omega) _) (p := ⟨w.heap.size, _, none⟩) (by simp; omega) _) (p := ⟨w.heap.size, _, none⟩) (by simp; omega) _⟩
          · exact (((hbel'.out.trans (b1.mono hbel'.out.size)).setCell (Nat.le_refl _) _).setCell (Nat.le_refl _) _).setCell (Nat.le_refl _) _
        case measure => simp [intOf]; omega
    · obtain rfl : k = l.length := by omega
      have hrow' : Hid (wr.rowIs w.heap.size 60 (l.length * 3) (cvF G l)) := hrow.congr (fun j hj => by simp [hj])
      have hbel' : Hid (Below w.heap.size w wr) := hbel
      have hG' : Hid (∀ j, j < l.length → w.heap.size < G j ∧ RdI wr (some ⟨G j, 0, none⟩) (at1 l j).body) := hG
      clear hrow hbel hG
      go_wp2_with fail
      go_ret
      exact ⟨_, G, rfl, Nat.le_refl _, hrow'.out, hG'.out, hbel'.out⟩
set_option maxRecDepth 20000 in
set_option maxHeartbeats 8000000 in
theorem eqS (w : World) (a a' : Option Addr) (cap cap' : Nat) (l l' : List E) (h : Rd w a l) (h' : Rd w a' l') (hll : l'.length = l.length) (hn : l.length ≤ 2097152)
    (hsame : ∀ j, j < l.length → (at1 l' j).sig = (at1 l j).sig ∧ (at1 l' j).loc = (at1 l j).loc ∧ (at1 l' j).body = (at1 l j).body ∧ (at1 l j).body.length ≤ 2097152) :
    Calls Tryz.prog 42 #[.slice a l.length cap, .slice a' l.length cap'] w fun e w' => e = .returned (.bool true) ∧ Below w.heap.size w w' := by
  have k1 : Hid (Rd w a l) := h
  have k2 : Hid (Rd w a' l') := h'
  have hsame' : Hid (∀ j, j < l.length → (at1 l' j).sig = (at1 l j).sig ∧ (at1 l' j).loc = (at1 l j).loc ∧ (at1 l' j).body = (at1 l j).body ∧ (at1 l j).body.length ≤ 2097152) := hsame
  clear h h' hsame
  go_enter Tryz.func42, Tryz.ntmps42
  go_wp2_with fail
  go_loopw [5] (fun i wr => ∃ k : Nat, k ≤ l.length ∧ i = .int .i64 k ∧ Below w.heap.size w wr) (fun i _ => l.length - (intOf i).toNat)
  case atStart => exact ⟨0, Nat.zero_le _, rfl, Below.refl _ _⟩
  case round =>
    obtain ⟨k, hk, rfl, hb⟩ := hrel
    by_cases hlt : k < l.length
    · have hlt' : (k : Int) < (l.length : Int) := by omega
      rcases k1.out.later hb with h0 | ⟨b, off, ha, hc⟩
      · omega
      · rcases k2.out.later hb with h0' | ⟨b', off', ha', hc'⟩
        · omega
        · obtain ⟨c0, c1, c2, rb⟩ := hc k hlt
          obtain ⟨d0, d1, d2, rb'⟩ := hc' k (by omega)
          obtain ⟨s1, s2, s3, s4⟩ := hsame'.out k hlt
          rw [s1] at d0
          rw [s2] at d1
          rw [s3] at d2 rb'
          subst ha ha'
          have hq : Hid (∀ u, Below wr.heap.size wr u → Calls Tryz.prog 84 #[.agg #[.int .i64 (at1 l k).sig, .int .i64 (at1 l k).loc, .slice (at1 l k).ad (at1 l k).body.length (at1 l k).cp], .agg #[.int .i64 (at1 l k).sig, .int .i64 (at1 l k).loc, .slice (at1 l' k).ad (at1 l k).body.length (at1 l' k).cp]] u fun e w' => e = .returned (.bool true) ∧ Below u.heap.size u w') := fun u hu => eq1 _ _ _ _ _ _ _ u (rb.later hu) (rb'.later hu) s4
          have hb' : Hid (Below w.heap.size w wr) := hb
          clear hb hc hc' rb rb' s1 s2 s3 s4
          generalize (at1 l k).body.length = bn at *
          generalize (at1 l k).sig = y0 at *
          generalize (at1 l k).loc = y1 at *
          generalize (at1 l k).ad = y2 at *
          generalize (at1 l k).cp = y3 at *
          generalize (at1 l' k).ad = y4 at *
          generalize (at1 l' k).cp = y5 at *
          go_wp2_with fail
          go_region_held (fun w' => w'.cell? ⟨b, off + k * 3, none⟩ = some (.int .i64 y0) ∧ w'.cell? ⟨b, off + k * 3 + 1, none⟩ = some (.int .i64 y1) ∧ w'.cell? ⟨b, off + k * 3 + 2, none⟩ = some (.slice y2 bn y3) ∧ w'.cell? ⟨b', off' + k * 3, none⟩ = some (.int .i64 y0) ∧ w'.cell? ⟨b', off' + k * 3 + 1, none⟩ = some (.int .i64 y1) ∧ w'.cell? ⟨b', off' + k * 3 + 2, none⟩ = some (.slice y4 bn y5)) (go_keep)
            (first | (go_at_call 84; refine (hq.out _ (Below.refl _ _).drew).mono ?_; rintro e w2 ⟨rfl, b2⟩; obtain ⟨t0, t1, t2, t3, t4, t5⟩ := keep6 b2 c0 c1 c2 d0 d1 d2))
          go_wp2_with fail
          go_roundw
          case rel => exact ⟨k + 1, by omega, by go_num, hb'.out.drew.trans (b2.mono hb'.out.size)⟩
          case measure => simp [intOf]; omega
    · obtain rfl : k = l.length := by omega
      have hb' : Hid (Below w.heap.size w wr) := hb
      clear hb
      go_wp2_with fail
      go_ret
      exact ⟨rfl, hb'.out⟩
end Go.Proofs.YtajlkdidjelpeaaGreatDoor.MemFunc
namespace Go.Proofs.YtajlkdidjelpeaaGreatDoor.ByteMem
open Go.RowKit PlainNum NumCalls

/-- A slice of n bytes that can be read: byte j is Z j. -/
def Rd (w : World) (a : Option Addr) (n : Nat) (Z : Nat → Int) : Prop :=
  (∀ j, j < n → 0 ≤ Z j ∧ Z j ≤ 255) ∧ (n = 0 ∨ ∃ b off, a = some ⟨b, off, none⟩ ∧ ∀ j, j < n → w.cell? ⟨b, off + j, none⟩ = some (.int .u8 (Z j)))
theorem Rd.later {w w' : World} {a : Option Addr} {n : Nat} {Z : Nat → Int} (h : Rd w a n Z) (hb : Below w.heap.size w w') : Rd w' a n Z := by
  refine ⟨h.1, ?_⟩
  rcases h.2 with h | ⟨b, off, ha, hc⟩
  · exact .inl h
  · exact .inr ⟨b, off, ha, fun j hj => by rw [hb.cell (World.block_lt_of_cell? w _ (hc j hj))]; exact hc j hj⟩
theorem Rd.of_row {w : World} {b n m : Nat} {F : Nat → Value} {Z : Nat → Int} (h : w.rowIs b 5 m F) (hn : n ≤ m) (hF : ∀ j, j < n → F j = .int .u8 (Z j)) (hZ : ∀ j, j < n → 0 ≤ Z j ∧ Z j ≤ 255) : Rd w (some ⟨b, 0, none⟩) n Z :=
  ⟨hZ, .inr ⟨b, 0, rfl, fun j hj => by rw [Nat.zero_add, h.cell (show j < m by omega), hF j hj]⟩⟩
theorem addr_ne {b i j : Nat} (h : i ≠ j) : (⟨b, i, none⟩ : Addr) ≠ ⟨b, j, none⟩ := fun e => h (by injection e)
theorem info5 : (Tryz.prog.info? 5).map (fun i => (i.zero, i.size, i.bytes)) = some (some (.int .u8 0), 1, 1) := by kernel_rfl
theorem toByteS (w : World) (a : Option Addr) (n cap : Nat) (Z : Nat → Int) (h : Rd w a n Z) (hn : n ≤ 1048576) :
    Calls Tryz.prog 114 #[.slice a n cap] w fun e w' => ∃ b, e = .returned (.slice (some ⟨b, 0, none⟩) n n) ∧ w.heap.size ≤ b ∧ w'.rowIs b 5 n (fun j => .int .u8 (Z j)) ∧ Below w.heap.size w w' := by
  have hmk := run_make_row' (P := Tryz.prog) 110 5 (.int .u8 0) 1 Tryz.underlying110 info5 rfl .i64 .i64 n (by omega) (by omega)
  have h' : Hid (Rd w a n Z) := h
  clear h
  go_enter Tryz.func114, Tryz.ntmps114
  go_wp2_with fail
  clear hmk
  go_loopw [4] (fun i wr => ∃ k : Nat, k ≤ n ∧ i = .int .i64 k ∧ wr.rowIs w.heap.size 5 n (fun j => if j < k then .int .u8 (Z j) else .int .u8 0) ∧ Below w.heap.size w wr) (fun i _ => n - (intOf i).toNat)
  case atStart => exact ⟨0, Nat.zero_le _, rfl, (World.rowIs_made w (.int .u8 0) n 5).congr (fun i hi => by simp), (Below.refl _ _).alloc (Nat.le_refl _) _⟩
  case round =>
    obtain ⟨k, hk, rfl, hrow, hbel⟩ := hrel
    by_cases hlt : k < n
    · have hlt' : (k : Int) < (n : Int) := by omega
      obtain ⟨hZ, h0 | ⟨b, off, ha, hc⟩⟩ := h'.out
      · omega
      · have hbb : b < w.heap.size := World.block_lt_of_cell? w _ (hc k hlt)
        have hc1 : wr.cell? ⟨b, off + k, none⟩ = some (.int .u8 (Z k)) := by rw [hbel.cell hbb]; exact hc k hlt
        have hc2 : wr.cell? ⟨w.heap.size, k, none⟩ = some (.int .u8 0) := by rw [hrow.cell hlt]; simp
        have hf2 : wr.frozen? ⟨w.heap.size, k, none⟩ = false := hrow.frozen k
        have hz := hZ k hlt
        have hrow' : Hid ((wr.setCell ⟨w.heap.size, k, none⟩ (.int .u8 (Z k))).rowIs w.heap.size 5 n (fun j => if j < k + 1 then .int .u8 (Z j) else .int .u8 0)) :=
          (hrow.set k (.int .u8 (Z k))).congr (fun j hj => by
            by_cases e1 : j = k
            · subst e1; simp
            · by_cases e2 : j < k
              · simp [e1, e2, show j < k + 1 by omega]
              · simp [e1, e2, show ¬ j < k + 1 by omega])
        have hbel' : Hid (Below w.heap.size w (wr.setCell ⟨w.heap.size, k, none⟩ (.int .u8 (Z k)))) := hbel.setCell (Nat.le_refl _) _
        subst ha
        clear hrow hbel hc hZ
        go_wp2_with fail
        go_roundw
        case rel => exact ⟨k + 1, by omega, by go_num, hrow'.out, hbel'.out⟩
        case measure => simp [intOf]; omega
    · obtain rfl : k = n := by omega
      have hrow' : Hid (wr.rowIs w.heap.size 5 k (fun j => .int .u8 (Z j))) := hrow.congr (fun j hj => by simp [hj])
      have hbel' : Hid (Below w.heap.size w wr) := hbel
      clear hrow hbel
      go_wp2_with fail
      go_ret
      exact ⟨_, rfl, Nat.le_refl _, hrow'.out, hbel'.out⟩
theorem eqByteS (w : World) (a a' : Option Addr) (n cap cap' : Nat) (Z Z' : Nat → Int) (h : Rd w a n Z) (h' : Rd w a' n Z') (hn : n ≤ 9223372036854775806) (he : ∀ j, j < n → Z j = Z' j) :
    Calls Tryz.prog 130 #[.slice a n cap, .slice a' n cap'] w fun e w' => e = .returned (.bool true) ∧ ∃ m, w' = w.drewN m := by
  have k1 : Hid (Rd w a n Z) := h
  have k2 : Hid (Rd w a' n Z') := h'
  clear h h'
  go_enter Tryz.func130, Tryz.ntmps130
  go_wp2_with fail
  go_loopw [5] (fun i wr => ∃ k m : Nat, k ≤ n ∧ i = .int .i64 k ∧ wr = w.drewN m) (fun i _ => n - (intOf i).toNat)
  case atStart => exact ⟨0, 0, Nat.zero_le _, rfl, rfl⟩
  case round =>
    obtain ⟨k, m, hk, rfl, rfl⟩ := hrel
    by_cases hlt : k < n
    · have hlt' : (k : Int) < (n : Int) := by omega
      obtain ⟨hZ, h0 | ⟨b, off, ha, hc⟩⟩ := k1.out
      · omega
      · obtain ⟨hZ', h0' | ⟨b', off', ha', hc'⟩⟩ := k2.out
        · omega
        · have c1 := hc k hlt
          have c2 := hc' k hlt
          have hz := hZ k hlt
          have hq := he k hlt
          rw [← hq] at c2
          subst ha ha'
          clear hc hc' hZ hZ' he hq
          go_wp2_with fail
          go_quiet (fail)
          go_wp2_with fail
          go_roundw
          case rel => exact ⟨k + 1, _, by omega, by go_num, rfl⟩
          case measure => simp [intOf]; omega
    · obtain rfl : k = n := by omega
      go_wp2_with fail
      go_ret
      exact ⟨rfl, _, rfl⟩
/-- A slice of n bytes that can be written. -/
def Wt (w : World) (a : Option Addr) (n : Nat) : Prop :=
  n = 0 ∨ ∃ b off, a = some ⟨b, off, none⟩ ∧ ∀ j, j < n → (∃ v, w.cell? ⟨b, off + j, none⟩ = some v) ∧ w.frozen? ⟨b, off + j, none⟩ = false
/-- Only a's own block has been written. -/
def Only (w w' : World) (a : Option Addr) : Prop := w.grownBy w' (a.map (·.block)) ∧ w'.heap.size = w.heap.size ∧ ∀ p, w'.frozen? p = w.frozen? p
theorem Only.refl (w : World) (a : Option Addr) : Only w w a := ⟨⟨rfl, rfl, rfl, Nat.le_refl _, fun _ _ _ => rfl⟩, rfl, fun _ => rfl⟩
theorem Only.set {w w' : World} {b off j : Nat} (h : Only w w' (some ⟨b, off, none⟩)) (v : Value) : Only w (w'.setCell ⟨b, j, none⟩ v) (some ⟨b, off, none⟩) := by
  refine ⟨⟨h.1.os, h.1.tape, h.1.output, ?_, fun k hk hne => ?_⟩, ?_, fun p => ?_⟩
  · rw [World.size_setCell]; exact h.1.size
  · rw [Below.heap_setCell w' _ v k (fun e => hne (by simp [e]))]; exact h.1.block k hk hne
  · rw [World.size_setCell]; exact h.2.1
  · rw [World.frozen?_setCell]; exact h.2.2 p
theorem markByteS (w : World) (a : Option Addr) (n cap : Nat) (q : Int) (h : Wt w a n) (hn : n ≤ 1099511627776) (q0 : 0 ≤ q) (q1 : q ≤ 1099511627776) :
    Calls Tryz.prog 103 #[.slice a n cap, .int .i64 q] w fun e w' => e = .returned (.int .i64 (q + n)) ∧ Rd w' a n (fun j => (q + j) % 256) ∧ Only w w' a := by
  rcases h with rfl | ⟨b, off, rfl, hc⟩
  · go_enter Tryz.func103, Tryz.ntmps103
    go_wp2_with fail
    refine wp_loop_rounds 1 ?_
    rw [rounds_succ]
    go_wp2_with fail
    go_ret
    exact ⟨by simp, ⟨fun j hj => by omega, .inl rfl⟩, Only.refl _ _⟩
  · have hc' : Hid (∀ j, j < n → (∃ v, w.cell? ⟨b, off + j, none⟩ = some v) ∧ w.frozen? ⟨b, off + j, none⟩ = false) := hc
    clear hc
    go_enter Tryz.func103, Tryz.ntmps103
    go_wp2_with fail
    go_loopw [1, 5] (fun q' i wr => ∃ k : Nat, k ≤ n ∧ i = .int .i64 k ∧ q' = .int .i64 (q + k) ∧ (∀ j, j < k → wr.cell? ⟨b, off + j, none⟩ = some (.int .u8 ((q + j) % 256))) ∧ (∀ j, k ≤ j → wr.cell? ⟨b, off + j, none⟩ = w.cell? ⟨b, off + j, none⟩) ∧ Only w wr (some ⟨b, off, none⟩)) (fun _ i _ => n - (intOf i).toNat)
    case atStart => exact ⟨0, Nat.zero_le _, rfl, by simp, fun j hj => by omega, fun _ _ => rfl, Only.refl _ _⟩
    case round =>
      obtain ⟨k, hk, rfl, rfl, hm, hr, ho⟩ := hrel
      by_cases hlt : k < n
      · have hlt' : (k : Int) < (n : Int) := by omega
        obtain ⟨⟨v, hv⟩, hf⟩ := hc'.out k hlt
        have c1 : wr.cell? ⟨b, off + k, none⟩ = some v := by rw [hr k (Nat.le_refl _)]; exact hv
        have f1 : wr.frozen? ⟨b, off + k, none⟩ = false := by rw [ho.2.2]; exact hf
        have hu : IntKind.u8.wrap (q + k) = (q + k) % 256 := by rw [IntKind.wrap_u8]
        have hm' : Hid (∀ j, j < k → wr.cell? ⟨b, off + j, none⟩ = some (.int .u8 ((q + j) % 256))) := hm
        have hr' : Hid (∀ j, k ≤ j → wr.cell? ⟨b, off + j, none⟩ = w.cell? ⟨b, off + j, none⟩) := hr
        have ho' : Hid (Only w wr (some ⟨b, off, none⟩)) := ho
        clear hm hr ho hv hf
        go_wp2_with fail
        go_roundw
        case rel =>
          refine ⟨k + 1, by omega, by go_num, by go_num, fun j hj => ?_, fun j hj => ?_, ho'.out.set _⟩
          · by_cases e : j = k
            · subst e; exact World.cell?_setCell_same (w := wr) (a := ⟨b, off + j, none⟩) (v := _) c1
            · rw [World.cell?_setCell_other (w := wr) (a := ⟨b, off + k, none⟩) (b := ⟨b, off + j, none⟩) (v := _) (addr_ne (by omega))]; exact hm'.out j (by omega)
          · rw [World.cell?_setCell_other (w := wr) (a := ⟨b, off + k, none⟩) (b := ⟨b, off + j, none⟩) (v := _) (addr_ne (by omega))]; exact hr'.out j (by omega)
        case measure => simp [intOf]; omega
      · obtain rfl : k = n := by omega
        have hm' : Hid (∀ j, j < k → wr.cell? ⟨b, off + j, none⟩ = some (.int .u8 ((q + j) % 256))) := hm
        have ho' : Hid (Only w wr (some ⟨b, off, none⟩)) := ho
        clear hm hr ho
        go_wp2_with fail
        go_ret
        exact ⟨rfl, ⟨fun j hj => by show 0 ≤ (q + (j : Int)) % 256 ∧ (q + (j : Int)) % 256 ≤ 255; omega, .inr ⟨b, off, rfl, hm'.out⟩⟩, ho'.out⟩
end Go.Proofs.YtajlkdidjelpeaaGreatDoor.ByteMem
