/-
  Slices of Sig in memory, and what the laws' own helpers on them do. (Written by my modgen.py.)
  Slices of Global in memory, and what the laws' own helpers on them do. (Written by my modgen.py.)
  Slices of Import in memory, and what the laws' own helpers on them do. (Written by my modgen.py.)
  Slices of Export in memory, and what the laws' own helpers on them do. (Written by my modgen.py.)
  How much a module's parts take: the laws' own counting.
  Slices of functions in memory (each with a body, a slice of its own), and what the laws' own helpers on them do.
  Slices of data in memory (each with bytes, a slice of its own), and what the laws' own helpers on them do.
  How much functions and data take: the laws' own counting.
-/
import Derived.Test.YtffngjgjhialnaaGreatDoorInsMem
import Derived.Test.YtffngjgjhialnaaGreatDoorByteMem
namespace Go.Proofs.YtffngjgjhialnaaGreatDoor.MemSig
open Go.RowKit InsMem

abbrev E := Int × Int
def f0At (l : List E) (k : Nat) : Int := (l.getD k (0, 0)).1
def f1At (l : List E) (k : Nat) : Int := (l.getD k (0, 0)).2
/-- A slice of them that can be read. -/
def Rd (w : World) (a : Option Addr) (l : List E) : Prop :=
  l.length = 0 ∨ ∃ b off, a = some ⟨b, off, none⟩ ∧ ∀ j, j < l.length → w.cell? ⟨b, off + j * 2, none⟩ = some (.int .i64 (f0At l j)) ∧ w.cell? ⟨b, off + j * 2 + 1, none⟩ = some (.int .i64 (f1At l j))
theorem Rd.later {w w' : World} {a : Option Addr} {l : List E} (h : Rd w a l) (hb : Below w.heap.size w w') : Rd w' a l := by
  rcases h with h | ⟨b, off, ha, hc⟩
  · exact .inl h
  · refine .inr ⟨b, off, ha, fun j hj => ?_⟩
    obtain ⟨c0, c1⟩ := hc j hj
    have hs : b < w.heap.size := World.block_lt_of_cell? w _ c0
    exact ⟨by rw [hb.cell hs]; exact c0, by rw [hb.cell hs]; exact c1⟩
theorem to1 (x0 : Int) (x1 : Int) (w : World) :
    Calls Tryz.prog 80 #[.agg #[.int .i64 (x0), .int .i64 (x1)]] w fun e w' => e = .returned (.agg #[.int .i64 (x0), .int .i64 (x1)]) ∧ Below w.heap.size w w' := by
  go_enter Tryz.func80, Tryz.ntmps80
  go_wp2_with fail
  refine bodyPost_ret ?_ rfl ⟨rfl, ?_⟩
  · simp [results, go_sem]
  · exact (((Below.refl _ _).alloc (Nat.le_refl _) _).alloc (by simp) _).alloc (by simp; omega) _
theorem eq1 (x0 : Int) (x1 : Int) (w : World) :
    Calls Tryz.prog 108 #[.agg #[.int .i64 (x0), .int .i64 (x1)], .agg #[.int .i64 (x0), .int .i64 (x1)]] w fun e w' => e = .returned (.bool true) ∧ Below w.heap.size w w' := by
  go_enter Tryz.func108, Tryz.ntmps108
  go_wp2_with fail
  go_ret
  exact ⟨rfl, ((Below.refl _ _).alloc (Nat.le_refl _) _).alloc (by simp) _⟩
def cv (l : List E) (j : Nat) : Value := if j % 2 = 0 then .int .i64 (f0At l (j / 2)) else .int .i64 (f1At l (j / 2))
def zv (j : Nat) : Value := if j % 2 = 0 then .int .i64 0 else .int .i64 0
theorem cv0 (l : List E) (k : Nat) : cv l (k * 2) = .int .i64 (f0At l k) := by unfold cv; rw [if_pos (by omega), show (k * 2) / 2 = k by omega]
theorem cv1 (l : List E) (k : Nat) : cv l (k * 2 + 1) = .int .i64 (f1At l k) := by unfold cv; rw [if_neg (by omega), show (k * 2 + 1) / 2 = k by omega]
theorem info : (Tryz.prog.info? 77).map (fun i => (i.zero, i.size, i.bytes)) = some (some (.agg #[.int .i64 0, .int .i64 0]), 2, 16) := by kernel_rfl
theorem run_mk (m : Nat) (hn : m ≤ 1048576) (w : World) :
    (Instr.makeSlice 34 (.int .i64 (m : Int)) (.int .i64 (m : Int))).run Tryz.prog w = .ok (.slice (some ⟨w.heap.size, 0, none⟩) m m) (w.alloc (.cells (madeCells #[.int .i64 0, .int .i64 0] (m * 2)) 77)) := by
  obtain ⟨i, hi, hzz⟩ := Option.map_eq_some_iff.1 info
  simp only [Prod.mk.injEq] at hzz
  obtain ⟨hz, hs, hb⟩ := hzz
  have hr := run_make (P := Tryz.prog) w 34 77 i _ Tryz.underlying34 hi hz .i64 .i64 m m (by omega) (Int.le_refl _) (by rw [hb]; omega) (by omega)
  simp only [Int.toNat_natCast, hs] at hr
  exact hr
theorem made (w : World) (m : Nat) : (w.alloc (.cells (madeCells #[.int .i64 0, .int .i64 0] (m * 2)) 77)).rowIs w.heap.size 77 (m * 2) zv :=
  ⟨madeCells #[.int .i64 0, .int .i64 0] (m * 2), Deep.blk_alloc_new _ _, size_madeCells _ _, fun i hi => by
    have : i % 2 = 0 ∨ i % 2 = 1 := by omega
    rcases this with h | h <;> simp [madeCells, zv, hi, h]⟩
theorem rd_of_row {w : World} {b : Nat} {l : List E} (h : w.rowIs b 77 (l.length * 2) (cv l)) : Rd w (some ⟨b, 0, none⟩) l := by
  refine .inr ⟨b, 0, rfl, fun j hj => ⟨?_, ?_⟩⟩
  · rw [Nat.zero_add, h.cell (by omega)]; simp only [cv0]
  · rw [Nat.zero_add, h.cell (by omega)]; simp only [cv1]
theorem room {w : World} {b m i : Nat} {t : TypeId} {f : Nat → Value} (h : w.rowIs b t m f) (hi : i + 2 ≤ m) (v0 : Value) :
    (∃ x, (w).cell? ⟨b, i, none⟩ = some x) ∧ (∃ x, ((w).setCell ⟨b, i, none⟩ v0).cell? ⟨b, i + 1, none⟩ = some x) ∧ (w).frozen? ⟨b, i, none⟩ = false ∧ ((w).setCell ⟨b, i, none⟩ v0).frozen? ⟨b, i + 1, none⟩ = false :=
  ⟨⟨_, (h).cell (by omega)⟩, ⟨_, ((h).set (i) v0).cell (by omega)⟩, (h).frozen _, ((h).set (i) v0).frozen _⟩
set_option maxHeartbeats 4000000 in
theorem toS (w : World) (a : Option Addr) (cap : Nat) (l : List E) (h : Rd w a l) (hn : l.length ≤ 1048576) :
    Calls Tryz.prog 32 #[.slice a l.length cap] w fun e w' => ∃ b, e = .returned (.slice (some ⟨b, 0, none⟩) l.length l.length) ∧ w.heap.size ≤ b ∧ w'.rowIs b 77 (l.length * 2) (cv l) ∧ Below w.heap.size w w' := by
  have hmk := run_mk l.length hn
  have h' : Hid (Rd w a l) := h
  clear h
  go_enter Tryz.func32, Tryz.ntmps32
  go_wp2_with fail
  clear hmk
  go_loopw [4] (fun i wr => ∃ k : Nat, k ≤ l.length ∧ i = .int .i64 k ∧ wr.rowIs w.heap.size 77 (l.length * 2) (fun j => if j < k * 2 then cv l j else zv j) ∧ Below w.heap.size w wr) (fun i _ => l.length - (intOf i).toNat)
  case atStart => exact ⟨0, Nat.zero_le _, rfl, (made w l.length).congr (fun i hi => by simp), (Below.refl _ _).alloc (Nat.le_refl _) _⟩
  case round =>
    obtain ⟨k, hk, rfl, hrow, hbel⟩ := hrel
    by_cases hlt : k < l.length
    · have hlt' : (k : Int) < (l.length : Int) := by omega
      rcases h'.out with h0 | ⟨b, off, ha, hc⟩
      · omega
      · obtain ⟨c0, c1⟩ := hc k hlt
        have hbb : b < w.heap.size := World.block_lt_of_cell? w _ c0
        rw [← hbel.cell hbb] at c0 c1
        clear hc
        subst ha
        have e0 := cv0 l k
        have e1 := cv1 l k
        generalize f0At l k = x0 at *
        generalize f1At l k = x1 at *
        have hrow' : Hid (wr.rowIs w.heap.size 77 (l.length * 2) (fun j => if j < k * 2 then cv l j else zv j)) := hrow
        have hbel' : Hid (Below w.heap.size w wr) := hbel
        clear hrow hbel
        go_wp2_with (go_at_call 80; refine (to1 _ _ _).mono ?_; rintro e w1 ⟨rfl, b1⟩; have hr1 : Hid (w1.rowIs w.heap.size 77 (l.length * 2) (fun j => if j < k * 2 then cv l j else zv j)) := row_later hrow'.out b1; obtain ⟨⟨y0, q0⟩, ⟨y1, q1⟩, g0, g1⟩ := room hr1.out (i := k * 2) (by omega) (.int .i64 (x0)))
        go_roundw
        case rel =>
          refine ⟨k + 1, by omega, by go_num, (((hr1.out.set (k * 2) (.int .i64 (x0))).set (k * 2 + 1) (.int .i64 (x1))).congr fun j hj => ?_), ?_⟩
          · by_cases z1 : j = k * 2 + 1
            · rw [if_pos z1, if_pos (by omega), z1, e1]
            · rw [if_neg z1]
              by_cases z0 : j = k * 2
              · rw [if_pos z0, if_pos (by omega), z0, e0]
              · rw [if_neg z0]
                by_cases z9 : j < k * 2
                · rw [if_pos z9, if_pos (by omega)]
                · rw [if_neg z9, if_neg (by omega)]
          · exact (((hbel'.out.trans (b1.mono hbel'.out.size)).setCell (Nat.le_refl _) _).setCell (Nat.le_refl _) _)
        case measure => simp [intOf]; omega
    · obtain rfl : k = l.length := by omega
      have hrow' : Hid (wr.rowIs w.heap.size 77 (l.length * 2) (cv l)) := hrow.congr (fun j hj => by simp [hj])
      have hbel' : Hid (Below w.heap.size w wr) := hbel
      clear hrow hbel
      go_wp2_with fail
      go_ret
      exact ⟨_, rfl, Nat.le_refl _, hrow'.out, hbel'.out⟩
theorem keep {w w' : World} {g i g' i' : Nat} {p0 p1 r0 r1 : Value} (h : Below w.heap.size w w') (c0 : w.cell? ⟨g, i, none⟩ = some p0) (c1 : w.cell? ⟨g, i + 1, none⟩ = some p1) (d0 : w.cell? ⟨g', i', none⟩ = some r0) (d1 : w.cell? ⟨g', i' + 1, none⟩ = some r1) :
    w'.cell? ⟨g, i, none⟩ = some p0 ∧ w'.cell? ⟨g, i + 1, none⟩ = some p1 ∧ w'.cell? ⟨g', i', none⟩ = some r0 ∧ w'.cell? ⟨g', i' + 1, none⟩ = some r1 := by
  have hs : g < w.heap.size := World.block_lt_of_cell? w _ c0
  have hs' : g' < w.heap.size := World.block_lt_of_cell? w _ d0
  exact ⟨by rw [h.cell hs]; exact c0, by rw [h.cell hs]; exact c1, by rw [h.cell hs']; exact d0, by rw [h.cell hs']; exact d1⟩
set_option maxHeartbeats 4000000 in
theorem eqS (w : World) (a a' : Option Addr) (cap cap' : Nat) (l : List E) (h : Rd w a l) (h' : Rd w a' l) (hn : l.length ≤ 2097152) :
    Calls Tryz.prog 56 #[.slice a l.length cap, .slice a' l.length cap'] w fun e w' => e = .returned (.bool true) ∧ Below w.heap.size w w' := by
  have k1 : Hid (Rd w a l) := h
  have k2 : Hid (Rd w a' l) := h'
  clear h h'
  go_enter Tryz.func56, Tryz.ntmps56
  go_wp2_with fail
  go_loopw [5] (fun i wr => ∃ k : Nat, k ≤ l.length ∧ i = .int .i64 k ∧ Below w.heap.size w wr) (fun i _ => l.length - (intOf i).toNat)
  case atStart => exact ⟨0, Nat.zero_le _, rfl, Below.refl _ _⟩
  case round =>
    obtain ⟨k, hk, rfl, hb⟩ := hrel
    by_cases hlt : k < l.length
    · have hlt' : (k : Int) < (l.length : Int) := by omega
      rcases k1.out.later hb with h0 | ⟨b, off, ha, hc⟩
      · omega
      · rcases k2.out.later hb with h0' | ⟨b', off', ha', hc'⟩
        · omega
        · obtain ⟨c0, c1⟩ := hc k hlt
          obtain ⟨d0, d1⟩ := hc' k hlt
          subst ha ha'
          generalize f0At l k = x0 at *
          generalize f1At l k = x1 at *
          have hb' : Hid (Below w.heap.size w wr) := hb
          clear hb hc hc'
          go_wp2_with fail
          go_region_held (fun w' => w'.cell? ⟨b, off + k * 2, none⟩ = some (.int .i64 (x0)) ∧ w'.cell? ⟨b, off + k * 2 + 1, none⟩ = some (.int .i64 (x1)) ∧ w'.cell? ⟨b', off' + k * 2, none⟩ = some (.int .i64 (x0)) ∧ w'.cell? ⟨b', off' + k * 2 + 1, none⟩ = some (.int .i64 (x1))) (go_keep)
            (first | (go_at_call 108; refine (eq1 _ _ _).mono ?_; rintro e w2 ⟨rfl, b2⟩; obtain ⟨s0, s1, t0, t1⟩ := keep b2 c0 c1 d0 d1))
          go_wp2_with fail
          go_roundw
          case rel => exact ⟨k + 1, by omega, by go_num, hb'.out.drew.trans (b2.mono hb'.out.size)⟩
          case measure => simp [intOf]; omega
    · obtain rfl : k = l.length := by omega
      have hb' : Hid (Below w.heap.size w wr) := hb
      clear hb
      go_wp2_with fail
      go_ret
      exact ⟨rfl, hb'.out⟩
end Go.Proofs.YtffngjgjhialnaaGreatDoor.MemSig
namespace Go.Proofs.YtffngjgjhialnaaGreatDoor.MemGlobal
open Go.RowKit InsMem

abbrev E := Bool × Int
def f0At (l : List E) (k : Nat) : Bool := (l.getD k (false, 0)).1
def f1At (l : List E) (k : Nat) : Int := (l.getD k (false, 0)).2
/-- A slice of them that can be read. -/
def Rd (w : World) (a : Option Addr) (l : List E) : Prop :=
  l.length = 0 ∨ ∃ b off, a = some ⟨b, off, none⟩ ∧ ∀ j, j < l.length → w.cell? ⟨b, off + j * 2, none⟩ = some (.bool (f0At l j)) ∧ w.cell? ⟨b, off + j * 2 + 1, none⟩ = some (.int .i64 (f1At l j))
theorem Rd.later {w w' : World} {a : Option Addr} {l : List E} (h : Rd w a l) (hb : Below w.heap.size w w') : Rd w' a l := by
  rcases h with h | ⟨b, off, ha, hc⟩
  · exact .inl h
  · refine .inr ⟨b, off, ha, fun j hj => ?_⟩
    obtain ⟨c0, c1⟩ := hc j hj
    have hs : b < w.heap.size := World.block_lt_of_cell? w _ c0
    exact ⟨by rw [hb.cell hs]; exact c0, by rw [hb.cell hs]; exact c1⟩
theorem to1 (x0 : Bool) (x1 : Int) (w : World) :
    Calls Tryz.prog 83 #[.agg #[.bool (x0), .int .i64 (x1)]] w fun e w' => e = .returned (.agg #[.bool (x0), .int .i64 (x1)]) ∧ Below w.heap.size w w' := by
  go_enter Tryz.func83, Tryz.ntmps83
  go_wp2_with fail
  refine bodyPost_ret ?_ rfl ⟨rfl, ?_⟩
  · simp [results, go_sem]
  · exact (((Below.refl _ _).alloc (Nat.le_refl _) _).alloc (by simp) _).alloc (by simp; omega) _
theorem eq1 (x0 : Bool) (x1 : Int) (w : World) :
    Calls Tryz.prog 111 #[.agg #[.bool (x0), .int .i64 (x1)], .agg #[.bool (x0), .int .i64 (x1)]] w fun e w' => e = .returned (.bool true) ∧ Below w.heap.size w w' := by
  go_enter Tryz.func111, Tryz.ntmps111
  go_wp2_with fail
  go_ret
  exact ⟨rfl, ((Below.refl _ _).alloc (Nat.le_refl _) _).alloc (by simp) _⟩
def cv (l : List E) (j : Nat) : Value := if j % 2 = 0 then .bool (f0At l (j / 2)) else .int .i64 (f1At l (j / 2))
def zv (j : Nat) : Value := if j % 2 = 0 then .bool false else .int .i64 0
theorem cv0 (l : List E) (k : Nat) : cv l (k * 2) = .bool (f0At l k) := by unfold cv; rw [if_pos (by omega), show (k * 2) / 2 = k by omega]
theorem cv1 (l : List E) (k : Nat) : cv l (k * 2 + 1) = .int .i64 (f1At l k) := by unfold cv; rw [if_neg (by omega), show (k * 2 + 1) / 2 = k by omega]
theorem info : (Tryz.prog.info? 97).map (fun i => (i.zero, i.size, i.bytes)) = some (some (.agg #[.bool false, .int .i64 0]), 2, 16) := by kernel_rfl
theorem run_mk (m : Nat) (hn : m ≤ 1048576) (w : World) :
    (Instr.makeSlice 37 (.int .i64 (m : Int)) (.int .i64 (m : Int))).run Tryz.prog w = .ok (.slice (some ⟨w.heap.size, 0, none⟩) m m) (w.alloc (.cells (madeCells #[.bool false, .int .i64 0] (m * 2)) 97)) := by
  obtain ⟨i, hi, hzz⟩ := Option.map_eq_some_iff.1 info
  simp only [Prod.mk.injEq] at hzz
  obtain ⟨hz, hs, hb⟩ := hzz
  have hr := run_make (P := Tryz.prog) w 37 97 i _ Tryz.underlying37 hi hz .i64 .i64 m m (by omega) (Int.le_refl _) (by rw [hb]; omega) (by omega)
  simp only [Int.toNat_natCast, hs] at hr
  exact hr
theorem made (w : World) (m : Nat) : (w.alloc (.cells (madeCells #[.bool false, .int .i64 0] (m * 2)) 97)).rowIs w.heap.size 97 (m * 2) zv :=
  ⟨madeCells #[.bool false, .int .i64 0] (m * 2), Deep.blk_alloc_new _ _, size_madeCells _ _, fun i hi => by
    have : i % 2 = 0 ∨ i % 2 = 1 := by omega
    rcases this with h | h <;> simp [madeCells, zv, hi, h]⟩
theorem rd_of_row {w : World} {b : Nat} {l : List E} (h : w.rowIs b 97 (l.length * 2) (cv l)) : Rd w (some ⟨b, 0, none⟩) l := by
  refine .inr ⟨b, 0, rfl, fun j hj => ⟨?_, ?_⟩⟩
  · rw [Nat.zero_add, h.cell (by omega)]; simp only [cv0]
  · rw [Nat.zero_add, h.cell (by omega)]; simp only [cv1]
theorem room {w : World} {b m i : Nat} {t : TypeId} {f : Nat → Value} (h : w.rowIs b t m f) (hi : i + 2 ≤ m) (v0 : Value) :
    (∃ x, (w).cell? ⟨b, i, none⟩ = some x) ∧ (∃ x, ((w).setCell ⟨b, i, none⟩ v0).cell? ⟨b, i + 1, none⟩ = some x) ∧ (w).frozen? ⟨b, i, none⟩ = false ∧ ((w).setCell ⟨b, i, none⟩ v0).frozen? ⟨b, i + 1, none⟩ = false :=
  ⟨⟨_, (h).cell (by omega)⟩, ⟨_, ((h).set (i) v0).cell (by omega)⟩, (h).frozen _, ((h).set (i) v0).frozen _⟩
set_option maxHeartbeats 4000000 in
theorem toS (w : World) (a : Option Addr) (cap : Nat) (l : List E) (h : Rd w a l) (hn : l.length ≤ 1048576) :
    Calls Tryz.prog 35 #[.slice a l.length cap] w fun e w' => ∃ b, e = .returned (.slice (some ⟨b, 0, none⟩) l.length l.length) ∧ w.heap.size ≤ b ∧ w'.rowIs b 97 (l.length * 2) (cv l) ∧ Below w.heap.size w w' := by
  have hmk := run_mk l.length hn
  have h' : Hid (Rd w a l) := h
  clear h
  go_enter Tryz.func35, Tryz.ntmps35
  go_wp2_with fail
  clear hmk
  go_loopw [4] (fun i wr => ∃ k : Nat, k ≤ l.length ∧ i = .int .i64 k ∧ wr.rowIs w.heap.size 97 (l.length * 2) (fun j => if j < k * 2 then cv l j else zv j) ∧ Below w.heap.size w wr) (fun i _ => l.length - (intOf i).toNat)
  case atStart => exact ⟨0, Nat.zero_le _, rfl, (made w l.length).congr (fun i hi => by simp), (Below.refl _ _).alloc (Nat.le_refl _) _⟩
  case round =>
    obtain ⟨k, hk, rfl, hrow, hbel⟩ := hrel
    by_cases hlt : k < l.length
    · have hlt' : (k : Int) < (l.length : Int) := by omega
      rcases h'.out with h0 | ⟨b, off, ha, hc⟩
      · omega
      · obtain ⟨c0, c1⟩ := hc k hlt
        have hbb : b < w.heap.size := World.block_lt_of_cell? w _ c0
        rw [← hbel.cell hbb] at c0 c1
        clear hc
        subst ha
        have e0 := cv0 l k
        have e1 := cv1 l k
        generalize f0At l k = x0 at *
        generalize f1At l k = x1 at *
        have hrow' : Hid (wr.rowIs w.heap.size 97 (l.length * 2) (fun j => if j < k * 2 then cv l j else zv j)) := hrow
        have hbel' : Hid (Below w.heap.size w wr) := hbel
        clear hrow hbel
        go_wp2_with (go_at_call 83; refine (to1 _ _ _).mono ?_; rintro e w1 ⟨rfl, b1⟩; have hr1 : Hid (w1.rowIs w.heap.size 97 (l.length * 2) (fun j => if j < k * 2 then cv l j else zv j)) := row_later hrow'.out b1; obtain ⟨⟨y0, q0⟩, ⟨y1, q1⟩, g0, g1⟩ := room hr1.out (i := k * 2) (by omega) (.bool (x0)))
        go_roundw
        case rel =>
          refine ⟨k + 1, by omega, by go_num, (((hr1.out.set (k * 2) (.bool (x0))).set (k * 2 + 1) (.int .i64 (x1))).congr fun j hj => ?_), ?_⟩
          · by_cases z1 : j = k * 2 + 1
            · rw [if_pos z1, if_pos (by omega), z1, e1]
            · rw [if_neg z1]
              by_cases z0 : j = k * 2
              · rw [if_pos z0, if_pos (by omega), z0, e0]
              · rw [if_neg z0]
                by_cases z9 : j < k * 2
                · rw [if_pos z9, if_pos (by omega)]
                · rw [if_neg z9, if_neg (by omega)]
          · exact (((hbel'.out.trans (b1.mono hbel'.out.size)).setCell (Nat.le_refl _) _).setCell (Nat.le_refl _) _)
        case measure => simp [intOf]; omega
    · obtain rfl : k = l.length := by omega
      have hrow' : Hid (wr.rowIs w.heap.size 97 (l.length * 2) (cv l)) := hrow.congr (fun j hj => by simp [hj])
      have hbel' : Hid (Below w.heap.size w wr) := hbel
      clear hrow hbel
      go_wp2_with fail
      go_ret
      exact ⟨_, rfl, Nat.le_refl _, hrow'.out, hbel'.out⟩
theorem keep {w w' : World} {g i g' i' : Nat} {p0 p1 r0 r1 : Value} (h : Below w.heap.size w w') (c0 : w.cell? ⟨g, i, none⟩ = some p0) (c1 : w.cell? ⟨g, i + 1, none⟩ = some p1) (d0 : w.cell? ⟨g', i', none⟩ = some r0) (d1 : w.cell? ⟨g', i' + 1, none⟩ = some r1) :
    w'.cell? ⟨g, i, none⟩ = some p0 ∧ w'.cell? ⟨g, i + 1, none⟩ = some p1 ∧ w'.cell? ⟨g', i', none⟩ = some r0 ∧ w'.cell? ⟨g', i' + 1, none⟩ = some r1 := by
  have hs : g < w.heap.size := World.block_lt_of_cell? w _ c0
  have hs' : g' < w.heap.size := World.block_lt_of_cell? w _ d0
  exact ⟨by rw [h.cell hs]; exact c0, by rw [h.cell hs]; exact c1, by rw [h.cell hs']; exact d0, by rw [h.cell hs']; exact d1⟩
set_option maxHeartbeats 4000000 in
theorem eqS (w : World) (a a' : Option Addr) (cap cap' : Nat) (l : List E) (h : Rd w a l) (h' : Rd w a' l) (hn : l.length ≤ 2097152) :
    Calls Tryz.prog 59 #[.slice a l.length cap, .slice a' l.length cap'] w fun e w' => e = .returned (.bool true) ∧ Below w.heap.size w w' := by
  have k1 : Hid (Rd w a l) := h
  have k2 : Hid (Rd w a' l) := h'
  clear h h'
  go_enter Tryz.func59, Tryz.ntmps59
  go_wp2_with fail
  go_loopw [5] (fun i wr => ∃ k : Nat, k ≤ l.length ∧ i = .int .i64 k ∧ Below w.heap.size w wr) (fun i _ => l.length - (intOf i).toNat)
  case atStart => exact ⟨0, Nat.zero_le _, rfl, Below.refl _ _⟩
  case round =>
    obtain ⟨k, hk, rfl, hb⟩ := hrel
    by_cases hlt : k < l.length
    · have hlt' : (k : Int) < (l.length : Int) := by omega
      rcases k1.out.later hb with h0 | ⟨b, off, ha, hc⟩
      · omega
      · rcases k2.out.later hb with h0' | ⟨b', off', ha', hc'⟩
        · omega
        · obtain ⟨c0, c1⟩ := hc k hlt
          obtain ⟨d0, d1⟩ := hc' k hlt
          subst ha ha'
          generalize f0At l k = x0 at *
          generalize f1At l k = x1 at *
          have hb' : Hid (Below w.heap.size w wr) := hb
          clear hb hc hc'
          go_wp2_with fail
          go_region_held (fun w' => w'.cell? ⟨b, off + k * 2, none⟩ = some (.bool (x0)) ∧ w'.cell? ⟨b, off + k * 2 + 1, none⟩ = some (.int .i64 (x1)) ∧ w'.cell? ⟨b', off' + k * 2, none⟩ = some (.bool (x0)) ∧ w'.cell? ⟨b', off' + k * 2 + 1, none⟩ = some (.int .i64 (x1))) (go_keep)
            (first | (go_at_call 111; refine (eq1 _ _ _).mono ?_; rintro e w2 ⟨rfl, b2⟩; obtain ⟨s0, s1, t0, t1⟩ := keep b2 c0 c1 d0 d1))
          go_wp2_with fail
          go_roundw
          case rel => exact ⟨k + 1, by omega, by go_num, hb'.out.drew.trans (b2.mono hb'.out.size)⟩
          case measure => simp [intOf]; omega
    · obtain rfl : k = l.length := by omega
      have hb' : Hid (Below w.heap.size w wr) := hb
      clear hb
      go_wp2_with fail
      go_ret
      exact ⟨rfl, hb'.out⟩
end Go.Proofs.YtffngjgjhialnaaGreatDoor.MemGlobal
namespace Go.Proofs.YtffngjgjhialnaaGreatDoor.MemImport
open Go.RowKit InsMem

abbrev E := ByteArray × ByteArray × Int
def f0At (l : List E) (k : Nat) : ByteArray := (l.getD k ((⟨#[]⟩ : ByteArray), (⟨#[]⟩ : ByteArray), 0)).1
def f1At (l : List E) (k : Nat) : ByteArray := (l.getD k ((⟨#[]⟩ : ByteArray), (⟨#[]⟩ : ByteArray), 0)).2.1
def f2At (l : List E) (k : Nat) : Int := (l.getD k ((⟨#[]⟩ : ByteArray), (⟨#[]⟩ : ByteArray), 0)).2.2
/-- A slice of them that can be read. -/
def Rd (w : World) (a : Option Addr) (l : List E) : Prop :=
  l.length = 0 ∨ ∃ b off, a = some ⟨b, off, none⟩ ∧ ∀ j, j < l.length → w.cell? ⟨b, off + j * 3, none⟩ = some (.string (f0At l j)) ∧ w.cell? ⟨b, off + j * 3 + 1, none⟩ = some (.string (f1At l j)) ∧ w.cell? ⟨b, off + j * 3 + 2, none⟩ = some (.int .i64 (f2At l j))
theorem Rd.later {w w' : World} {a : Option Addr} {l : List E} (h : Rd w a l) (hb : Below w.heap.size w w') : Rd w' a l := by
  rcases h with h | ⟨b, off, ha, hc⟩
  · exact .inl h
  · refine .inr ⟨b, off, ha, fun j hj => ?_⟩
    obtain ⟨c0, c1, c2⟩ := hc j hj
    have hs : b < w.heap.size := World.block_lt_of_cell? w _ c0
    exact ⟨by rw [hb.cell hs]; exact c0, by rw [hb.cell hs]; exact c1, by rw [hb.cell hs]; exact c2⟩
theorem to1 (x0 : ByteArray) (x1 : ByteArray) (x2 : Int) (w : World) :
    Calls Tryz.prog 81 #[.agg #[.string (x0), .string (x1), .int .i64 (x2)]] w fun e w' => e = .returned (.agg #[.string (x0), .string (x1), .int .i64 (x2)]) ∧ Below w.heap.size w w' := by
  go_enter Tryz.func81, Tryz.ntmps81
  go_wp2_with fail
  refine bodyPost_ret ?_ rfl ⟨rfl, ?_⟩
  · simp [results, go_sem]
  · exact (((Below.refl _ _).alloc (Nat.le_refl _) _).alloc (by simp) _).alloc (by simp; omega) _
theorem eq1 (x0 : ByteArray) (x1 : ByteArray) (x2 : Int) (w : World) :
    Calls Tryz.prog 109 #[.agg #[.string (x0), .string (x1), .int .i64 (x2)], .agg #[.string (x0), .string (x1), .int .i64 (x2)]] w fun e w' => e = .returned (.bool true) ∧ Below w.heap.size w w' := by
  go_enter Tryz.func109, Tryz.ntmps109
  go_wp2_with fail
  go_ret
  exact ⟨rfl, ((Below.refl _ _).alloc (Nat.le_refl _) _).alloc (by simp) _⟩
def cv (l : List E) (j : Nat) : Value := if j % 3 = 0 then .string (f0At l (j / 3)) else if j % 3 = 1 then .string (f1At l (j / 3)) else .int .i64 (f2At l (j / 3))
def zv (j : Nat) : Value := if j % 3 = 0 then .string ⟨#[]⟩ else if j % 3 = 1 then .string ⟨#[]⟩ else .int .i64 0
theorem cv0 (l : List E) (k : Nat) : cv l (k * 3) = .string (f0At l k) := by unfold cv; rw [if_pos (by omega), show (k * 3) / 3 = k by omega]
theorem cv1 (l : List E) (k : Nat) : cv l (k * 3 + 1) = .string (f1At l k) := by unfold cv; rw [if_neg (by omega), if_pos (by omega), show (k * 3 + 1) / 3 = k by omega]
theorem cv2 (l : List E) (k : Nat) : cv l (k * 3 + 2) = .int .i64 (f2At l k) := by unfold cv; rw [if_neg (by omega), if_neg (by omega), show (k * 3 + 2) / 3 = k by omega]
theorem info : (Tryz.prog.info? 82).map (fun i => (i.zero, i.size, i.bytes)) = some (some (.agg #[.string ⟨#[]⟩, .string ⟨#[]⟩, .int .i64 0]), 3, 40) := by kernel_rfl
theorem run_mk (m : Nat) (hn : m ≤ 1048576) (w : World) :
    (Instr.makeSlice 35 (.int .i64 (m : Int)) (.int .i64 (m : Int))).run Tryz.prog w = .ok (.slice (some ⟨w.heap.size, 0, none⟩) m m) (w.alloc (.cells (madeCells #[.string ⟨#[]⟩, .string ⟨#[]⟩, .int .i64 0] (m * 3)) 82)) := by
  obtain ⟨i, hi, hzz⟩ := Option.map_eq_some_iff.1 info
  simp only [Prod.mk.injEq] at hzz
  obtain ⟨hz, hs, hb⟩ := hzz
  have hr := run_make (P := Tryz.prog) w 35 82 i _ Tryz.underlying35 hi hz .i64 .i64 m m (by omega) (Int.le_refl _) (by rw [hb]; omega) (by omega)
  simp only [Int.toNat_natCast, hs] at hr
  exact hr
theorem made (w : World) (m : Nat) : (w.alloc (.cells (madeCells #[.string ⟨#[]⟩, .string ⟨#[]⟩, .int .i64 0] (m * 3)) 82)).rowIs w.heap.size 82 (m * 3) zv :=
  ⟨madeCells #[.string ⟨#[]⟩, .string ⟨#[]⟩, .int .i64 0] (m * 3), Deep.blk_alloc_new _ _, size_madeCells _ _, fun i hi => by
    have : i % 3 = 0 ∨ i % 3 = 1 ∨ i % 3 = 2 := by omega
    rcases this with h | h | h <;> simp [madeCells, zv, hi, h]⟩
theorem rd_of_row {w : World} {b : Nat} {l : List E} (h : w.rowIs b 82 (l.length * 3) (cv l)) : Rd w (some ⟨b, 0, none⟩) l := by
  refine .inr ⟨b, 0, rfl, fun j hj => ⟨?_, ?_, ?_⟩⟩
  · rw [Nat.zero_add, h.cell (by omega)]; simp only [cv0]
  · rw [Nat.zero_add, h.cell (by omega)]; simp only [cv1]
  · rw [Nat.zero_add, h.cell (by omega)]; simp only [cv2]
theorem room {w : World} {b m i : Nat} {t : TypeId} {f : Nat → Value} (h : w.rowIs b t m f) (hi : i + 3 ≤ m) (v0 v1 : Value) :
    (∃ x, (w).cell? ⟨b, i, none⟩ = some x) ∧ (∃ x, ((w).setCell ⟨b, i, none⟩ v0).cell? ⟨b, i + 1, none⟩ = some x) ∧ (∃ x, (((w).setCell ⟨b, i, none⟩ v0).setCell ⟨b, i + 1, none⟩ v1).cell? ⟨b, i + 2, none⟩ = some x) ∧ (w).frozen? ⟨b, i, none⟩ = false ∧ ((w).setCell ⟨b, i, none⟩ v0).frozen? ⟨b, i + 1, none⟩ = false ∧ (((w).setCell ⟨b, i, none⟩ v0).setCell ⟨b, i + 1, none⟩ v1).frozen? ⟨b, i + 2, none⟩ = false :=
  ⟨⟨_, (h).cell (by omega)⟩, ⟨_, ((h).set (i) v0).cell (by omega)⟩, ⟨_, (((h).set (i) v0).set (i + 1) v1).cell (by omega)⟩, (h).frozen _, ((h).set (i) v0).frozen _, (((h).set (i) v0).set (i + 1) v1).frozen _⟩
set_option maxHeartbeats 4000000 in
theorem toS (w : World) (a : Option Addr) (cap : Nat) (l : List E) (h : Rd w a l) (hn : l.length ≤ 1048576) :
    Calls Tryz.prog 33 #[.slice a l.length cap] w fun e w' => ∃ b, e = .returned (.slice (some ⟨b, 0, none⟩) l.length l.length) ∧ w.heap.size ≤ b ∧ w'.rowIs b 82 (l.length * 3) (cv l) ∧ Below w.heap.size w w' := by
  have hmk := run_mk l.length hn
  have h' : Hid (Rd w a l) := h
  clear h
  go_enter Tryz.func33, Tryz.ntmps33
  go_wp2_with fail
  clear hmk
  go_loopw [4] (fun i wr => ∃ k : Nat, k ≤ l.length ∧ i = .int .i64 k ∧ wr.rowIs w.heap.size 82 (l.length * 3) (fun j => if j < k * 3 then cv l j else zv j) ∧ Below w.heap.size w wr) (fun i _ => l.length - (intOf i).toNat)
  case atStart => exact ⟨0, Nat.zero_le _, rfl, (made w l.length).congr (fun i hi => by simp), (Below.refl _ _).alloc (Nat.le_refl _) _⟩
  case round =>
    obtain ⟨k, hk, rfl, hrow, hbel⟩ := hrel
    by_cases hlt : k < l.length
    · have hlt' : (k : Int) < (l.length : Int) := by omega
      rcases h'.out with h0 | ⟨b, off, ha, hc⟩
      · omega
      · obtain ⟨c0, c1, c2⟩ := hc k hlt
        have hbb : b < w.heap.size := World.block_lt_of_cell? w _ c0
        rw [← hbel.cell hbb] at c0 c1 c2
        clear hc
        subst ha
        have e0 := cv0 l k
        have e1 := cv1 l k
        have e2 := cv2 l k
        generalize f0At l k = x0 at *
        generalize f1At l k = x1 at *
        generalize f2At l k = x2 at *
        have hrow' : Hid (wr.rowIs w.heap.size 82 (l.length * 3) (fun j => if j < k * 3 then cv l j else zv j)) := hrow
        have hbel' : Hid (Below w.heap.size w wr) := hbel
        clear hrow hbel
        go_wp2_with (go_at_call 81; refine (to1 _ _ _ _).mono ?_; rintro e w1 ⟨rfl, b1⟩; have hr1 : Hid (w1.rowIs w.heap.size 82 (l.length * 3) (fun j => if j < k * 3 then cv l j else zv j)) := row_later hrow'.out b1; obtain ⟨⟨y0, q0⟩, ⟨y1, q1⟩, ⟨y2, q2⟩, g0, g1, g2⟩ := room hr1.out (i := k * 3) (by omega) (.string (x0)) (.string (x1)))
        go_roundw
        case rel =>
          refine ⟨k + 1, by omega, by go_num, ((((hr1.out.set (k * 3) (.string (x0))).set (k * 3 + 1) (.string (x1))).set (k * 3 + 2) (.int .i64 (x2))).congr fun j hj => ?_), ?_⟩
          · by_cases z2 : j = k * 3 + 2
            · rw [if_pos z2, if_pos (by omega), z2, e2]
            · rw [if_neg z2]
              by_cases z1 : j = k * 3 + 1
              · rw [if_pos z1, if_pos (by omega), z1, e1]
              · rw [if_neg z1]
                by_cases z0 : j = k * 3
                · rw [if_pos z0, if_pos (by omega), z0, e0]
                · rw [if_neg z0]
                  by_cases z9 : j < k * 3
                  · rw [if_pos z9, if_pos (by omega)]
                  · rw [if_neg z9, if_neg (by omega)]
          · exact ((((hbel'.out.trans (b1.mono hbel'.out.size)).setCell (Nat.le_refl _) _).setCell (Nat.le_refl _) _).setCell (Nat.le_refl _) _)
        case measure => simp [intOf]; omega
    · obtain rfl : k = l.length := by omega
      have hrow' : Hid (wr.rowIs w.heap.size 82 (l.length * 3) (cv l)) := hrow.congr (fun j hj => by simp [hj])
      have hbel' : Hid (Below w.heap.size w wr) := hbel
      clear hrow hbel
      go_wp2_with fail
      go_ret
      exact ⟨_, rfl, Nat.le_refl _, hrow'.out, hbel'.out⟩
theorem keep {w w' : World} {g i g' i' : Nat} {p0 p1 p2 r0 r1 r2 : Value} (h : Below w.heap.size w w') (c0 : w.cell? ⟨g, i, none⟩ = some p0) (c1 : w.cell? ⟨g, i + 1, none⟩ = some p1) (c2 : w.cell? ⟨g, i + 2, none⟩ = some p2) (d0 : w.cell? ⟨g', i', none⟩ = some r0) (d1 : w.cell? ⟨g', i' + 1, none⟩ = some r1) (d2 : w.cell? ⟨g', i' + 2, none⟩ = some r2) :
    w'.cell? ⟨g, i, none⟩ = some p0 ∧ w'.cell? ⟨g, i + 1, none⟩ = some p1 ∧ w'.cell? ⟨g, i + 2, none⟩ = some p2 ∧ w'.cell? ⟨g', i', none⟩ = some r0 ∧ w'.cell? ⟨g', i' + 1, none⟩ = some r1 ∧ w'.cell? ⟨g', i' + 2, none⟩ = some r2 := by
  have hs : g < w.heap.size := World.block_lt_of_cell? w _ c0
  have hs' : g' < w.heap.size := World.block_lt_of_cell? w _ d0
  exact ⟨by rw [h.cell hs]; exact c0, by rw [h.cell hs]; exact c1, by rw [h.cell hs]; exact c2, by rw [h.cell hs']; exact d0, by rw [h.cell hs']; exact d1, by rw [h.cell hs']; exact d2⟩
set_option maxHeartbeats 4000000 in
theorem eqS (w : World) (a a' : Option Addr) (cap cap' : Nat) (l : List E) (h : Rd w a l) (h' : Rd w a' l) (hn : l.length ≤ 2097152) :
    Calls Tryz.prog 57 #[.slice a l.length cap, .slice a' l.length cap'] w fun e w' => e = .returned (.bool true) ∧ Below w.heap.size w w' := by
  have k1 : Hid (Rd w a l) := h
  have k2 : Hid (Rd w a' l) := h'
  clear h h'
  go_enter Tryz.func57, Tryz.ntmps57
  go_wp2_with fail
  go_loopw [5] (fun i wr => ∃ k : Nat, k ≤ l.length ∧ i = .int .i64 k ∧ Below w.heap.size w wr) (fun i _ => l.length - (intOf i).toNat)
  case atStart => exact ⟨0, Nat.zero_le _, rfl, Below.refl _ _⟩
  case round =>
    obtain ⟨k, hk, rfl, hb⟩ := hrel
    by_cases hlt : k < l.length
    · have hlt' : (k : Int) < (l.length : Int) := by omega
      rcases k1.out.later hb with h0 | ⟨b, off, ha, hc⟩
      · omega
      · rcases k2.out.later hb with h0' | ⟨b', off', ha', hc'⟩
        · omega
        · obtain ⟨c0, c1, c2⟩ := hc k hlt
          obtain ⟨d0, d1, d2⟩ := hc' k hlt
          subst ha ha'
          generalize f0At l k = x0 at *
          generalize f1At l k = x1 at *
          generalize f2At l k = x2 at *
          have hb' : Hid (Below w.heap.size w wr) := hb
          clear hb hc hc'
          go_wp2_with fail
          go_region_held (fun w' => w'.cell? ⟨b, off + k * 3, none⟩ = some (.string (x0)) ∧ w'.cell? ⟨b, off + k * 3 + 1, none⟩ = some (.string (x1)) ∧ w'.cell? ⟨b, off + k * 3 + 2, none⟩ = some (.int .i64 (x2)) ∧ w'.cell? ⟨b', off' + k * 3, none⟩ = some (.string (x0)) ∧ w'.cell? ⟨b', off' + k * 3 + 1, none⟩ = some (.string (x1)) ∧ w'.cell? ⟨b', off' + k * 3 + 2, none⟩ = some (.int .i64 (x2))) (go_keep)
            (first | (go_at_call 109; refine (eq1 _ _ _ _).mono ?_; rintro e w2 ⟨rfl, b2⟩; obtain ⟨s0, s1, s2, t0, t1, t2⟩ := keep b2 c0 c1 c2 d0 d1 d2))
          go_wp2_with fail
          go_roundw
          case rel => exact ⟨k + 1, by omega, by go_num, hb'.out.drew.trans (b2.mono hb'.out.size)⟩
          case measure => simp [intOf]; omega
    · obtain rfl : k = l.length := by omega
      have hb' : Hid (Below w.heap.size w wr) := hb
      clear hb
      go_wp2_with fail
      go_ret
      exact ⟨rfl, hb'.out⟩
end Go.Proofs.YtffngjgjhialnaaGreatDoor.MemImport
namespace Go.Proofs.YtffngjgjhialnaaGreatDoor.MemExport
open Go.RowKit InsMem

abbrev E := ByteArray × Int × Int
def f0At (l : List E) (k : Nat) : ByteArray := (l.getD k ((⟨#[]⟩ : ByteArray), 0, 0)).1
def f1At (l : List E) (k : Nat) : Int := (l.getD k ((⟨#[]⟩ : ByteArray), 0, 0)).2.1
def f2At (l : List E) (k : Nat) : Int := (l.getD k ((⟨#[]⟩ : ByteArray), 0, 0)).2.2
/-- A slice of them that can be read. -/
def Rd (w : World) (a : Option Addr) (l : List E) : Prop :=
  l.length = 0 ∨ ∃ b off, a = some ⟨b, off, none⟩ ∧ ∀ j, j < l.length → w.cell? ⟨b, off + j * 3, none⟩ = some (.string (f0At l j)) ∧ w.cell? ⟨b, off + j * 3 + 1, none⟩ = some (.int .i64 (f1At l j)) ∧ w.cell? ⟨b, off + j * 3 + 2, none⟩ = some (.int .i64 (f2At l j))
theorem Rd.later {w w' : World} {a : Option Addr} {l : List E} (h : Rd w a l) (hb : Below w.heap.size w w') : Rd w' a l := by
  rcases h with h | ⟨b, off, ha, hc⟩
  · exact .inl h
  · refine .inr ⟨b, off, ha, fun j hj => ?_⟩
    obtain ⟨c0, c1, c2⟩ := hc j hj
    have hs : b < w.heap.size := World.block_lt_of_cell? w _ c0
    exact ⟨by rw [hb.cell hs]; exact c0, by rw [hb.cell hs]; exact c1, by rw [hb.cell hs]; exact c2⟩
theorem to1 (x0 : ByteArray) (x1 : Int) (x2 : Int) (w : World) :
    Calls Tryz.prog 84 #[.agg #[.string (x0), .int .i64 (x1), .int .i64 (x2)]] w fun e w' => e = .returned (.agg #[.string (x0), .int .i64 (x1), .int .i64 (x2)]) ∧ Below w.heap.size w w' := by
  go_enter Tryz.func84, Tryz.ntmps84
  go_wp2_with fail
  refine bodyPost_ret ?_ rfl ⟨rfl, ?_⟩
  · simp [results, go_sem]
  · exact (((Below.refl _ _).alloc (Nat.le_refl _) _).alloc (by simp) _).alloc (by simp; omega) _
theorem eq1 (x0 : ByteArray) (x1 : Int) (x2 : Int) (w : World) :
    Calls Tryz.prog 112 #[.agg #[.string (x0), .int .i64 (x1), .int .i64 (x2)], .agg #[.string (x0), .int .i64 (x1), .int .i64 (x2)]] w fun e w' => e = .returned (.bool true) ∧ Below w.heap.size w w' := by
  go_enter Tryz.func112, Tryz.ntmps112
  go_wp2_with fail
  go_ret
  exact ⟨rfl, ((Below.refl _ _).alloc (Nat.le_refl _) _).alloc (by simp) _⟩
def cv (l : List E) (j : Nat) : Value := if j % 3 = 0 then .string (f0At l (j / 3)) else if j % 3 = 1 then .int .i64 (f1At l (j / 3)) else .int .i64 (f2At l (j / 3))
def zv (j : Nat) : Value := if j % 3 = 0 then .string ⟨#[]⟩ else if j % 3 = 1 then .int .i64 0 else .int .i64 0
theorem cv0 (l : List E) (k : Nat) : cv l (k * 3) = .string (f0At l k) := by unfold cv; rw [if_pos (by omega), show (k * 3) / 3 = k by omega]
theorem cv1 (l : List E) (k : Nat) : cv l (k * 3 + 1) = .int .i64 (f1At l k) := by unfold cv; rw [if_neg (by omega), if_pos (by omega), show (k * 3 + 1) / 3 = k by omega]
theorem cv2 (l : List E) (k : Nat) : cv l (k * 3 + 2) = .int .i64 (f2At l k) := by unfold cv; rw [if_neg (by omega), if_neg (by omega), show (k * 3 + 2) / 3 = k by omega]
theorem info : (Tryz.prog.info? 101).map (fun i => (i.zero, i.size, i.bytes)) = some (some (.agg #[.string ⟨#[]⟩, .int .i64 0, .int .i64 0]), 3, 32) := by kernel_rfl
theorem run_mk (m : Nat) (hn : m ≤ 1048576) (w : World) :
    (Instr.makeSlice 38 (.int .i64 (m : Int)) (.int .i64 (m : Int))).run Tryz.prog w = .ok (.slice (some ⟨w.heap.size, 0, none⟩) m m) (w.alloc (.cells (madeCells #[.string ⟨#[]⟩, .int .i64 0, .int .i64 0] (m * 3)) 101)) := by
  obtain ⟨i, hi, hzz⟩ := Option.map_eq_some_iff.1 info
  simp only [Prod.mk.injEq] at hzz
  obtain ⟨hz, hs, hb⟩ := hzz
  have hr := run_make (P := Tryz.prog) w 38 101 i _ Tryz.underlying38 hi hz .i64 .i64 m m (by omega) (Int.le_refl _) (by rw [hb]; omega) (by omega)
  simp only [Int.toNat_natCast, hs] at hr
  exact hr
theorem made (w : World) (m : Nat) : (w.alloc (.cells (madeCells #[.string ⟨#[]⟩, .int .i64 0, .int .i64 0] (m * 3)) 101)).rowIs w.heap.size 101 (m * 3) zv :=
  ⟨madeCells #[.string ⟨#[]⟩, .int .i64 0, .int .i64 0] (m * 3), Deep.blk_alloc_new _ _, size_madeCells _ _, fun i hi => by
    have : i % 3 = 0 ∨ i % 3 = 1 ∨ i % 3 = 2 := by omega
    rcases this with h | h | h <;> simp [madeCells, zv, hi, h]⟩
theorem rd_of_row {w : World} {b : Nat} {l : List E} (h : w.rowIs b 101 (l.length * 3) (cv l)) : Rd w (some ⟨b, 0, none⟩) l := by
  refine .inr ⟨b, 0, rfl, fun j hj => ⟨?_, ?_, ?_⟩⟩
  · rw [Nat.zero_add, h.cell (by omega)]; simp only [cv0]
  · rw [Nat.zero_add, h.cell (by omega)]; simp only [cv1]
  · rw [Nat.zero_add, h.cell (by omega)]; simp only [cv2]
theorem room {w : World} {b m i : Nat} {t : TypeId} {f : Nat → Value} (h : w.rowIs b t m f) (hi : i + 3 ≤ m) (v0 v1 : Value) :
    (∃ x, (w).cell? ⟨b, i, none⟩ = some x) ∧ (∃ x, ((w).setCell ⟨b, i, none⟩ v0).cell? ⟨b, i + 1, none⟩ = some x) ∧ (∃ x, (((w).setCell ⟨b, i, none⟩ v0).setCell ⟨b, i + 1, none⟩ v1).cell? ⟨b, i + 2, none⟩ = some x) ∧ (w).frozen? ⟨b, i, none⟩ = false ∧ ((w).setCell ⟨b, i, none⟩ v0).frozen? ⟨b, i + 1, none⟩ = false ∧ (((w).setCell ⟨b, i, none⟩ v0).setCell ⟨b, i + 1, none⟩ v1).frozen? ⟨b, i + 2, none⟩ = false :=
  ⟨⟨_, (h).cell (by omega)⟩, ⟨_, ((h).set (i) v0).cell (by omega)⟩, ⟨_, (((h).set (i) v0).set (i + 1) v1).cell (by omega)⟩, (h).frozen _, ((h).set (i) v0).frozen _, (((h).set (i) v0).set (i + 1) v1).frozen _⟩
set_option maxHeartbeats 4000000 in
theorem toS (w : World) (a : Option Addr) (cap : Nat) (l : List E) (h : Rd w a l) (hn : l.length ≤ 1048576) :
    Calls Tryz.prog 36 #[.slice a l.length cap] w fun e w' => ∃ b, e = .returned (.slice (some ⟨b, 0, none⟩) l.length l.length) ∧ w.heap.size ≤ b ∧ w'.rowIs b 101 (l.length * 3) (cv l) ∧ Below w.heap.size w w' := by
  have hmk := run_mk l.length hn
  have h' : Hid (Rd w a l) := h
  clear h
  go_enter Tryz.func36, Tryz.ntmps36
  go_wp2_with fail
  clear hmk
  go_loopw [4] (fun i wr => ∃ k : Nat, k ≤ l.length ∧ i = .int .i64 k ∧ wr.rowIs w.heap.size 101 (l.length * 3) (fun j => if j < k * 3 then cv l j else zv j) ∧ Below w.heap.size w wr) (fun i _ => l.length - (intOf i).toNat)
  case atStart => exact ⟨0, Nat.zero_le _, rfl, (made w l.length).congr (fun i hi => by simp), (Below.refl _ _).alloc (Nat.le_refl _) _⟩
  case round =>
    obtain ⟨k, hk, rfl, hrow, hbel⟩ := hrel
    by_cases hlt : k < l.length
    · have hlt' : (k : Int) < (l.length : Int) := by omega
      rcases h'.out with h0 | ⟨b, off, ha, hc⟩
      · omega
      · obtain ⟨c0, c1, c2⟩ := hc k hlt
        have hbb : b < w.heap.size := World.block_lt_of_cell? w _ c0
        rw [← hbel.cell hbb] at c0 c1 c2
        clear hc
        subst ha
        have e0 := cv0 l k
        have e1 := cv1 l k
        have e2 := cv2 l k
        generalize f0At l k = x0 at *
        generalize f1At l k = x1 at *
        generalize f2At l k = x2 at *
        have hrow' : Hid (wr.rowIs w.heap.size 101 (l.length * 3) (fun j => if j < k * 3 then cv l j else zv j)) := hrow
        have hbel' : Hid (Below w.heap.size w wr) := hbel
        clear hrow hbel
        go_wp2_with (go_at_call 84; refine (to1 _ _ _ _).mono ?_; rintro e w1 ⟨rfl, b1⟩; have hr1 : Hid (w1.rowIs w.heap.size 101 (l.length * 3) (fun j => if j < k * 3 then cv l j else zv j)) := row_later hrow'.out b1; obtain ⟨⟨y0, q0⟩, ⟨y1, q1⟩, ⟨y2, q2⟩, g0, g1, g2⟩ := room hr1.out (i := k * 3) (by omega) (.string (x0)) (.int .i64 (x1)))
        go_roundw
        case rel =>
          refine ⟨k + 1, by omega, by go_num, ((((hr1.out.set (k * 3) (.string (x0))).set (k * 3 + 1) (.int .i64 (x1))).set (k * 3 + 2) (.int .i64 (x2))).congr fun j hj => ?_), ?_⟩
          · by_cases z2 : j = k * 3 + 2
            · rw [if_pos z2, if_pos (by omega), z2, e2]
            · rw [if_neg z2]
              by_cases z1 : j = k * 3 + 1
              · rw [if_pos z1, if_pos (by omega), z1, e1]
              · rw [if_neg z1]
                by_cases z0 : j = k * 3
                · rw [if_pos z0, if_pos (by omega), z0, e0]
                · rw [if_neg z0]
                  by_cases z9 : j < k * 3
                  · rw [if_pos z9, if_pos (by omega)]
                  · rw [if_neg z9, if_neg (by omega)]
          · exact ((((hbel'.out.trans (b1.mono hbel'.out.size)).setCell (Nat.le_refl _) _).setCell (Nat.le_refl _) _).setCell (Nat.le_refl _) _)
        case measure => simp [intOf]; omega
    · obtain rfl : k = l.length := by omega
      have hrow' : Hid (wr.rowIs w.heap.size 101 (l.length * 3) (cv l)) := hrow.congr (fun j hj => by simp [hj])
      have hbel' : Hid (Below w.heap.size w wr) := hbel
      clear hrow hbel
      go_wp2_with fail
      go_ret
      exact ⟨_, rfl, Nat.le_refl _, hrow'.out, hbel'.out⟩
theorem keep {w w' : World} {g i g' i' : Nat} {p0 p1 p2 r0 r1 r2 : Value} (h : Below w.heap.size w w') (c0 : w.cell? ⟨g, i, none⟩ = some p0) (c1 : w.cell? ⟨g, i + 1, none⟩ = some p1) (c2 : w.cell? ⟨g, i + 2, none⟩ = some p2) (d0 : w.cell? ⟨g', i', none⟩ = some r0) (d1 : w.cell? ⟨g', i' + 1, none⟩ = some r1) (d2 : w.cell? ⟨g', i' + 2, none⟩ = some r2) :
    w'.cell? ⟨g, i, none⟩ = some p0 ∧ w'.cell? ⟨g, i + 1, none⟩ = some p1 ∧ w'.cell? ⟨g, i + 2, none⟩ = some p2 ∧ w'.cell? ⟨g', i', none⟩ = some r0 ∧ w'.cell? ⟨g', i' + 1, none⟩ = some r1 ∧ w'.cell? ⟨g', i' + 2, none⟩ = some r2 := by
  have hs : g < w.heap.size := World.block_lt_of_cell? w _ c0
  have hs' : g' < w.heap.size := World.block_lt_of_cell? w _ d0
  exact ⟨by rw [h.cell hs]; exact c0, by rw [h.cell hs]; exact c1, by rw [h.cell hs]; exact c2, by rw [h.cell hs']; exact d0, by rw [h.cell hs']; exact d1, by rw [h.cell hs']; exact d2⟩
set_option maxHeartbeats 4000000 in
theorem eqS (w : World) (a a' : Option Addr) (cap cap' : Nat) (l : List E) (h : Rd w a l) (h' : Rd w a' l) (hn : l.length ≤ 2097152) :
    Calls Tryz.prog 60 #[.slice a l.length cap, .slice a' l.length cap'] w fun e w' => e = .returned (.bool true) ∧ Below w.heap.size w w' := by
  have k1 : Hid (Rd w a l) := h
  have k2 : Hid (Rd w a' l) := h'
  clear h h'
  go_enter Tryz.func60, Tryz.ntmps60
  go_wp2_with fail
  go_loopw [5] (fun i wr => ∃ k : Nat, k ≤ l.length ∧ i = .int .i64 k ∧ Below w.heap.size w wr) (fun i _ => l.length - (intOf i).toNat)
  case atStart => exact ⟨0, Nat.zero_le _, rfl, Below.refl _ _⟩
  case round =>
    obtain ⟨k, hk, rfl, hb⟩ := hrel
    by_cases hlt : k < l.length
    · have hlt' : (k : Int) < (l.length : Int) := by omega
      rcases k1.out.later hb with h0 | ⟨b, off, ha, hc⟩
      · omega
      · rcases k2.out.later hb with h0' | ⟨b', off', ha', hc'⟩
        · omega
        · obtain ⟨c0, c1, c2⟩ := hc k hlt
          obtain ⟨d0, d1, d2⟩ := hc' k hlt
          subst ha ha'
          generalize f0At l k = x0 at *
          generalize f1At l k = x1 at *
          generalize f2At l k = x2 at *
          have hb' : Hid (Below w.heap.size w wr) := hb
          clear hb hc hc'
          go_wp2_with fail
          go_region_held (fun w' => w'.cell? ⟨b, off + k * 3, none⟩ = some (.string (x0)) ∧ w'.cell? ⟨b, off + k * 3 + 1, none⟩ = some (.int .i64 (x1)) ∧ w'.cell? ⟨b, off + k * 3 + 2, none⟩ = some (.int .i64 (x2)) ∧ w'.cell? ⟨b', off' + k * 3, none⟩ = some (.string (x0)) ∧ w'.cell? ⟨b', off' + k * 3 + 1, none⟩ = some (.int .i64 (x1)) ∧ w'.cell? ⟨b', off' + k * 3 + 2, none⟩ = some (.int .i64 (x2))) (go_keep)
            (first | (go_at_call 112; refine (eq1 _ _ _ _).mono ?_; rintro e w2 ⟨rfl, b2⟩; obtain ⟨s0, s1, s2, t0, t1, t2⟩ := keep b2 c0 c1 c2 d0 d1 d2))
          go_wp2_with fail
          go_roundw
          case rel => exact ⟨k + 1, by omega, by go_num, hb'.out.drew.trans (b2.mono hb'.out.size)⟩
          case measure => simp [intOf]; omega
    · obtain rfl : k = l.length := by omega
      have hb' : Hid (Below w.heap.size w wr) := hb
      clear hb
      go_wp2_with fail
      go_ret
      exact ⟨rfl, hb'.out⟩
end Go.Proofs.YtffngjgjhialnaaGreatDoor.MemExport
namespace Go.Proofs.YtffngjgjhialnaaGreatDoor.ModSz
open Go.RowKit InsMem
theorem szInsS (a : Option Addr) (n cap : Nat) (left : Int) (w : World) (hn : n ≤ 9223372036854775807) (h0 : 0 ≤ left) (h1 : left ≤ 1048576) :
    Calls Tryz.prog 116 #[.slice a n cap, .int .i64 left] w fun e w' => e = .returned (.int .i64 (if (n : Int) ≤ left then left - (n : Int) else -1)) ∧ w = w' := by
  by_cases h : (n : Int) ≤ left
  · rw [if_pos h]
    have h' : ¬ left - (n : Int) < 0 := by omega
    go_enter Tryz.func116, Tryz.ntmps116
    go_wp2_with fail
    all_goals (go_ret; exact ⟨rfl, rfl⟩)
  · rw [if_neg h]
    have h' : left - (n : Int) < 0 := by omega
    go_enter Tryz.func116, Tryz.ntmps116
    go_wp2_with fail
    all_goals (go_ret; exact ⟨rfl, rfl⟩)
theorem szSigS (a : Option Addr) (n cap : Nat) (left : Int) (w : World) (hn : n ≤ 9223372036854775807) (h0 : 0 ≤ left) (h1 : left ≤ 1048576) :
    Calls Tryz.prog 16 #[.slice a n cap, .int .i64 left] w fun e w' => e = .returned (.int .i64 (if (n : Int) ≤ left then left - (n : Int) else -1)) ∧ w = w' := by
  by_cases h : (n : Int) ≤ left
  · rw [if_pos h]
    have h' : ¬ left - (n : Int) < 0 := by omega
    go_enter Tryz.func16, Tryz.ntmps16
    go_wp2_with fail
    all_goals (go_ret; exact ⟨rfl, rfl⟩)
  · rw [if_neg h]
    have h' : left - (n : Int) < 0 := by omega
    go_enter Tryz.func16, Tryz.ntmps16
    go_wp2_with fail
    all_goals (go_ret; exact ⟨rfl, rfl⟩)
theorem szGlobalS (a : Option Addr) (n cap : Nat) (left : Int) (w : World) (hn : n ≤ 9223372036854775807) (h0 : 0 ≤ left) (h1 : left ≤ 1048576) :
    Calls Tryz.prog 19 #[.slice a n cap, .int .i64 left] w fun e w' => e = .returned (.int .i64 (if (n : Int) ≤ left then left - (n : Int) else -1)) ∧ w = w' := by
  by_cases h : (n : Int) ≤ left
  · rw [if_pos h]
    have h' : ¬ left - (n : Int) < 0 := by omega
    go_enter Tryz.func19, Tryz.ntmps19
    go_wp2_with fail
    all_goals (go_ret; exact ⟨rfl, rfl⟩)
  · rw [if_neg h]
    have h' : left - (n : Int) < 0 := by omega
    go_enter Tryz.func19, Tryz.ntmps19
    go_wp2_with fail
    all_goals (go_ret; exact ⟨rfl, rfl⟩)
theorem szByteS (a : Option Addr) (n cap : Nat) (left : Int) (w : World) (hn : n ≤ 9223372036854775807) (h0 : 0 ≤ left) (h1 : left ≤ 1048576) :
    Calls Tryz.prog 117 #[.slice a n cap, .int .i64 left] w fun e w' => e = .returned (.int .i64 (if (n : Int) ≤ left then left - (n : Int) else -1)) ∧ w = w' := by
  by_cases h : (n : Int) ≤ left
  · rw [if_pos h]
    have h' : ¬ left - (n : Int) < 0 := by omega
    go_enter Tryz.func117, Tryz.ntmps117
    go_wp2_with fail
    all_goals (go_ret; exact ⟨rfl, rfl⟩)
  · rw [if_neg h]
    have h' : left - (n : Int) < 0 := by omega
    go_enter Tryz.func117, Tryz.ntmps117
    go_wp2_with fail
    all_goals (go_ret; exact ⟨rfl, rfl⟩)
theorem szImport (x0 : ByteArray) (x1 : ByteArray) (x2 : Int) (left : Int) (w : World) (z0 : x0.size ≤ 9223372036854775807) (z1 : x1.size ≤ 9223372036854775807) (h0 : 0 ≤ left) (h1 : left ≤ 1048576) :
    Calls Tryz.prog 69 #[.agg #[.string x0, .string x1, .int .i64 x2], .int .i64 left] w fun e w' => ∃ r : Int, e = .returned (.int .i64 r) ∧ r ≤ left ∧ -1 ≤ r ∧ (0 ≤ r → (x0.size : Int) ≤ left ∧ (x1.size : Int) ≤ left) ∧ Below w.heap.size w w' := by
  by_cases a0 : (x0.size : Int) ≤ left
  · have n0 : ¬ left - (x0.size : Int) < 0 := by omega
    by_cases a1 : (x1.size : Int) ≤ left - (x0.size : Int)
    · have n1 : ¬ left - (x0.size : Int) - (x1.size : Int) < 0 := by omega
      go_enter Tryz.func69, Tryz.ntmps69
      go_wp2_with fail
      go_ret
      exact ⟨_, rfl, by omega, by omega, fun _ => by omega, (Below.refl _ _).alloc (Nat.le_refl _) _⟩
    · have n1 : left - (x0.size : Int) - (x1.size : Int) < 0 := by omega
      go_enter Tryz.func69, Tryz.ntmps69
      go_wp2_with fail
      go_ret
      exact ⟨-1, rfl, by omega, by omega, fun h => by omega, (Below.refl _ _).alloc (Nat.le_refl _) _⟩
  · have n0 : left - (x0.size : Int) < 0 := by omega
    go_enter Tryz.func69, Tryz.ntmps69
    go_wp2_with fail
    go_ret
    exact ⟨-1, rfl, by omega, by omega, fun h => by omega, (Below.refl _ _).alloc (Nat.le_refl _) _⟩
set_option maxHeartbeats 4000000 in
theorem szImportS (w : World) (a : Option Addr) (cap : Nat) (l : List MemImport.E) (left : Int) (h : MemImport.Rd w a l) (hn : l.length ≤ 9223372036854775807) (hz : ∀ j, j < l.length → (MemImport.f0At l j).size ≤ 9223372036854775807 ∧ (MemImport.f1At l j).size ≤ 9223372036854775807) (h0 : 0 ≤ left) (h1 : left ≤ 1048576) :
    Calls Tryz.prog 17 #[.slice a l.length cap, .int .i64 left] w fun e w' => ∃ r : Int, e = .returned (.int .i64 r) ∧ r ≤ left ∧ -1 ≤ r ∧ (0 ≤ r → (l.length : Int) ≤ left ∧ ∀ j, j < l.length → ((MemImport.f0At l j).size : Int) ≤ 1048576 ∧ ((MemImport.f1At l j).size : Int) ≤ 1048576) ∧ Below w.heap.size w w' := by
  by_cases hle : (l.length : Int) ≤ left
  · have h' : ¬ left - (l.length : Int) < 0 := by omega
    have k1 : Hid (MemImport.Rd w a l) := h
    have hz' : Hid (∀ j, j < l.length → (MemImport.f0At l j).size ≤ 9223372036854775807 ∧ (MemImport.f1At l j).size ≤ 9223372036854775807) := hz
    clear h hz
    go_enter Tryz.func17, Tryz.ntmps17
    go_wp2_with fail
    go_loopw [1, 5] (fun vl i wr => ∃ (k : Nat) (lf : Int), k ≤ l.length ∧ i = .int .i64 k ∧ vl = .int .i64 lf ∧ 0 ≤ lf ∧ lf ≤ left ∧ (∀ j, j < k → ((MemImport.f0At l j).size : Int) ≤ 1048576 ∧ ((MemImport.f1At l j).size : Int) ≤ 1048576) ∧ Below w.heap.size w wr) (fun _ i _ => l.length - (intOf i).toNat)
    case atStart => exact ⟨0, left - (l.length : Int), Nat.zero_le _, rfl, rfl, by omega, by omega, fun j hj => by omega, Below.refl _ _⟩
    case round =>
      obtain ⟨k, lf, hk, rfl, rfl, l0, l1, hall, hb⟩ := hrel
      have hall' : Hid (∀ j, j < k → ((MemImport.f0At l j).size : Int) ≤ 1048576 ∧ ((MemImport.f1At l j).size : Int) ≤ 1048576) := hall
      by_cases hlt : k < l.length
      · have hlt' : (k : Int) < (l.length : Int) := by omega
        rcases k1.out.later hb with h0' | ⟨b, off, ha, hc⟩
        · omega
        · obtain ⟨c0, c1, c2⟩ := hc k hlt
          have hzk := hz'.out k hlt
          subst ha
          have hs : Hid (∀ u, Calls Tryz.prog 69 #[.agg #[.string (MemImport.f0At l k), .string (MemImport.f1At l k), .int .i64 (MemImport.f2At l k)], .int .i64 lf] u fun e w' => ∃ r : Int, e = .returned (.int .i64 r) ∧ r ≤ lf ∧ -1 ≤ r ∧ (0 ≤ r → ((MemImport.f0At l k).size : Int) ≤ lf ∧ ((MemImport.f1At l k).size : Int) ≤ lf) ∧ Below u.heap.size u w') := fun u => szImport (MemImport.f0At l k) (MemImport.f1At l k) (MemImport.f2At l k) lf u hzk.1 hzk.2 l0 (by omega)
          have hb' : Hid (Below w.heap.size w wr) := hb
          clear hb hc hall
          have hstep : Hid (∀ r : Int, 0 ≤ r → (((MemImport.f0At l k).size : Int) ≤ lf ∧ ((MemImport.f1At l k).size : Int) ≤ lf) → ∀ j, j < k + 1 → ((MemImport.f0At l j).size : Int) ≤ 1048576 ∧ ((MemImport.f1At l j).size : Int) ≤ 1048576) := fun r _ hbd j hj => by
            by_cases e : j = k
            · subst e; omega
            · exact hall'.out j (by omega)
          generalize MemImport.f0At l k = x0 at *
          generalize MemImport.f1At l k = x1 at *
          generalize MemImport.f2At l k = x2 at *
          go_wp2_with (go_at_call 69; refine (hs.out _).mono ?_; rintro e w2 ⟨r, rfl, r1, r2, r3, b2⟩)
          · go_ret
            exact ⟨-1, rfl, by omega, by omega, fun h => by omega, hb'.out.trans (b2.mono hb'.out.size)⟩
          · go_roundw
            case rel => exact ⟨k + 1, r, by omega, by go_num, rfl, by omega, by omega, hstep.out r (by omega) (r3 (by omega)), hb'.out.trans (b2.mono hb'.out.size)⟩
            case measure => simp [intOf]; omega
      · obtain rfl : k = l.length := by omega
        have hb' : Hid (Below w.heap.size w wr) := hb
        clear hb hall
        go_wp2_with fail
        go_ret
        exact ⟨lf, rfl, by omega, by omega, fun _ => ⟨hle, hall'.out⟩, hb'.out⟩
  · have h' : left - (l.length : Int) < 0 := by omega
    clear h hz
    go_enter Tryz.func17, Tryz.ntmps17
    go_wp2_with fail
    go_ret
    exact ⟨-1, rfl, by omega, by omega, fun h => by omega, Below.refl _ _⟩
theorem szExport (x0 : ByteArray) (x1 : Int) (x2 : Int) (left : Int) (w : World) (z0 : x0.size ≤ 9223372036854775807) (h0 : 0 ≤ left) (h1 : left ≤ 1048576) :
    Calls Tryz.prog 71 #[.agg #[.string x0, .int .i64 x1, .int .i64 x2], .int .i64 left] w fun e w' => ∃ r : Int, e = .returned (.int .i64 r) ∧ r ≤ left ∧ -1 ≤ r ∧ (0 ≤ r → (x0.size : Int) ≤ left) ∧ Below w.heap.size w w' := by
  by_cases a0 : (x0.size : Int) ≤ left
  · have n0 : ¬ left - (x0.size : Int) < 0 := by omega
    go_enter Tryz.func71, Tryz.ntmps71
    go_wp2_with fail
    go_ret
    first | exact ⟨_, rfl, by omega, by omega, fun _ => by omega, (Below.refl _ _).alloc (Nat.le_refl _) _⟩ | exact ⟨_, rfl, by omega, by omega, (Below.refl _ _).alloc (Nat.le_refl _) _⟩
  · have n0 : left - (x0.size : Int) < 0 := by omega
    go_enter Tryz.func71, Tryz.ntmps71
    go_wp2_with fail
    go_ret
    exact ⟨-1, rfl, by omega, by omega, fun h => by omega, (Below.refl _ _).alloc (Nat.le_refl _) _⟩
set_option maxHeartbeats 4000000 in
theorem szExportS (w : World) (a : Option Addr) (cap : Nat) (l : List MemExport.E) (left : Int) (h : MemExport.Rd w a l) (hn : l.length ≤ 9223372036854775807) (hz : ∀ j, j < l.length → (MemExport.f0At l j).size ≤ 9223372036854775807) (h0 : 0 ≤ left) (h1 : left ≤ 1048576) :
    Calls Tryz.prog 20 #[.slice a l.length cap, .int .i64 left] w fun e w' => ∃ r : Int, e = .returned (.int .i64 r) ∧ r ≤ left ∧ -1 ≤ r ∧ (0 ≤ r → (l.length : Int) ≤ left ∧ ∀ j, j < l.length → ((MemExport.f0At l j).size : Int) ≤ 1048576) ∧ Below w.heap.size w w' := by
  by_cases hle : (l.length : Int) ≤ left
  · have h' : ¬ left - (l.length : Int) < 0 := by omega
    have k1 : Hid (MemExport.Rd w a l) := h
    have hz' : Hid (∀ j, j < l.length → (MemExport.f0At l j).size ≤ 9223372036854775807) := hz
    clear h hz
    go_enter Tryz.func20, Tryz.ntmps20
    go_wp2_with fail
    go_loopw [1, 5] (fun vl i wr => ∃ (k : Nat) (lf : Int), k ≤ l.length ∧ i = .int .i64 k ∧ vl = .int .i64 lf ∧ 0 ≤ lf ∧ lf ≤ left ∧ (∀ j, j < k → ((MemExport.f0At l j).size : Int) ≤ 1048576) ∧ Below w.heap.size w wr) (fun _ i _ => l.length - (intOf i).toNat)
    case atStart => exact ⟨0, left - (l.length : Int), Nat.zero_le _, rfl, rfl, by omega, by omega, fun j hj => by omega, Below.refl _ _⟩
    case round =>
      obtain ⟨k, lf, hk, rfl, rfl, l0, l1, hall, hb⟩ := hrel
      have hall' : Hid (∀ j, j < k → ((MemExport.f0At l j).size : Int) ≤ 1048576) := hall
      by_cases hlt : k < l.length
      · have hlt' : (k : Int) < (l.length : Int) := by omega
        rcases k1.out.later hb with h0' | ⟨b, off, ha, hc⟩
        · omega
        · obtain ⟨c0, c1, c2⟩ := hc k hlt
          have hzk := hz'.out k hlt
          subst ha
          have hs : Hid (∀ u, Calls Tryz.prog 71 #[.agg #[.string (MemExport.f0At l k), .int .i64 (MemExport.f1At l k), .int .i64 (MemExport.f2At l k)], .int .i64 lf] u fun e w' => ∃ r : Int, e = .returned (.int .i64 r) ∧ r ≤ lf ∧ -1 ≤ r ∧ (0 ≤ r → ((MemExport.f0At l k).size : Int) ≤ lf) ∧ Below u.heap.size u w') := fun u => szExport (MemExport.f0At l k) (MemExport.f1At l k) (MemExport.f2At l k) lf u hzk l0 (by omega)
          have hb' : Hid (Below w.heap.size w wr) := hb
          clear hb hc hall
          have hstep : Hid (∀ r : Int, 0 ≤ r → (((MemExport.f0At l k).size : Int) ≤ lf) → ∀ j, j < k + 1 → ((MemExport.f0At l j).size : Int) ≤ 1048576) := fun r _ hbd j hj => by
            by_cases e : j = k
            · subst e; omega
            · exact hall'.out j (by omega)
          generalize MemExport.f0At l k = x0 at *
          generalize MemExport.f1At l k = x1 at *
          generalize MemExport.f2At l k = x2 at *
          go_wp2_with (go_at_call 71; refine (hs.out _).mono ?_; rintro e w2 ⟨r, rfl, r1, r2, r3, b2⟩)
          · go_ret
            exact ⟨-1, rfl, by omega, by omega, fun h => by omega, hb'.out.trans (b2.mono hb'.out.size)⟩
          · go_roundw
            case rel => exact ⟨k + 1, r, by omega, by go_num, rfl, by omega, by omega, hstep.out r (by omega) (r3 (by omega)), hb'.out.trans (b2.mono hb'.out.size)⟩
            case measure => simp [intOf]; omega
      · obtain rfl : k = l.length := by omega
        have hb' : Hid (Below w.heap.size w wr) := hb
        clear hb hall
        go_wp2_with fail
        go_ret
        exact ⟨lf, rfl, by omega, by omega, fun _ => ⟨hle, hall'.out⟩, hb'.out⟩
  · have h' : left - (l.length : Int) < 0 := by omega
    clear h hz
    go_enter Tryz.func20, Tryz.ntmps20
    go_wp2_with fail
    go_ret
    exact ⟨-1, rfl, by omega, by omega, fun h => by omega, Below.refl _ _⟩
end Go.Proofs.YtffngjgjhialnaaGreatDoor.ModSz
namespace Go.Proofs.YtffngjgjhialnaaGreatDoor.MemFunc
open Go.RowKit PlainShape InsMem

structure E where
  sig : Int
  loc : Int
  ad : Option Addr
  cp : Nat
  body : List I3
def dE : E := ⟨0, 0, none, 0, []⟩
def at1 (l : List E) (k : Nat) : E := l.getD k dE
/-- A slice of functions that can be read, bodies too. -/
def Rd (w : World) (a : Option Addr) (l : List E) : Prop :=
  l.length = 0 ∨ ∃ b off, a = some ⟨b, off, none⟩ ∧ ∀ j, j < l.length → w.cell? ⟨b, off + j * 3, none⟩ = some (.int .i64 (at1 l j).sig) ∧ w.cell? ⟨b, off + j * 3 + 1, none⟩ = some (.int .i64 (at1 l j).loc) ∧ w.cell? ⟨b, off + j * 3 + 2, none⟩ = some (.slice (at1 l j).ad (at1 l j).body.length (at1 l j).cp) ∧ RdI w (at1 l j).ad (at1 l j).body
theorem Rd.later {w w' : World} {a : Option Addr} {l : List E} (h : Rd w a l) (hb : Below w.heap.size w w') : Rd w' a l := by
  rcases h with h | ⟨b, off, ha, hc⟩
  · exact .inl h
  · refine .inr ⟨b, off, ha, fun j hj => ?_⟩
    obtain ⟨c0, c1, c2, hr⟩ := hc j hj
    have hs : b < w.heap.size := World.block_lt_of_cell? w _ c0
    exact ⟨by rw [hb.cell hs]; exact c0, by rw [hb.cell hs]; exact c1, by rw [hb.cell hs]; exact c2, hr.later hb⟩
def R3 (v0 v1 v2 : Value) (j : Nat) : Value := if j = 0 then v0 else if j = 1 then v1 else v2
theorem r3_made (w : World) (v0 v1 v2 : Value) (t : TypeId) : (w.alloc (.cells #[v0, v1, v2] t)).rowIs w.heap.size t 3 (R3 v0 v1 v2) :=
  World.rowIs_alloc w #[v0, v1, v2] t _ (fun i hi => by
    match i, hi with
    | 0, _ => rfl
    | 1, _ => rfl
    | 2, _ => rfl)
theorem r3 {w : World} {b : Nat} {t : TypeId} {v0 v1 v2 : Value} (h : w.rowIs b t 3 (R3 v0 v1 v2)) :
    w.cell? ⟨b, 0, none⟩ = some v0 ∧ w.cell? ⟨b, 1, none⟩ = some v1 ∧ w.cell? ⟨b, 2, none⟩ = some v2 ∧ w.frozen? ⟨b, 0, none⟩ = false ∧ w.frozen? ⟨b, 1, none⟩ = false ∧ w.frozen? ⟨b, 2, none⟩ = false :=
  ⟨h.cell (by omega), h.cell (by omega), h.cell (by omega), h.frozen _, h.frozen _, h.frozen _⟩
theorem s3 {w : World} {r : Nat} {t : TypeId} {f : Nat → Value} (h : w.rowIs r t 3 f) (o a b : Value) :
    (((w.setCell ⟨r, 0, none⟩ o).setCell ⟨r, 1, none⟩ a).setCell ⟨r, 2, none⟩ b).cell? ⟨r, 0, none⟩ = some o ∧
    (((w.setCell ⟨r, 0, none⟩ o).setCell ⟨r, 1, none⟩ a).setCell ⟨r, 2, none⟩ b).cell? ⟨r, 1, none⟩ = some a ∧
    (((w.setCell ⟨r, 0, none⟩ o).setCell ⟨r, 1, none⟩ a).setCell ⟨r, 2, none⟩ b).cell? ⟨r, 2, none⟩ = some b := by
  have h3 := ((h.set 0 o).set 1 a).set 2 b
  refine ⟨?_, ?_, ?_⟩ <;> rw [h3.cell (by omega)] <;> simp
theorem b3 {n r : Nat} {w : World} (hr : n ≤ r) (o a b : Value) : Below n w (((w.setCell ⟨r, 0, none⟩ o).setCell ⟨r, 1, none⟩ a).setCell ⟨r, 2, none⟩ b) :=
  (((Below.refl n w).setCell (p := ⟨r, 0, none⟩) hr o).setCell (p := ⟨r, 1, none⟩) hr a).setCell (p := ⟨r, 2, none⟩) hr b
/-- Block g is there, and nothing of it is frozen. -/
def Fz (w : World) (g : Nat) : Prop := g < w.heap.size ∧ ∀ i, w.frozen? ⟨g, i, none⟩ = false
theorem Fz.later {w w' : World} {g : Nat} (h : Fz w g) (hb : Below w.heap.size w w') : Fz w' g := ⟨Nat.lt_of_lt_of_le h.1 hb.size, fun i => by
  rw [← h.2 i]
  unfold World.frozen?
  rw [hb.block g h.1]⟩
theorem Fz.set {w : World} {g : Nat} (h : Fz w g) (p : Addr) (v : Value) : Fz (w.setCell p v) g := ⟨by rw [World.size_setCell]; exact h.1, fun i => by rw [World.frozen?_setCell]; exact h.2 i⟩
theorem Fz.block {w w' : World} {g : Nat} (h : Fz w g) (hs : w.heap.size ≤ w'.heap.size) (hb : w'.heap[g]? = w.heap[g]?) : Fz w' g := ⟨Nat.lt_of_lt_of_le h.1 hs, fun i => by
  rw [← h.2 i]
  unfold World.frozen?
  rw [hb]⟩
/-- A body in block g, which can be read and written. -/
def RdIF (w : World) (g : Nat) (l : List I3) : Prop := RdI w (some ⟨g, 0, none⟩) l ∧ Fz w g
theorem RdIF.later {w w' : World} {g : Nat} {l : List I3} (h : RdIF w g l) (hb : Below w.heap.size w w') : RdIF w' g l := ⟨h.1.later hb, h.2.later hb⟩
theorem rdIF_of_row {w : World} {g : Nat} {l : List I3} (hr : w.rowIs g 174 (l.length * 3) (fun j => .int .i64 (cv l j))) : RdIF w g l := ⟨rdI_of_row hr, hr.lt, hr.frozen⟩
set_option maxHeartbeats 2000000 in
theorem to1 (s x : Int) (a : Option Addr) (c : Nat) (l : List I3) (w : World) (h : RdI w a l) (hn : l.length ≤ 1048576) :
    Calls Tryz.prog 82 #[.agg #[.int .i64 s, .int .i64 x, .slice a l.length c]] w fun e w' => ∃ g, e = .returned (.agg #[.int .i64 s, .int .i64 x, .slice (some ⟨g, 0, none⟩) l.length l.length]) ∧ w.heap.size ≤ g ∧ RdIF w' (g) l ∧ Below w.heap.size w w' := by
  have h' : Hid (RdI w a l) := h
  clear h
  have ba : Below w.heap.size w (((w.alloc (.cells #[.int .i64 s, .int .i64 x, .slice a l.length c] 124)).alloc (.cells #[.int .i64 0, .int .i64 0, .slice none 0 0] 87)).alloc (.cells #[.int .i64 s, .int .i64 x, .slice none 0 0] 87)) := (((Below.refl _ _).alloc (Nat.le_refl _) _).alloc (by simp) _).alloc (by simp; omega) _
  have ro : Hid ((((w.alloc (.cells #[.int .i64 s, .int .i64 x, .slice a l.length c] 124)).alloc (.cells #[.int .i64 0, .int .i64 0, .slice none 0 0] 87)).alloc (.cells #[.int .i64 s, .int .i64 x, .slice none 0 0] 87)).rowIs (w.heap.size + 1 + 1) 87 3 (R3 (.int .i64 s) (.int .i64 x) (.slice none 0 0))) := by
    have := r3_made ((w.alloc (.cells #[.int .i64 s, .int .i64 x, .slice a l.length c] 124)).alloc (.cells #[.int .i64 0, .int .i64 0, .slice none 0 0] 87)) (.int .i64 s) (.int .i64 x) (.slice none 0 0) 87
    simp only [World.size_alloc] at this
    exact this
  have rr : Hid ((((w.alloc (.cells #[.int .i64 s, .int .i64 x, .slice a l.length c] 124)).alloc (.cells #[.int .i64 0, .int .i64 0, .slice none 0 0] 87)).alloc (.cells #[.int .i64 s, .int .i64 x, .slice none 0 0] 87)).rowIs (w.heap.size + 1) 87 3 (R3 (.int .i64 0) (.int .i64 0) (.slice none 0 0))) := by
    have := (r3_made (w.alloc (.cells #[.int .i64 s, .int .i64 x, .slice a l.length c] 124)) (.int .i64 0) (.int .i64 0) (.slice none 0 0) 87).alloc (.cells #[.int .i64 s, .int .i64 x, .slice none 0 0] 87)
    simp only [World.size_alloc] at this
    exact this
  go_enter Tryz.func82, Tryz.ntmps82
  go_wp2_with (go_at_call 123; refine (toInsS _ a c l (h'.out.later ba) hn).mono ?_; rintro e w1 ⟨g, rfl, hg, hrow, q1⟩; have ro1 : Hid (w1.rowIs (w.heap.size + 1 + 1) 87 3 (R3 (.int .i64 s) (.int .i64 x) (.slice none 0 0))) := row_later ro.out q1; have rr1 : Hid (w1.rowIs (w.heap.size + 1) 87 3 (R3 (.int .i64 0) (.int .i64 0) (.slice none 0 0))) := row_later rr.out q1; obtain ⟨a0, a1, a2, f0, f1, f2⟩ := r3 ro1.out; obtain ⟨p0, p1, p2, t0, t1, t2⟩ := r3 rr1.out; have hrw : Hid (w1.rowIs g 174 (l.length * 3) (fun j => .int .i64 (cv l j))) := hrow; clear hrow)
  simp only [World.size_alloc] at hg
  obtain ⟨e0, e1, e2⟩ := s3 (rr1.out.setOther (a := ⟨w.heap.size + 1 + 1, 2, none⟩) (by simp) (.slice (some ⟨g, 0, none⟩) l.length l.length)) (.int .i64 s) (.int .i64 x) (.slice (some ⟨g, 0, none⟩) l.length l.length)
  refine bodyPost_ret ?_ rfl ⟨g, rfl, by omega, ?_, ?_⟩
  · simp [results, go_sem, e0, e1, e2]
  · exact rdIF_of_row ((((hrw.out.setOther (a := ⟨w.heap.size + 1 + 1, 2, none⟩) (by simp; omega) _).setOther (a := ⟨w.heap.size + 1, 0, none⟩) (by simp; omega) _).setOther (a := ⟨w.heap.size + 1, 1, none⟩) (by simp; omega) _).setOther (a := ⟨w.heap.size + 1, 2, none⟩) (by simp; omega) _)
  · exact (ba.trans (q1.mono ba.size)).trans (((Below.refl _ _).setCell (p := ⟨w.heap.size + 1 + 1, 2, none⟩) (by simp; omega) _).trans (b3 (by omega) _ _ _))
set_option maxHeartbeats 2000000 in
theorem eq1 (s x : Int) (a a' : Option Addr) (c c' : Nat) (l : List I3) (w : World) (h : RdI w a l) (h2 : RdI w a' l) (hn : l.length ≤ 2097152) :
    Calls Tryz.prog 110 #[.agg #[.int .i64 s, .int .i64 x, .slice a l.length c], .agg #[.int .i64 s, .int .i64 x, .slice a' l.length c']] w fun e w' => e = .returned (.bool true) ∧ Below w.heap.size w w' := by
  have ba : Below w.heap.size w ((w.alloc (.cells #[.int .i64 s, .int .i64 x, .slice a l.length c] 87)).alloc (.cells #[.int .i64 s, .int .i64 x, .slice a' l.length c'] 87)) := ((Below.refl _ _).alloc (Nat.le_refl _) _).alloc (by simp) _
  have h1' : Hid (RdI w a l) := h
  have h2' : Hid (RdI w a' l) := h2
  clear h h2
  go_enter Tryz.func110, Tryz.ntmps110
  go_wp2_with (go_at_call 134; refine (eqInsS _ a a' c c' l (h1'.out.later ba) (h2'.out.later ba) hn).mono ?_; rintro e w1 ⟨rfl, q1⟩)
  go_ret
  exact ⟨rfl, ba.trans (q1.mono ba.size)⟩
def cvF (G : Nat → Nat) (l : List E) (j : Nat) : Value := if j % 3 = 0 then .int .i64 (at1 l (j / 3)).sig else if j % 3 = 1 then .int .i64 (at1 l (j / 3)).loc else .slice (some ⟨G (j / 3), 0, none⟩) (at1 l (j / 3)).body.length (at1 l (j / 3)).body.length
def zvF (j : Nat) : Value := if j % 3 = 0 then .int .i64 0 else if j % 3 = 1 then .int .i64 0 else .slice none 0 0
theorem cvF0 (G : Nat → Nat) (l : List E) (k : Nat) : cvF G l (k * 3) = .int .i64 (at1 l k).sig := by unfold cvF; rw [if_pos (by omega), show k * 3 / 3 = k by omega]
theorem cvF1 (G : Nat → Nat) (l : List E) (k : Nat) : cvF G l (k * 3 + 1) = .int .i64 (at1 l k).loc := by unfold cvF; rw [if_neg (by omega), if_pos (by omega), show (k * 3 + 1) / 3 = k by omega]
theorem cvF2 (G : Nat → Nat) (l : List E) (k : Nat) : cvF G l (k * 3 + 2) = .slice (some ⟨G k, 0, none⟩) (at1 l k).body.length (at1 l k).body.length := by unfold cvF; rw [if_neg (by omega), if_neg (by omega), show (k * 3 + 2) / 3 = k by omega]
theorem cvF_upd (G : Nat → Nat) (l : List E) (k g j : Nat) (hj : j < k * 3) : cvF (fun i => if i = k then g else G i) l j = cvF G l j := by
  have : j / 3 ≠ k := by omega
  simp [cvF, this]
theorem infoF : (Tryz.prog.info? 87).map (fun i => (i.zero, i.size, i.bytes)) = some (some (.agg #[.int .i64 0, .int .i64 0, .slice none 0 0]), 3, 40) := by kernel_rfl
theorem run_mkF (m : Nat) (hn : m ≤ 1048576) (w : World) :
    (Instr.makeSlice 36 (.int .i64 (m : Int)) (.int .i64 (m : Int))).run Tryz.prog w = .ok (.slice (some ⟨w.heap.size, 0, none⟩) m m) (w.alloc (.cells (madeCells #[.int .i64 0, .int .i64 0, .slice none 0 0] (m * 3)) 87)) := by
  obtain ⟨i, hi, hzz⟩ := Option.map_eq_some_iff.1 infoF
  simp only [Prod.mk.injEq] at hzz
  obtain ⟨hz, hs, hb⟩ := hzz
  have hr := run_make (P := Tryz.prog) w 36 87 i _ Tryz.underlying36 hi hz .i64 .i64 m m (by omega) (Int.le_refl _) (by rw [hb]; omega) (by omega)
  simp only [Int.toNat_natCast, hs] at hr
  exact hr
theorem madeF (w : World) (m : Nat) : (w.alloc (.cells (madeCells #[.int .i64 0, .int .i64 0, .slice none 0 0] (m * 3)) 87)).rowIs w.heap.size 87 (m * 3) zvF :=
  ⟨madeCells #[.int .i64 0, .int .i64 0, .slice none 0 0] (m * 3), Deep.blk_alloc_new _ _, size_madeCells _ _, fun i hi => by
    have : i % 3 = 0 ∨ i % 3 = 1 ∨ i % 3 = 2 := by omega
    rcases this with h | h | h <;> simp [madeCells, zvF, hi, h]⟩
theorem rdI_other {w : World} {g : Nat} {l : List I3} {p : Addr} (h : RdI w (some ⟨g, 0, none⟩) l) (hne : g ≠ p.block) (v : Value) : RdI (w.setCell p v) (some ⟨g, 0, none⟩) l := by
  rcases h with h | ⟨b, off, ha, hc⟩
  · exact .inl h
  · simp only [Option.some.injEq, Addr.mk.injEq, and_true] at ha
    obtain ⟨rfl, rfl⟩ := ha
    refine .inr ⟨g, 0, rfl, fun j hj => ?_⟩
    obtain ⟨c0, c1, c2⟩ := hc j hj
    have hk : ∀ o, (w.setCell p v).cell? ⟨g, o, none⟩ = w.cell? ⟨g, o, none⟩ := fun o => World.cell?_setCell_other (w := w) (a := p) (b := ⟨g, o, none⟩) (v := v) (fun e => hne (by first | rw [← e] | rw [e]))
    exact ⟨(hk _).trans c0, (hk _).trans c1, (hk _).trans c2⟩
theorem rdIF_other {w : World} {g : Nat} {l : List I3} {p : Addr} (h : RdIF w g l) (hne : g ≠ p.block) (v : Value) : RdIF (w.setCell p v) g l := ⟨rdI_other h.1 hne v, h.2.set p v⟩
set_option maxRecDepth 20000 in
set_option maxHeartbeats 8000000 in
theorem toS (w : World) (a : Option Addr) (cap : Nat) (l : List E) (h : Rd w a l) (hn : l.length ≤ 1048576) (hbd : ∀ j, j < l.length → (at1 l j).body.length ≤ 1048576) :
    Calls Tryz.prog 34 #[.slice a l.length cap] w fun e w' => ∃ (b : Nat) (G : Nat → Nat), e = .returned (.slice (some ⟨b, 0, none⟩) l.length l.length) ∧ w.heap.size ≤ b ∧ w'.rowIs b 87 (l.length * 3) (cvF G l) ∧ (∀ j, j < l.length → w.heap.size < G j ∧ RdIF w' (G j) (at1 l j).body) ∧ Below w.heap.size w w' := by
  have hmk := run_mkF l.length hn
  have h' : Hid (Rd w a l) := h
  have hbd' : Hid (∀ j, j < l.length → (at1 l j).body.length ≤ 1048576) := hbd
  clear h hbd
  go_enter Tryz.func34, Tryz.ntmps34
  go_wp2_with fail
  clear hmk
  go_loopw [4] (fun i wr => ∃ (k : Nat) (G : Nat → Nat), k ≤ l.length ∧ i = .int .i64 k ∧ wr.rowIs w.heap.size 87 (l.length * 3) (fun j => if j < k * 3 then cvF G l j else zvF j) ∧ (∀ j, j < k → w.heap.size < G j ∧ RdIF wr (G j) (at1 l j).body) ∧ Below w.heap.size w wr) (fun i _ => l.length - (intOf i).toNat)
  case atStart => exact ⟨0, fun _ => 0, Nat.zero_le _, rfl, (madeF w l.length).congr (fun i hi => by simp), fun j hj => by omega, (Below.refl _ _).alloc (Nat.le_refl _) _⟩
  case round =>
    obtain ⟨k, G, hk, rfl, hrow, hG, hbel⟩ := hrel
    have hwl := hrow.lt
    by_cases hlt : k < l.length
    · have hlt' : (k : Int) < (l.length : Int) := by omega
      rcases h'.out.later hbel with h0 | ⟨b, off, ha, hc⟩
      · omega
      · obtain ⟨c0, c1, c2, hrb⟩ := hc k hlt
        subst ha
        have e0 := fun G => cvF0 G l k
        have e1 := fun G => cvF1 G l k
        have e2 := fun G => cvF2 G l k
        have hT : Hid (Calls Tryz.prog 82 #[.agg #[.int .i64 (at1 l k).sig, .int .i64 (at1 l k).loc, .slice (at1 l k).ad (at1 l k).body.length (at1 l k).cp]] wr fun e w' => ∃ g, e = .returned (.agg #[.int .i64 (at1 l k).sig, .int .i64 (at1 l k).loc, .slice (some ⟨g, 0, none⟩) (at1 l k).body.length (at1 l k).body.length]) ∧ wr.heap.size ≤ g ∧ RdIF w' (g) (at1 l k).body ∧ Below wr.heap.size wr w') := to1 _ _ _ _ _ wr hrb (hbd'.out k hlt)
        have e0' : Hid _ := e0
        have e1' : Hid _ := e1
        have e2' : Hid _ := e2
        have hrow' : Hid (wr.rowIs w.heap.size 87 (l.length * 3) (fun j => if j < k * 3 then cvF G l j else zvF j)) := hrow
        have hbel' : Hid (Below w.heap.size w wr) := hbel
        have hG' : Hid (∀ j, j < k → w.heap.size < G j ∧ RdIF wr (G j) (at1 l j).body) := hG
        clear hrow hbel hc hrb hG e0 e1 e2
        generalize hbk : (at1 l k).body = bk at *
        generalize (at1 l k).sig = y0 at *
        generalize (at1 l k).loc = y1 at *
        generalize (at1 l k).ad = y2 at *
        generalize (at1 l k).cp = y3 at *
        have hbk' : Hid ((at1 l k).body = bk) := hbk
        clear hbk
        go_wp2_with (go_at_call 82; refine hT.out.mono ?_; rintro e w1 ⟨g, rfl, hg, hrg, b1⟩; have hr1 : Hid (w1.rowIs w.heap.size 87 (l.length * 3) (fun j => if j < k * 3 then cvF G l j else zvF j)) := row_later hrow'.out b1; obtain ⟨⟨z0, q0⟩, ⟨z1, q1⟩, ⟨z2, q2⟩, g0, g1, g2⟩ := three hr1.out (i := k * 3) (by omega) (.int .i64 y0) (.int .i64 y1); have hrg' : Hid (RdIF w1 (g) bk) := hrg; clear hrg)
        go_roundw
        case rel =>
          refine ⟨k + 1, fun i => if i = k then g else G i, by omega, by go_num, ((((hr1.out.set (k * 3) (.int .i64 y0)).set (k * 3 + 1) (.int .i64 y1)).set (k * 3 + 2) (.slice (some ⟨g, 0, none⟩) bk.length bk.length)).congr fun j hj => ?_), fun j hj => ?_, ?_⟩
          · by_cases z2 : j = k * 3 + 2
            · rw [if_pos z2, if_pos (by omega), z2, e2'.out]; simp
            · rw [if_neg z2]
              by_cases z1 : j = k * 3 + 1
              · rw [if_pos z1, if_pos (by omega), z1, e1'.out]
              · rw [if_neg z1]
                by_cases z0 : j = k * 3
                · rw [if_pos z0, if_pos (by omega), z0, e0'.out]
                · rw [if_neg z0]
                  by_cases z3 : j < k * 3
                  · rw [if_pos z3, if_pos (by omega), cvF_upd G l k g j z3]
                  · rw [if_neg z3, if_neg (by omega)]
          · by_cases ej : j = k
            · subst ej
              rw [hbk'.out]
              simp only [if_true]
              exact ⟨by omega, rdIF_other (rdIF_other (rdIF_other hrg'.out (p := ⟨w.heap.size, _, none⟩) (by simp; omega) _) (p := ⟨w.heap.size, _, none⟩) (by simp; omega) _) (p := ⟨w.heap.size, _, none⟩) (by simp; omega) _⟩
            · obtain ⟨d1, d2⟩ := hG'.out j (by omega)
              simp only [if_neg ej]
              exact ⟨d1, rdIF_other (rdIF_other (rdIF_other (d2.later b1) (p := ⟨w.heap.size, _, none⟩) (by simp; omega) _) (p := ⟨w.heap.size, _, none⟩) (by simp; omega) _) (p := ⟨w.heap.size, _, none⟩) (by simp; omega) _⟩
          · exact (((hbel'.out.trans (b1.mono hbel'.out.size)).setCell (Nat.le_refl _) _).setCell (Nat.le_refl _) _).setCell (Nat.le_refl _) _
        case measure => simp [intOf]; omega
    · obtain rfl : k = l.length := by omega
      have hrow' : Hid (wr.rowIs w.heap.size 87 (l.length * 3) (cvF G l)) := hrow.congr (fun j hj => by simp [hj])
      have hbel' : Hid (Below w.heap.size w wr) := hbel
      have hG' : Hid (∀ j, j < l.length → w.heap.size < G j ∧ RdIF wr (G j) (at1 l j).body) := hG
      clear hrow hbel hG
      go_wp2_with fail
      go_ret
      exact ⟨_, G, rfl, Nat.le_refl _, hrow'.out, hG'.out, hbel'.out⟩
set_option maxRecDepth 20000 in
set_option maxHeartbeats 8000000 in
theorem eqS (w : World) (a a' : Option Addr) (cap cap' : Nat) (l l' : List E) (h : Rd w a l) (h' : Rd w a' l') (hll : l'.length = l.length) (hn : l.length ≤ 2097152)
    (hsame : ∀ j, j < l.length → (at1 l' j).sig = (at1 l j).sig ∧ (at1 l' j).loc = (at1 l j).loc ∧ (at1 l' j).body = (at1 l j).body ∧ (at1 l j).body.length ≤ 2097152) :
    Calls Tryz.prog 58 #[.slice a l.length cap, .slice a' l.length cap'] w fun e w' => e = .returned (.bool true) ∧ Below w.heap.size w w' := by
  have k1 : Hid (Rd w a l) := h
  have k2 : Hid (Rd w a' l') := h'
  have hsame' : Hid (∀ j, j < l.length → (at1 l' j).sig = (at1 l j).sig ∧ (at1 l' j).loc = (at1 l j).loc ∧ (at1 l' j).body = (at1 l j).body ∧ (at1 l j).body.length ≤ 2097152) := hsame
  clear h h' hsame
  go_enter Tryz.func58, Tryz.ntmps58
  go_wp2_with fail
  go_loopw [5] (fun i wr => ∃ k : Nat, k ≤ l.length ∧ i = .int .i64 k ∧ Below w.heap.size w wr) (fun i _ => l.length - (intOf i).toNat)
  case atStart => exact ⟨0, Nat.zero_le _, rfl, Below.refl _ _⟩
  case round =>
    obtain ⟨k, hk, rfl, hb⟩ := hrel
    by_cases hlt : k < l.length
    · have hlt' : (k : Int) < (l.length : Int) := by omega
      rcases k1.out.later hb with h0 | ⟨b, off, ha, hc⟩
      · omega
      · rcases k2.out.later hb with h0' | ⟨b', off', ha', hc'⟩
        · omega
        · obtain ⟨c0, c1, c2, rb⟩ := hc k hlt
          obtain ⟨d0, d1, d2, rb'⟩ := hc' k (by omega)
          obtain ⟨s1, s2, s3, s4⟩ := hsame'.out k hlt
          rw [s1] at d0
          rw [s2] at d1
          rw [s3] at d2 rb'
          subst ha ha'
          have hq : Hid (∀ u, Below wr.heap.size wr u → Calls Tryz.prog 110 #[.agg #[.int .i64 (at1 l k).sig, .int .i64 (at1 l k).loc, .slice (at1 l k).ad (at1 l k).body.length (at1 l k).cp], .agg #[.int .i64 (at1 l k).sig, .int .i64 (at1 l k).loc, .slice (at1 l' k).ad (at1 l k).body.length (at1 l' k).cp]] u fun e w' => e = .returned (.bool true) ∧ Below u.heap.size u w') := fun u hu => eq1 _ _ _ _ _ _ _ u (rb.later hu) (rb'.later hu) s4
          have hb' : Hid (Below w.heap.size w wr) := hb
          clear hb hc hc' rb rb' s1 s2 s3 s4
          generalize (at1 l k).body.length = bn at *
          generalize (at1 l k).sig = y0 at *
          generalize (at1 l k).loc = y1 at *
          generalize (at1 l k).ad = y2 at *
          generalize (at1 l k).cp = y3 at *
          generalize (at1 l' k).ad = y4 at *
          generalize (at1 l' k).cp = y5 at *
          go_wp2_with fail
          go_region_held (fun w' => w'.cell? ⟨b, off + k * 3, none⟩ = some (.int .i64 y0) ∧ w'.cell? ⟨b, off + k * 3 + 1, none⟩ = some (.int .i64 y1) ∧ w'.cell? ⟨b, off + k * 3 + 2, none⟩ = some (.slice y2 bn y3) ∧ w'.cell? ⟨b', off' + k * 3, none⟩ = some (.int .i64 y0) ∧ w'.cell? ⟨b', off' + k * 3 + 1, none⟩ = some (.int .i64 y1) ∧ w'.cell? ⟨b', off' + k * 3 + 2, none⟩ = some (.slice y4 bn y5)) (go_keep)
            (first | (go_at_call 110; refine (hq.out _ (Below.refl _ _).drew).mono ?_; rintro e w2 ⟨rfl, b2⟩; obtain ⟨t0, t1, t2, t3, t4, t5⟩ := keep6 b2 c0 c1 c2 d0 d1 d2))
          go_wp2_with fail
          go_roundw
          case rel => exact ⟨k + 1, by omega, by go_num, hb'.out.drew.trans (b2.mono hb'.out.size)⟩
          case measure => simp [intOf]; omega
    · obtain rfl : k = l.length := by omega
      have hb' : Hid (Below w.heap.size w wr) := hb
      clear hb
      go_wp2_with fail
      go_ret
      exact ⟨rfl, hb'.out⟩
end Go.Proofs.YtffngjgjhialnaaGreatDoor.MemFunc
namespace Go.Proofs.YtffngjgjhialnaaGreatDoor.MemData
open Go.RowKit InsMem

structure E where
  pos : Int
  ad : Option Addr
  cp : Nat
  n : Nat
  Z : Nat → Int
def dE : E := ⟨0, none, 0, 0, fun _ => 0⟩
def at1 (l : List E) (k : Nat) : E := l.getD k dE
def Rd (w : World) (a : Option Addr) (l : List E) : Prop :=
  l.length = 0 ∨ ∃ b off, a = some ⟨b, off, none⟩ ∧ ∀ j, j < l.length → w.cell? ⟨b, off + j * 2, none⟩ = some (.int .i64 (at1 l j).pos) ∧ w.cell? ⟨b, off + j * 2 + 1, none⟩ = some (.slice (at1 l j).ad (at1 l j).n (at1 l j).cp) ∧ ByteMem.Rd w (at1 l j).ad (at1 l j).n (at1 l j).Z
theorem Rd.later {w w' : World} {a : Option Addr} {l : List E} (h : Rd w a l) (hb : Below w.heap.size w w') : Rd w' a l := by
  rcases h with h | ⟨b, off, ha, hc⟩
  · exact .inl h
  · refine .inr ⟨b, off, ha, fun j hj => ?_⟩
    obtain ⟨c0, c1, hr⟩ := hc j hj
    have hs : b < w.heap.size := World.block_lt_of_cell? w _ c0
    exact ⟨by rw [hb.cell hs]; exact c0, by rw [hb.cell hs]; exact c1, hr.later hb⟩
def R2 (v0 v1 : Value) (j : Nat) : Value := if j = 0 then v0 else v1
theorem r2_made (w : World) (v0 v1 : Value) (t : TypeId) : (w.alloc (.cells #[v0, v1] t)).rowIs w.heap.size t 2 (R2 v0 v1) :=
  World.rowIs_alloc w #[v0, v1] t _ (fun i hi => by
    match i, hi with
    | 0, _ => rfl
    | 1, _ => rfl)
theorem r2 {w : World} {b : Nat} {t : TypeId} {v0 v1 : Value} (h : w.rowIs b t 2 (R2 v0 v1)) :
    w.cell? ⟨b, 0, none⟩ = some v0 ∧ w.cell? ⟨b, 1, none⟩ = some v1 ∧ w.frozen? ⟨b, 0, none⟩ = false ∧ w.frozen? ⟨b, 1, none⟩ = false :=
  ⟨h.cell (by omega), h.cell (by omega), h.frozen _, h.frozen _⟩
theorem s2 {w : World} {r : Nat} {t : TypeId} {f : Nat → Value} (h : w.rowIs r t 2 f) (o a : Value) :
    ((w.setCell ⟨r, 0, none⟩ o).setCell ⟨r, 1, none⟩ a).cell? ⟨r, 0, none⟩ = some o ∧ ((w.setCell ⟨r, 0, none⟩ o).setCell ⟨r, 1, none⟩ a).cell? ⟨r, 1, none⟩ = some a := by
  have h3 := (h.set 0 o).set 1 a
  refine ⟨?_, ?_⟩ <;> rw [h3.cell (by omega)] <;> simp
/-- Block g is there, and nothing of it is frozen. -/
def Fz (w : World) (g : Nat) : Prop := g < w.heap.size ∧ ∀ i, w.frozen? ⟨g, i, none⟩ = false
theorem Fz.later {w w' : World} {g : Nat} (h : Fz w g) (hb : Below w.heap.size w w') : Fz w' g := ⟨Nat.lt_of_lt_of_le h.1 hb.size, fun i => by
  rw [← h.2 i]
  unfold World.frozen?
  rw [hb.block g h.1]⟩
theorem Fz.set {w : World} {g : Nat} (h : Fz w g) (p : Addr) (v : Value) : Fz (w.setCell p v) g := ⟨by rw [World.size_setCell]; exact h.1, fun i => by rw [World.frozen?_setCell]; exact h.2 i⟩
theorem Fz.block {w w' : World} {g : Nat} (h : Fz w g) (hs : w.heap.size ≤ w'.heap.size) (hb : w'.heap[g]? = w.heap[g]?) : Fz w' g := ⟨Nat.lt_of_lt_of_le h.1 hs, fun i => by
  rw [← h.2 i]
  unfold World.frozen?
  rw [hb]⟩
/-- Bytes in block g, which can be read and written. -/
def RdDF (w : World) (g n : Nat) (Z : Nat → Int) : Prop := ByteMem.Rd w (some ⟨g, 0, none⟩) n Z ∧ Fz w g
theorem RdDF.later {w w' : World} {g n : Nat} {Z : Nat → Int} (h : RdDF w g n Z) (hb : Below w.heap.size w w') : RdDF w' g n Z := ⟨h.1.later hb, h.2.later hb⟩
set_option maxHeartbeats 2000000 in
theorem to1 (s : Int) (a : Option Addr) (c n : Nat) (Z : Nat → Int) (w : World) (h : ByteMem.Rd w a n Z) (hn : n ≤ 1048576) :
    Calls Tryz.prog 85 #[.agg #[.int .i64 s, .slice a n c]] w fun e w' => ∃ g, e = .returned (.agg #[.int .i64 s, .slice (some ⟨g, 0, none⟩) n n]) ∧ w.heap.size ≤ g ∧ RdDF w' (g) n Z ∧ Below w.heap.size w w' := by
  have hZ := h.1
  have h' : Hid (ByteMem.Rd w a n Z) := h
  clear h
  have ba : Below w.heap.size w (((w.alloc (.cells #[.int .i64 s, .slice a n c] 128)).alloc (.cells #[.int .i64 0, .slice none 0 0] 105)).alloc (.cells #[.int .i64 s, .slice none 0 0] 105)) := (((Below.refl _ _).alloc (Nat.le_refl _) _).alloc (by simp) _).alloc (by simp; omega) _
  have ro : Hid ((((w.alloc (.cells #[.int .i64 s, .slice a n c] 128)).alloc (.cells #[.int .i64 0, .slice none 0 0] 105)).alloc (.cells #[.int .i64 s, .slice none 0 0] 105)).rowIs (w.heap.size + 1 + 1) 105 2 (R2 (.int .i64 s) (.slice none 0 0))) := by
    have := r2_made ((w.alloc (.cells #[.int .i64 s, .slice a n c] 128)).alloc (.cells #[.int .i64 0, .slice none 0 0] 105)) (.int .i64 s) (.slice none 0 0) 105
    simp only [World.size_alloc] at this
    exact this
  have rr : Hid ((((w.alloc (.cells #[.int .i64 s, .slice a n c] 128)).alloc (.cells #[.int .i64 0, .slice none 0 0] 105)).alloc (.cells #[.int .i64 s, .slice none 0 0] 105)).rowIs (w.heap.size + 1) 105 2 (R2 (.int .i64 0) (.slice none 0 0))) := by
    have := (r2_made (w.alloc (.cells #[.int .i64 s, .slice a n c] 128)) (.int .i64 0) (.slice none 0 0) 105).alloc (.cells #[.int .i64 s, .slice none 0 0] 105)
    simp only [World.size_alloc] at this
    exact this
  go_enter Tryz.func85, Tryz.ntmps85
  go_wp2_with (go_at_call 124; refine (ByteMem.toByteS _ a n c Z (h'.out.later ba) hn).mono ?_; rintro e w1 ⟨g, rfl, hg, hrow, q1⟩; have ro1 : Hid (w1.rowIs (w.heap.size + 1 + 1) 105 2 (R2 (.int .i64 s) (.slice none 0 0))) := row_later ro.out q1; have rr1 : Hid (w1.rowIs (w.heap.size + 1) 105 2 (R2 (.int .i64 0) (.slice none 0 0))) := row_later rr.out q1; obtain ⟨a0, a1, f0, f1⟩ := r2 ro1.out; obtain ⟨p0, p1, t0, t1⟩ := r2 rr1.out; have hrw : Hid (w1.rowIs g 5 n (fun j => .int .u8 (Z j))) := hrow; clear hrow)
  simp only [World.size_alloc] at hg
  obtain ⟨e0, e1⟩ := s2 (rr1.out.setOther (a := ⟨w.heap.size + 1 + 1, 1, none⟩) (by simp) (.slice (some ⟨g, 0, none⟩) n n)) (.int .i64 s) (.slice (some ⟨g, 0, none⟩) n n)
  refine bodyPost_ret ?_ rfl ⟨g, rfl, by omega, ?_, ?_⟩
  · simp [results, go_sem, e0, e1]
  · have rw' := ((hrw.out.setOther (a := ⟨w.heap.size + 1 + 1, 1, none⟩) (by simp; omega) (.slice (some ⟨g, 0, none⟩) n n)).setOther (a := ⟨w.heap.size + 1, 0, none⟩) (by simp; omega) (.int .i64 s)).setOther (a := ⟨w.heap.size + 1, 1, none⟩) (by simp; omega) (.slice (some ⟨g, 0, none⟩) n n)
    exact ⟨ByteMem.Rd.of_row rw' (Nat.le_refl _) (fun j _ => rfl) hZ, rw'.lt, rw'.frozen⟩
  · exact (ba.trans (q1.mono ba.size)).trans ((((Below.refl _ _).setCell (p := ⟨w.heap.size + 1 + 1, 1, none⟩) (by simp; omega) _).setCell (p := ⟨w.heap.size + 1, 0, none⟩) (by simp) _).setCell (p := ⟨w.heap.size + 1, 1, none⟩) (by simp) _)
set_option maxHeartbeats 2000000 in
theorem eq1 (s : Int) (a a' : Option Addr) (c c' n : Nat) (Z : Nat → Int) (w : World) (h : ByteMem.Rd w a n Z) (h2 : ByteMem.Rd w a' n Z) (hn : n ≤ 2097152) :
    Calls Tryz.prog 113 #[.agg #[.int .i64 s, .slice a n c], .agg #[.int .i64 s, .slice a' n c']] w fun e w' => e = .returned (.bool true) ∧ Below w.heap.size w w' := by
  have ba : Below w.heap.size w ((w.alloc (.cells #[.int .i64 s, .slice a n c] 105)).alloc (.cells #[.int .i64 s, .slice a' n c'] 105)) := ((Below.refl _ _).alloc (Nat.le_refl _) _).alloc (by simp) _
  have h1' : Hid (ByteMem.Rd w a n Z) := h
  have h2' : Hid (ByteMem.Rd w a' n Z) := h2
  clear h h2
  go_enter Tryz.func113, Tryz.ntmps113
  go_wp2_with (go_at_call 9; refine (ByteMem.eqByteS _ a a' n c c' Z Z (h1'.out.later ba) (h2'.out.later ba) (by omega) (fun _ _ => rfl)).mono ?_; rintro e w1 ⟨rfl, m, rfl⟩)
  go_ret
  exact ⟨rfl, below_drewN ba _⟩
def cvD (G : Nat → Nat) (l : List E) (j : Nat) : Value := if j % 2 = 0 then .int .i64 (at1 l (j / 2)).pos else .slice (some ⟨G (j / 2), 0, none⟩) (at1 l (j / 2)).n (at1 l (j / 2)).n
def zvD (j : Nat) : Value := if j % 2 = 0 then .int .i64 0 else .slice none 0 0
theorem cvD0 (G : Nat → Nat) (l : List E) (k : Nat) : cvD G l (k * 2) = .int .i64 (at1 l k).pos := by unfold cvD; rw [if_pos (by omega), show k * 2 / 2 = k by omega]
theorem cvD1 (G : Nat → Nat) (l : List E) (k : Nat) : cvD G l (k * 2 + 1) = .slice (some ⟨G k, 0, none⟩) (at1 l k).n (at1 l k).n := by unfold cvD; rw [if_neg (by omega), show (k * 2 + 1) / 2 = k by omega]
theorem cvD_upd (G : Nat → Nat) (l : List E) (k g j : Nat) (hj : j < k * 2) : cvD (fun i => if i = k then g else G i) l j = cvD G l j := by
  have : j / 2 ≠ k := by omega
  simp [cvD, this]
theorem infoD : (Tryz.prog.info? 105).map (fun i => (i.zero, i.size, i.bytes)) = some (some (.agg #[.int .i64 0, .slice none 0 0]), 2, 32) := by kernel_rfl
theorem run_mkD (m : Nat) (hn : m ≤ 1048576) (w : World) :
    (Instr.makeSlice 39 (.int .i64 (m : Int)) (.int .i64 (m : Int))).run Tryz.prog w = .ok (.slice (some ⟨w.heap.size, 0, none⟩) m m) (w.alloc (.cells (madeCells #[.int .i64 0, .slice none 0 0] (m * 2)) 105)) := by
  obtain ⟨i, hi, hzz⟩ := Option.map_eq_some_iff.1 infoD
  simp only [Prod.mk.injEq] at hzz
  obtain ⟨hz, hs, hb⟩ := hzz
  have hr := run_make (P := Tryz.prog) w 39 105 i _ Tryz.underlying39 hi hz .i64 .i64 m m (by omega) (Int.le_refl _) (by rw [hb]; omega) (by omega)
  simp only [Int.toNat_natCast, hs] at hr
  exact hr
theorem madeD (w : World) (m : Nat) : (w.alloc (.cells (madeCells #[.int .i64 0, .slice none 0 0] (m * 2)) 105)).rowIs w.heap.size 105 (m * 2) zvD :=
  ⟨madeCells #[.int .i64 0, .slice none 0 0] (m * 2), Deep.blk_alloc_new _ _, size_madeCells _ _, fun i hi => by
    have : i % 2 = 0 ∨ i % 2 = 1 := by omega
    rcases this with h | h <;> simp [madeCells, zvD, hi, h]⟩
theorem rd_other {w : World} {g n : Nat} {Z : Nat → Int} {p : Addr} (h : ByteMem.Rd w (some ⟨g, 0, none⟩) n Z) (hne : g ≠ p.block) (v : Value) : ByteMem.Rd (w.setCell p v) (some ⟨g, 0, none⟩) n Z := by
  refine ⟨h.1, ?_⟩
  rcases h.2 with h | ⟨b, off, ha, hc⟩
  · exact .inl h
  · simp only [Option.some.injEq, Addr.mk.injEq, and_true] at ha
    obtain ⟨rfl, rfl⟩ := ha
    refine .inr ⟨g, 0, rfl, fun j hj => ?_⟩
    have hk : ∀ o, (w.setCell p v).cell? ⟨g, o, none⟩ = w.cell? ⟨g, o, none⟩ := fun o => World.cell?_setCell_other (w := w) (a := p) (b := ⟨g, o, none⟩) (v := v) (fun e => hne (by first | rw [← e] | rw [e]))
    exact (hk _).trans (hc j hj)
theorem rdDF_other {w : World} {g n : Nat} {Z : Nat → Int} {p : Addr} (h : RdDF w g n Z) (hne : g ≠ p.block) (v : Value) : RdDF (w.setCell p v) g n Z := ⟨rd_other h.1 hne v, h.2.set p v⟩
set_option maxRecDepth 20000 in
set_option maxHeartbeats 8000000 in
theorem toS (w : World) (a : Option Addr) (cap : Nat) (l : List E) (h : Rd w a l) (hn : l.length ≤ 1048576) (hbd : ∀ j, j < l.length → (at1 l j).n ≤ 1048576) :
    Calls Tryz.prog 37 #[.slice a l.length cap] w fun e w' => ∃ (b : Nat) (G : Nat → Nat), e = .returned (.slice (some ⟨b, 0, none⟩) l.length l.length) ∧ w.heap.size ≤ b ∧ w'.rowIs b 105 (l.length * 2) (cvD G l) ∧ (∀ j, j < l.length → w.heap.size < G j ∧ RdDF w' (G j) (at1 l j).n (at1 l j).Z) ∧ Below w.heap.size w w' := by
  have hmk := run_mkD l.length hn
  have h' : Hid (Rd w a l) := h
  have hbd' : Hid (∀ j, j < l.length → (at1 l j).n ≤ 1048576) := hbd
  clear h hbd
  go_enter Tryz.func37, Tryz.ntmps37
  go_wp2_with fail
  clear hmk
  go_loopw [4] (fun i wr => ∃ (k : Nat) (G : Nat → Nat), k ≤ l.length ∧ i = .int .i64 k ∧ wr.rowIs w.heap.size 105 (l.length * 2) (fun j => if j < k * 2 then cvD G l j else zvD j) ∧ (∀ j, j < k → w.heap.size < G j ∧ RdDF wr (G j) (at1 l j).n (at1 l j).Z) ∧ Below w.heap.size w wr) (fun i _ => l.length - (intOf i).toNat)
  case atStart => exact ⟨0, fun _ => 0, Nat.zero_le _, rfl, (madeD w l.length).congr (fun i hi => by simp), fun j hj => by omega, (Below.refl _ _).alloc (Nat.le_refl _) _⟩
  case round =>
    obtain ⟨k, G, hk, rfl, hrow, hG, hbel⟩ := hrel
    have hwl := hrow.lt
    by_cases hlt : k < l.length
    · have hlt' : (k : Int) < (l.length : Int) := by omega
      rcases h'.out.later hbel with h0 | ⟨b, off, ha, hc⟩
      · omega
      · obtain ⟨c0, c1, hrb⟩ := hc k hlt
        subst ha
        have hT : Hid (Calls Tryz.prog 85 #[.agg #[.int .i64 (at1 l k).pos, .slice (at1 l k).ad (at1 l k).n (at1 l k).cp]] wr fun e w' => ∃ g, e = .returned (.agg #[.int .i64 (at1 l k).pos, .slice (some ⟨g, 0, none⟩) (at1 l k).n (at1 l k).n]) ∧ wr.heap.size ≤ g ∧ RdDF w' (g) (at1 l k).n (at1 l k).Z ∧ Below wr.heap.size wr w') := to1 _ _ _ _ _ wr hrb (hbd'.out k hlt)
        have e0' : Hid (∀ G, cvD G l (k * 2) = .int .i64 (at1 l k).pos) := fun G => cvD0 G l k
        have e1' : Hid (∀ G : Nat → Nat, cvD G l (k * 2 + 1) = .slice (some ⟨G k, 0, none⟩) (at1 l k).n (at1 l k).n) := fun G => cvD1 G l k
        have hrow' : Hid (wr.rowIs w.heap.size 105 (l.length * 2) (fun j => if j < k * 2 then cvD G l j else zvD j)) := hrow
        have hbel' : Hid (Below w.heap.size w wr) := hbel
        have hG' : Hid (∀ j, j < k → w.heap.size < G j ∧ RdDF wr (G j) (at1 l j).n (at1 l j).Z) := hG
        obtain ⟨bn, hbn⟩ : ∃ x, (at1 l k).n = x := ⟨_, rfl⟩
        obtain ⟨bZ, hbZ⟩ : ∃ x, (at1 l k).Z = x := ⟨_, rfl⟩
        have hbn' : Hid ((at1 l k).n = bn) := hbn
        have hbZ' : Hid ((at1 l k).Z = bZ) := hbZ
        rw [hbn] at c1 hT e1'
        rw [hbZ] at hT
        clear hrow hbel hc hrb hG hbn hbZ
        generalize (at1 l k).pos = y0 at *
        generalize (at1 l k).ad = y2 at *
        generalize (at1 l k).cp = y3 at *
        go_wp2_with (go_at_call 85; refine hT.out.mono ?_; rintro e w1 ⟨g, rfl, hg, hrg, b1⟩; have hr1 : Hid (w1.rowIs w.heap.size 105 (l.length * 2) (fun j => if j < k * 2 then cvD G l j else zvD j)) := row_later hrow'.out b1; obtain ⟨⟨z0, q0⟩, ⟨z1, q1⟩, g0, g1⟩ := MemSig.room hr1.out (i := k * 2) (by omega) (.int .i64 y0); have hrg' : Hid (RdDF w1 (g) bn bZ) := hrg; clear hrg)
        go_roundw
        case rel =>
          refine ⟨k + 1, fun i => if i = k then g else G i, by omega, by go_num, (((hr1.out.set (k * 2) (.int .i64 y0)).set (k * 2 + 1) (.slice (some ⟨g, 0, none⟩) bn bn)).congr fun j hj => ?_), fun j hj => ?_, ?_⟩
          · by_cases z1 : j = k * 2 + 1
            · rw [if_pos z1, if_pos (by omega), z1, e1'.out]; simp
            · rw [if_neg z1]
              by_cases z0 : j = k * 2
              · rw [if_pos z0, if_pos (by omega), z0, e0'.out]
              · rw [if_neg z0]
                by_cases z3 : j < k * 2
                · rw [if_pos z3, if_pos (by omega), cvD_upd G l k g j z3]
                · rw [if_neg z3, if_neg (by omega)]
          · by_cases ej : j = k
            · subst ej
              rw [hbn'.out, hbZ'.out]
              simp only [if_true]
              exact ⟨by omega, rdDF_other (rdDF_other hrg'.out (p := ⟨w.heap.size, _, none⟩) (by simp; omega) _) (p := ⟨w.heap.size, _, none⟩) (by simp; omega) _⟩
            · obtain ⟨d1, d2⟩ := hG'.out j (by omega)
              simp only [if_neg ej]
              exact ⟨d1, rdDF_other (rdDF_other (d2.later b1) (p := ⟨w.heap.size, _, none⟩) (by simp; omega) _) (p := ⟨w.heap.size, _, none⟩) (by simp; omega) _⟩
          · exact ((hbel'.out.trans (b1.mono hbel'.out.size)).setCell (Nat.le_refl _) _).setCell (Nat.le_refl _) _
        case measure => simp [intOf]; omega
    · obtain rfl : k = l.length := by omega
      have hrow' : Hid (wr.rowIs w.heap.size 105 (l.length * 2) (cvD G l)) := hrow.congr (fun j hj => by simp [hj])
      have hbel' : Hid (Below w.heap.size w wr) := hbel
      have hG' : Hid (∀ j, j < l.length → w.heap.size < G j ∧ RdDF wr (G j) (at1 l j).n (at1 l j).Z) := hG
      clear hrow hbel hG
      go_wp2_with fail
      go_ret
      exact ⟨_, G, rfl, Nat.le_refl _, hrow'.out, hG'.out, hbel'.out⟩
set_option maxRecDepth 20000 in
set_option maxHeartbeats 8000000 in
theorem eqS (w : World) (a a' : Option Addr) (cap cap' : Nat) (l l' : List E) (h : Rd w a l) (h' : Rd w a' l') (hll : l'.length = l.length) (hn : l.length ≤ 2097152)
    (hsame : ∀ j, j < l.length → (at1 l' j).pos = (at1 l j).pos ∧ (at1 l' j).n = (at1 l j).n ∧ (at1 l' j).Z = (at1 l j).Z ∧ (at1 l j).n ≤ 2097152) :
    Calls Tryz.prog 61 #[.slice a l.length cap, .slice a' l.length cap'] w fun e w' => e = .returned (.bool true) ∧ Below w.heap.size w w' := by
  have k1 : Hid (Rd w a l) := h
  have k2 : Hid (Rd w a' l') := h'
  have hsame' : Hid (∀ j, j < l.length → (at1 l' j).pos = (at1 l j).pos ∧ (at1 l' j).n = (at1 l j).n ∧ (at1 l' j).Z = (at1 l j).Z ∧ (at1 l j).n ≤ 2097152) := hsame
  clear h h' hsame
  go_enter Tryz.func61, Tryz.ntmps61
  go_wp2_with fail
  go_loopw [5] (fun i wr => ∃ k : Nat, k ≤ l.length ∧ i = .int .i64 k ∧ Below w.heap.size w wr) (fun i _ => l.length - (intOf i).toNat)
  case atStart => exact ⟨0, Nat.zero_le _, rfl, Below.refl _ _⟩
  case round =>
    obtain ⟨k, hk, rfl, hb⟩ := hrel
    by_cases hlt : k < l.length
    · have hlt' : (k : Int) < (l.length : Int) := by omega
      rcases k1.out.later hb with h0 | ⟨b, off, ha, hc⟩
      · omega
      · rcases k2.out.later hb with h0' | ⟨b', off', ha', hc'⟩
        · omega
        · obtain ⟨c0, c1, rb⟩ := hc k hlt
          obtain ⟨d0, d1, rb'⟩ := hc' k (by omega)
          obtain ⟨s1, s2, s3, s4⟩ := hsame'.out k hlt
          rw [s1] at d0
          rw [s2] at d1
          rw [s2, s3] at rb'
          subst ha ha'
          have hq : Hid (∀ u, Below wr.heap.size wr u → Calls Tryz.prog 113 #[.agg #[.int .i64 (at1 l k).pos, .slice (at1 l k).ad (at1 l k).n (at1 l k).cp], .agg #[.int .i64 (at1 l k).pos, .slice (at1 l' k).ad (at1 l k).n (at1 l' k).cp]] u fun e w' => e = .returned (.bool true) ∧ Below u.heap.size u w') := fun u hu => eq1 _ _ _ _ _ _ _ u (rb.later hu) (rb'.later hu) s4
          have hb' : Hid (Below w.heap.size w wr) := hb
          clear hb hc hc' rb rb' s1 s2 s3 s4
          generalize (at1 l k).n = bn at *
          generalize (at1 l k).pos = y0 at *
          generalize (at1 l k).ad = y2 at *
          generalize (at1 l k).cp = y3 at *
          generalize (at1 l' k).ad = y4 at *
          generalize (at1 l' k).cp = y5 at *
          go_wp2_with fail
          go_region_held (fun w' => w'.cell? ⟨b, off + k * 2, none⟩ = some (.int .i64 y0) ∧ w'.cell? ⟨b, off + k * 2 + 1, none⟩ = some (.slice y2 bn y3) ∧ w'.cell? ⟨b', off' + k * 2, none⟩ = some (.int .i64 y0) ∧ w'.cell? ⟨b', off' + k * 2 + 1, none⟩ = some (.slice y4 bn y5)) (go_keep)
            (first | (go_at_call 113; refine (hq.out _ (Below.refl _ _).drew).mono ?_; rintro e w2 ⟨rfl, b2⟩; obtain ⟨t0, t1, t2, t3⟩ := MemSig.keep b2 c0 c1 d0 d1))
          go_wp2_with fail
          go_roundw
          case rel => exact ⟨k + 1, by omega, by go_num, hb'.out.drew.trans (b2.mono hb'.out.size)⟩
          case measure => simp [intOf]; omega
    · obtain rfl : k = l.length := by omega
      have hb' : Hid (Below w.heap.size w wr) := hb
      clear hb
      go_wp2_with fail
      go_ret
      exact ⟨rfl, hb'.out⟩
end Go.Proofs.YtffngjgjhialnaaGreatDoor.MemData
namespace Go.Proofs.YtffngjgjhialnaaGreatDoor.ModSz2
open Go.RowKit InsMem
theorem szFunc (s x : Int) (a : Option Addr) (c n : Nat) (left : Int) (w : World) (hn : n ≤ 9223372036854775807) (h0 : 0 ≤ left) (h1 : left ≤ 1048576) :
    Calls Tryz.prog 70 #[.agg #[.int .i64 s, .int .i64 x, .slice a n c], .int .i64 left] w fun e w' => ∃ r : Int, e = .returned (.int .i64 r) ∧ r ≤ left ∧ -1 ≤ r ∧ (0 ≤ r → (n : Int) ≤ left) ∧ Below w.heap.size w w' := by
  have hz : Hid (∀ u, Calls Tryz.prog 116 #[.slice a n c, .int .i64 left] u fun e w' => e = .returned (.int .i64 (if (n : Int) ≤ left then left - (n : Int) else -1)) ∧ u = w') := fun u => ModSz.szInsS a n c left u hn h0 h1
  obtain ⟨r, hr⟩ : ∃ r, (if (n : Int) ≤ left then left - (n : Int) else -1) = r := ⟨_, rfl⟩
  rw [hr] at hz
  have f1 : Hid (r ≤ left ∧ -1 ≤ r ∧ (0 ≤ r → (n : Int) ≤ left)) := by
    rw [← hr]
    show _ ∧ _ ∧ _
    split <;> refine ⟨by omega, by omega, fun _ => by omega⟩
  have hr1 : -1 ≤ r := f1.out.2.1
  have hr2 : r ≤ 1048576 := by have := f1.out.1; omega
  clear hr
  by_cases hneg : r < 0
  · go_enter Tryz.func70, Tryz.ntmps70
    go_wp2_with (go_at_call 116; refine (hz.out _).mono ?_; rintro e w' ⟨rfl, rfl⟩)
    go_ret
    exact ⟨-1, rfl, by omega, by omega, fun h => by omega, (Below.refl _ _).alloc (Nat.le_refl _) _⟩
  · go_enter Tryz.func70, Tryz.ntmps70
    go_wp2_with (go_at_call 116; refine (hz.out _).mono ?_; rintro e w' ⟨rfl, rfl⟩)
    go_ret
    exact ⟨r, rfl, f1.out.1, f1.out.2.1, f1.out.2.2, (Below.refl _ _).alloc (Nat.le_refl _) _⟩
set_option maxHeartbeats 4000000 in
theorem szFuncS (w : World) (a : Option Addr) (cap : Nat) (l : List MemFunc.E) (left : Int) (h : MemFunc.Rd w a l) (hn : l.length ≤ 9223372036854775807) (hz : ∀ j, j < l.length → (MemFunc.at1 l j).body.length ≤ 9223372036854775807) (h0 : 0 ≤ left) (h1 : left ≤ 1048576) :
    Calls Tryz.prog 18 #[.slice a l.length cap, .int .i64 left] w fun e w' => ∃ r : Int, e = .returned (.int .i64 r) ∧ r ≤ left ∧ -1 ≤ r ∧ (0 ≤ r → (l.length : Int) ≤ left ∧ ∀ j, j < l.length → ((MemFunc.at1 l j).body.length : Int) ≤ 1048576) ∧ Below w.heap.size w w' := by
  by_cases hle : (l.length : Int) ≤ left
  · have h' : ¬ left - (l.length : Int) < 0 := by omega
    have k1 : Hid (MemFunc.Rd w a l) := h
    have hz' : Hid (∀ j, j < l.length → (MemFunc.at1 l j).body.length ≤ 9223372036854775807) := hz
    clear h hz
    go_enter Tryz.func18, Tryz.ntmps18
    go_wp2_with fail
    go_loopw [1, 5] (fun vl i wr => ∃ (k : Nat) (lf : Int), k ≤ l.length ∧ i = .int .i64 k ∧ vl = .int .i64 lf ∧ 0 ≤ lf ∧ lf ≤ left ∧ (∀ j, j < k → ((MemFunc.at1 l j).body.length : Int) ≤ 1048576) ∧ Below w.heap.size w wr) (fun _ i _ => l.length - (intOf i).toNat)
    case atStart => exact ⟨0, left - (l.length : Int), Nat.zero_le _, rfl, rfl, by omega, by omega, fun j hj => by omega, Below.refl _ _⟩
    case round =>
      obtain ⟨k, lf, hk, rfl, rfl, l0, l1, hall, hb⟩ := hrel
      have hall' : Hid (∀ j, j < k → ((MemFunc.at1 l j).body.length : Int) ≤ 1048576) := hall
      by_cases hlt : k < l.length
      · have hlt' : (k : Int) < (l.length : Int) := by omega
        rcases k1.out.later hb with h0' | ⟨b, off, ha, hc⟩
        · omega
        · obtain ⟨c0, c1, c2, hrb⟩ := hc k hlt
          have hzk := hz'.out k hlt
          subst ha
          have hs : Hid (∀ u, Calls Tryz.prog 70 #[.agg #[.int .i64 (MemFunc.at1 l k).sig, .int .i64 (MemFunc.at1 l k).loc, .slice (MemFunc.at1 l k).ad (MemFunc.at1 l k).body.length (MemFunc.at1 l k).cp], .int .i64 lf] u fun e w' => ∃ r : Int, e = .returned (.int .i64 r) ∧ r ≤ lf ∧ -1 ≤ r ∧ (0 ≤ r → ((MemFunc.at1 l k).body.length : Int) ≤ lf) ∧ Below u.heap.size u w') := fun u => szFunc _ _ _ _ _ lf u hzk l0 (by omega)
          have hb' : Hid (Below w.heap.size w wr) := hb
          have hstep : Hid (∀ r : Int, 0 ≤ r → ((MemFunc.at1 l k).body.length : Int) ≤ lf → ∀ j, j < k + 1 → ((MemFunc.at1 l j).body.length : Int) ≤ 1048576) := fun r _ hbd j hj => by
            by_cases e : j = k
            · subst e; omega
            · exact hall'.out j (by omega)
          clear hb hc hall hrb
          generalize (MemFunc.at1 l k).body.length = y0 at *
          generalize (MemFunc.at1 l k).sig = y1 at *
          generalize (MemFunc.at1 l k).loc = y2 at *
          generalize (MemFunc.at1 l k).ad = y3 at *
          generalize (MemFunc.at1 l k).cp = y4 at *
          go_wp2_with (go_at_call 70; refine (hs.out _).mono ?_; rintro e w2 ⟨r, rfl, r1, r2, r3, b2⟩)
          · go_ret
            exact ⟨-1, rfl, by omega, by omega, fun h => by omega, hb'.out.trans (b2.mono hb'.out.size)⟩
          · go_roundw
            case rel => exact ⟨k + 1, r, by omega, by go_num, rfl, by omega, by omega, hstep.out r (by omega) (r3 (by omega)), hb'.out.trans (b2.mono hb'.out.size)⟩
            case measure => simp [intOf]; omega
      · obtain rfl : k = l.length := by omega
        have hb' : Hid (Below w.heap.size w wr) := hb
        clear hb hall
        go_wp2_with fail
        go_ret
        exact ⟨lf, rfl, by omega, by omega, fun _ => ⟨hle, hall'.out⟩, hb'.out⟩
  · have h' : left - (l.length : Int) < 0 := by omega
    clear h hz
    go_enter Tryz.func18, Tryz.ntmps18
    go_wp2_with fail
    go_ret
    exact ⟨-1, rfl, by omega, by omega, fun h => by omega, Below.refl _ _⟩
theorem szData (s : Int) (a : Option Addr) (c n : Nat) (left : Int) (w : World) (hn : n ≤ 9223372036854775807) (h0 : 0 ≤ left) (h1 : left ≤ 1048576) :
    Calls Tryz.prog 72 #[.agg #[.int .i64 s, .slice a n c], .int .i64 left] w fun e w' => ∃ r : Int, e = .returned (.int .i64 r) ∧ r ≤ left ∧ -1 ≤ r ∧ (0 ≤ r → (n : Int) ≤ left) ∧ Below w.heap.size w w' := by
  have hz : Hid (∀ u, Calls Tryz.prog 117 #[.slice a n c, .int .i64 left] u fun e w' => e = .returned (.int .i64 (if (n : Int) ≤ left then left - (n : Int) else -1)) ∧ u = w') := fun u => ModSz.szByteS a n c left u hn h0 h1
  obtain ⟨r, hr⟩ : ∃ r, (if (n : Int) ≤ left then left - (n : Int) else -1) = r := ⟨_, rfl⟩
  rw [hr] at hz
  have f1 : Hid (r ≤ left ∧ -1 ≤ r ∧ (0 ≤ r → (n : Int) ≤ left)) := by
    rw [← hr]
    show _ ∧ _ ∧ _
    split <;> refine ⟨by omega, by omega, fun _ => by omega⟩
  have hr1 : -1 ≤ r := f1.out.2.1
  have hr2 : r ≤ 1048576 := by have := f1.out.1; omega
  clear hr
  by_cases hneg : r < 0
  · go_enter Tryz.func72, Tryz.ntmps72
    go_wp2_with (go_at_call 117; refine (hz.out _).mono ?_; rintro e w' ⟨rfl, rfl⟩)
    go_ret
    exact ⟨-1, rfl, by omega, by omega, fun h => by omega, (Below.refl _ _).alloc (Nat.le_refl _) _⟩
  · go_enter Tryz.func72, Tryz.ntmps72
    go_wp2_with (go_at_call 117; refine (hz.out _).mono ?_; rintro e w' ⟨rfl, rfl⟩)
    go_ret
    exact ⟨r, rfl, f1.out.1, f1.out.2.1, f1.out.2.2, (Below.refl _ _).alloc (Nat.le_refl _) _⟩
set_option maxHeartbeats 4000000 in
theorem szDataS (w : World) (a : Option Addr) (cap : Nat) (l : List MemData.E) (left : Int) (h : MemData.Rd w a l) (hn : l.length ≤ 9223372036854775807) (hz : ∀ j, j < l.length → (MemData.at1 l j).n ≤ 9223372036854775807) (h0 : 0 ≤ left) (h1 : left ≤ 1048576) :
    Calls Tryz.prog 21 #[.slice a l.length cap, .int .i64 left] w fun e w' => ∃ r : Int, e = .returned (.int .i64 r) ∧ r ≤ left ∧ -1 ≤ r ∧ (0 ≤ r → (l.length : Int) ≤ left ∧ ∀ j, j < l.length → ((MemData.at1 l j).n : Int) ≤ 1048576) ∧ Below w.heap.size w w' := by
  by_cases hle : (l.length : Int) ≤ left
  · have h' : ¬ left - (l.length : Int) < 0 := by omega
    have k1 : Hid (MemData.Rd w a l) := h
    have hz' : Hid (∀ j, j < l.length → (MemData.at1 l j).n ≤ 9223372036854775807) := hz
    clear h hz
    go_enter Tryz.func21, Tryz.ntmps21
    go_wp2_with fail
    go_loopw [1, 5] (fun vl i wr => ∃ (k : Nat) (lf : Int), k ≤ l.length ∧ i = .int .i64 k ∧ vl = .int .i64 lf ∧ 0 ≤ lf ∧ lf ≤ left ∧ (∀ j, j < k → ((MemData.at1 l j).n : Int) ≤ 1048576) ∧ Below w.heap.size w wr) (fun _ i _ => l.length - (intOf i).toNat)
    case atStart => exact ⟨0, left - (l.length : Int), Nat.zero_le _, rfl, rfl, by omega, by omega, fun j hj => by omega, Below.refl _ _⟩
    case round =>
      obtain ⟨k, lf, hk, rfl, rfl, l0, l1, hall, hb⟩ := hrel
      have hall' : Hid (∀ j, j < k → ((MemData.at1 l j).n : Int) ≤ 1048576) := hall
      by_cases hlt : k < l.length
      · have hlt' : (k : Int) < (l.length : Int) := by omega
        rcases k1.out.later hb with h0' | ⟨b, off, ha, hc⟩
        · omega
        · obtain ⟨c0, c1, hrb⟩ := hc k hlt
          have hzk := hz'.out k hlt
          subst ha
          have hs : Hid (∀ u, Calls Tryz.prog 72 #[.agg #[.int .i64 (MemData.at1 l k).pos, .slice (MemData.at1 l k).ad (MemData.at1 l k).n (MemData.at1 l k).cp], .int .i64 lf] u fun e w' => ∃ r : Int, e = .returned (.int .i64 r) ∧ r ≤ lf ∧ -1 ≤ r ∧ (0 ≤ r → ((MemData.at1 l k).n : Int) ≤ lf) ∧ Below u.heap.size u w') := fun u => szData _ _ _ _ lf u hzk l0 (by omega)
          have hb' : Hid (Below w.heap.size w wr) := hb
          have hstep : Hid (∀ r : Int, 0 ≤ r → ((MemData.at1 l k).n : Int) ≤ lf → ∀ j, j < k + 1 → ((MemData.at1 l j).n : Int) ≤ 1048576) := fun r _ hbd j hj => by
            by_cases e : j = k
            · subst e; omega
            · exact hall'.out j (by omega)
          clear hb hc hall hrb
          generalize (MemData.at1 l k).n = y0 at *
          generalize (MemData.at1 l k).pos = y1 at *
          generalize (MemData.at1 l k).ad = y2 at *
          generalize (MemData.at1 l k).cp = y3 at *
          go_wp2_with (go_at_call 72; refine (hs.out _).mono ?_; rintro e w2 ⟨r, rfl, r1, r2, r3, b2⟩)
          · go_ret
            exact ⟨-1, rfl, by omega, by omega, fun h => by omega, hb'.out.trans (b2.mono hb'.out.size)⟩
          · go_roundw
            case rel => exact ⟨k + 1, r, by omega, by go_num, rfl, by omega, by omega, hstep.out r (by omega) (r3 (by omega)), hb'.out.trans (b2.mono hb'.out.size)⟩
            case measure => simp [intOf]; omega
      · obtain rfl : k = l.length := by omega
        have hb' : Hid (Below w.heap.size w wr) := hb
        clear hb hall
        go_wp2_with fail
        go_ret
        exact ⟨lf, rfl, by omega, by omega, fun _ => ⟨hle, hall'.out⟩, hb'.out⟩
  · have h' : left - (l.length : Int) < 0 := by omega
    clear h hz
    go_enter Tryz.func21, Tryz.ntmps21
    go_wp2_with fail
    go_ret
    exact ⟨-1, rfl, by omega, by omega, fun h => by omega, Below.refl _ _⟩
end Go.Proofs.YtffngjgjhialnaaGreatDoor.ModSz2
