/-
  Slices of instructions in memory, and what the laws' own helpers on them do.
  Slices of Sig in memory, and what the laws' own helpers on them do. (Written by my modgen.py.)
  Slices of Global in memory, and what the laws' own helpers on them do. (Written by my modgen.py.)
  Slices of Import in memory, and what the laws' own helpers on them do. (Written by my modgen.py.)
  Slices of Export in memory, and what the laws' own helpers on them do. (Written by my modgen.py.)
  How much a module's parts take: the laws' own counting.
  Slices of functions in memory (each with a body, a slice of its own), and what the laws' own helpers on them do.
-/
import Derived.Test.YtajlkdidjelpeaaGreatDoorChecked
import Derived.Test.YtajlkdidjelpeaaGreatDoorPlainShape
import Derived.WalkKit
import Derived.Deep.QuietTactic
import Derived.BigQuiet
import Derived.Deep.OwnRows
import Derived.Below
import Derived.Deep.RegionHeld
import Derived.WalkSpells
import Derived.WalkSmall
namespace Go.Proofs.YtajlkdidjelpeaaGreatDoor.InsMem
open Go.RowKit PlainShape

/-- A slice of instructions that can be read. -/
def RdI (w : World) (a : Option Addr) (l : List I3) : Prop :=
  l.length = 0 ∨ ∃ b off, a = some ⟨b, off, none⟩ ∧ ∀ j, j < l.length → w.cell? ⟨b, off + j * 3, none⟩ = some (.int .i64 (oAt l j)) ∧ w.cell? ⟨b, off + j * 3 + 1, none⟩ = some (.int .i64 (aAt l j)) ∧ w.cell? ⟨b, off + j * 3 + 2, none⟩ = some (.int .i64 (bAt l j))
theorem RdI.later {w w' : World} {a : Option Addr} {l : List I3} (h : RdI w a l) (hb : Below w.heap.size w w') : RdI w' a l := by
  rcases h with h | ⟨b, off, ha, hc⟩
  · exact .inl h
  · refine .inr ⟨b, off, ha, fun j hj => ?_⟩
    obtain ⟨c0, c1, c2⟩ := hc j hj
    have hs : b < w.heap.size := World.block_lt_of_cell? w _ c0
    exact ⟨by rw [hb.cell hs]; exact c0, by rw [hb.cell hs]; exact c1, by rw [hb.cell hs]; exact c2⟩
theorem spec_begins (op : Int) (w : World) :
    Calls Tryz.prog 151 #[.int .i64 op] w fun e w' => e = .returned (.bool (bg op)) ∧ w = w' := by
  go_enter Tryz.func151, Tryz.ntmps151
  go_wp2_with fail
  all_goals (go_ret; refine ⟨?_, rfl⟩; refine congrArg (fun x => Ending.returned (.bool x)) (?_ : (_ : Bool) = _); unfold bg; rw [Bool.eq_iff_iff]; first | (simp; omega) | simp)
theorem szInsS (a : Option Addr) (n cap : Nat) (w : World) (hn : n ≤ 9223372036854775807) :
    Calls Tryz.prog 104 #[.slice a n cap, .int .i64 1048576] w fun e w' => e = .returned (.int .i64 (if n ≤ 1048576 then 1048576 - (n : Int) else -1)) ∧ w = w' := by
  by_cases h : n ≤ 1048576
  · rw [if_pos h]
    have h' : (n : Int) ≤ 1048576 := by omega
    go_enter Tryz.func104, Tryz.ntmps104
    go_wp2_with fail
    all_goals (go_ret; exact ⟨rfl, rfl⟩)
  · rw [if_neg h]
    have h' : 1048576 < (n : Int) := by omega
    go_enter Tryz.func104, Tryz.ntmps104
    go_wp2_with fail
    all_goals (go_ret; exact ⟨rfl, rfl⟩)
theorem to_ins (op a b : Int) (w : World) :
    Calls Tryz.prog 138 #[.agg #[.int .i64 op, .int .i64 a, .int .i64 b]] w fun e w' => e = .returned (.agg #[.int .i64 op, .int .i64 a, .int .i64 b]) ∧ Below w.heap.size w w' := by
  go_enter Tryz.func138, Tryz.ntmps138
  go_wp2_with fail
  refine bodyPost_ret ?_ rfl ⟨rfl, ?_⟩
  · simp [results, go_sem]
  · exact (((Below.refl _ _).alloc (Nat.le_refl _) _).alloc (by simp) _).alloc (by simp; omega) _
theorem eqIns (op a b : Int) (w : World) :
    Calls Tryz.prog 144 #[.agg #[.int .i64 op, .int .i64 a, .int .i64 b], .agg #[.int .i64 op, .int .i64 a, .int .i64 b]] w fun e w' => e = .returned (.bool true) ∧ Below w.heap.size w w' := by
  go_enter Tryz.func144, Tryz.ntmps144
  go_wp2_with fail
  go_ret
  exact ⟨rfl, ((Below.refl _ _).alloc (Nat.le_refl _) _).alloc (by simp) _⟩
theorem addr_ne {b i j : Nat} (h : i ≠ j) : (⟨b, i, none⟩ : Addr) ≠ ⟨b, j, none⟩ := fun e => h (by injection e)
/-- Three cells of a row that can be written, one behind the other. -/
theorem three {w : World} {b m i : Nat} {t : TypeId} {f : Nat → Value} (h : w.rowIs b t m f) (hi : i + 3 ≤ m) (v0 v1 : Value) :
    (∃ x, w.cell? ⟨b, i, none⟩ = some x) ∧ (∃ x, (w.setCell ⟨b, i, none⟩ v0).cell? ⟨b, i + 1, none⟩ = some x) ∧ (∃ x, ((w.setCell ⟨b, i, none⟩ v0).setCell ⟨b, i + 1, none⟩ v1).cell? ⟨b, i + 2, none⟩ = some x) ∧
    w.frozen? ⟨b, i, none⟩ = false ∧ (w.setCell ⟨b, i, none⟩ v0).frozen? ⟨b, i + 1, none⟩ = false ∧ ((w.setCell ⟨b, i, none⟩ v0).setCell ⟨b, i + 1, none⟩ v1).frozen? ⟨b, i + 2, none⟩ = false :=
  ⟨⟨_, h.cell (by omega)⟩, ⟨_, (h.set i v0).cell (by omega)⟩, ⟨_, ((h.set i v0).set (i + 1) v1).cell (by omega)⟩, h.frozen _, (h.set i v0).frozen _, ((h.set i v0).set (i + 1) v1).frozen _⟩
theorem row_later {w w' : World} {b m : Nat} {t : TypeId} {f : Nat → Value} (h : w.rowIs b t m f) (hb : Below w.heap.size w w') : w'.rowIs b t m f := h.of_block (hb.block b h.lt)
/-- The cells of a list of instructions, one behind the other. -/
def cv (l : List I3) (j : Nat) : Int := if j % 3 = 0 then oAt l (j / 3) else if j % 3 = 1 then aAt l (j / 3) else bAt l (j / 3)
theorem cv0 (l : List I3) (k : Nat) : cv l (k * 3) = oAt l k := by unfold cv; rw [if_pos (by omega), show k * 3 / 3 = k by omega]
theorem cv1 (l : List I3) (k : Nat) : cv l (k * 3 + 1) = aAt l k := by unfold cv; rw [if_neg (by omega), if_pos (by omega), show (k * 3 + 1) / 3 = k by omega]
theorem cv2 (l : List I3) (k : Nat) : cv l (k * 3 + 2) = bAt l k := by unfold cv; rw [if_neg (by omega), if_neg (by omega), show (k * 3 + 2) / 3 = k by omega]
theorem infoI : (Tryz.prog.info? 62).map (fun i => (i.zero, i.size, i.bytes)) = some (some (.agg #[.int .i64 0, .int .i64 0, .int .i64 0]), 3, 24) := by kernel_rfl
theorem run_make_ins (n : Nat) (hn : n ≤ 1048576) (w : World) :
    (Instr.makeSlice 58 (.int .i64 (n : Int)) (.int .i64 (n : Int))).run Tryz.prog w = .ok (.slice (some ⟨w.heap.size, 0, none⟩) n n) (w.alloc (.cells (madeCells #[.int .i64 0, .int .i64 0, .int .i64 0] (n * 3)) 62)) := by
  obtain ⟨i, hi, hzz⟩ := Option.map_eq_some_iff.1 infoI
  simp only [Prod.mk.injEq] at hzz
  obtain ⟨hz, hs, hb⟩ := hzz
  have hr := run_make (P := Tryz.prog) w 58 62 i _ Tryz.underlying58 hi hz .i64 .i64 n n (by omega) (Int.le_refl _) (by rw [hb]; omega) (by omega)
  simp only [Int.toNat_natCast, hs] at hr
  exact hr
theorem made3 (w : World) (n : Nat) (t : TypeId) : (w.alloc (.cells (madeCells #[.int .i64 0, .int .i64 0, .int .i64 0] (n * 3)) t)).rowIs w.heap.size t (n * 3) (fun _ => .int .i64 0) :=
  ⟨madeCells #[.int .i64 0, .int .i64 0, .int .i64 0] (n * 3), Deep.blk_alloc_new _ _, size_madeCells _ _, fun i hi => by
    have : i % 3 = 0 ∨ i % 3 = 1 ∨ i % 3 = 2 := by omega
    rcases this with h | h | h <;> simp [madeCells, hi, h]⟩
theorem rdI_of_row {w : World} {b : Nat} {l : List I3} (h : w.rowIs b 62 (l.length * 3) (fun j => .int .i64 (cv l j))) : RdI w (some ⟨b, 0, none⟩) l := by
  refine .inr ⟨b, 0, rfl, fun j hj => ⟨?_, ?_, ?_⟩⟩
  · rw [Nat.zero_add, h.cell (by omega)]; simp only [cv0]
  · rw [Nat.zero_add, h.cell (by omega)]; simp only [cv1]
  · rw [Nat.zero_add, h.cell (by omega)]; simp only [cv2]
set_option maxHeartbeats 4000000 in
theorem toInsS (w : World) (a : Option Addr) (cap : Nat) (l : List I3) (h : RdI w a l) (hn : l.length ≤ 1048576) :
    Calls Tryz.prog 113 #[.slice a l.length cap] w fun e w' => ∃ b, e = .returned (.slice (some ⟨b, 0, none⟩) l.length l.length) ∧ w.heap.size ≤ b ∧ w'.rowIs b 62 (l.length * 3) (fun j => .int .i64 (cv l j)) ∧ Below w.heap.size w w' := by
  have hmk := run_make_ins l.length hn
  have h' : Hid (RdI w a l) := h
  clear h
  go_enter Tryz.func113, Tryz.ntmps113
  go_wp2_with fail
  clear hmk
  go_loopw [4] (fun i wr => ∃ k : Nat, k ≤ l.length ∧ i = .int .i64 k ∧ wr.rowIs w.heap.size 62 (l.length * 3) (fun j => if j < k * 3 then .int .i64 (cv l j) else .int .i64 0) ∧ Below w.heap.size w wr) (fun i _ => l.length - (intOf i).toNat)
  case atStart => exact ⟨0, Nat.zero_le _, rfl, (made3 w l.length 62).congr (fun i hi => by simp), (Below.refl _ _).alloc (Nat.le_refl _) _⟩
  case round =>
    obtain ⟨k, hk, rfl, hrow, hbel⟩ := hrel
    by_cases hlt : k < l.length
    · have hlt' : (k : Int) < (l.length : Int) := by omega
      rcases h'.out with h0 | ⟨b, off, ha, hc⟩
      · omega
      · obtain ⟨c0, c1, c2⟩ := hc k hlt
        have hbb : b < w.heap.size := World.block_lt_of_cell? w _ c0
        rw [← hbel.cell hbb] at c0 c1 c2
        clear hc
        subst ha
        have e0 := cv0 l k
        have e1 := cv1 l k
        have e2 := cv2 l k
        generalize oAt l k = x0 at *
        generalize aAt l k = x1 at *
        generalize bAt l k = x2 at *
        have hrow' : Hid (wr.rowIs w.heap.size 62 (l.length * 3) (fun j => if j < k * 3 then .int .i64 (cv l j) else .int .i64 0)) := hrow
        have hbel' : Hid (Below w.heap.size w wr) := hbel
        clear hrow hbel
        go_wp2_with (go_at_call 138; refine (to_ins _ _ _ _).mono ?_; rintro e w1 ⟨rfl, b1⟩; have hr1 : Hid (w1.rowIs w.heap.size 62 (l.length * 3) (fun j => if j < k * 3 then .int .i64 (cv l j) else .int .i64 0)) := row_later hrow'.out b1; obtain ⟨⟨y0, q0⟩, ⟨y1, q1⟩, ⟨y2, q2⟩, f0, f1, f2⟩ := three hr1.out (i := k * 3) (by omega) (.int .i64 x0) (.int .i64 x1))
        go_roundw
        case rel =>
          refine ⟨k + 1, by omega, by go_num, ((((hr1.out.set (k * 3) (.int .i64 x0)).set (k * 3 + 1) (.int .i64 x1)).set (k * 3 + 2) (.int .i64 x2)).congr fun j hj => ?_), ?_⟩
          · by_cases z2 : j = k * 3 + 2
            · rw [if_pos z2, if_pos (by omega), z2, e2]
            · rw [if_neg z2]
              by_cases z1 : j = k * 3 + 1
              · rw [if_pos z1, if_pos (by omega), z1, e1]
              · rw [if_neg z1]
                by_cases z0 : j = k * 3
                · rw [if_pos z0, if_pos (by omega), z0, e0]
                · rw [if_neg z0]
                  by_cases z3 : j < k * 3
                  · rw [if_pos z3, if_pos (by omega)]
                  · rw [if_neg z3, if_neg (by omega)]
          · exact (((hbel'.out.trans (b1.mono hbel'.out.size)).setCell (Nat.le_refl _) _).setCell (Nat.le_refl _) _).setCell (Nat.le_refl _) _
        case measure => simp [intOf]; omega
    · obtain rfl : k = l.length := by omega
      have hrow' : Hid (wr.rowIs w.heap.size 62 (l.length * 3) (fun j => .int .i64 (cv l j))) := hrow.congr (fun j hj => by simp [hj])
      have hbel' : Hid (Below w.heap.size w wr) := hbel
      clear hrow hbel
      go_wp2_with fail
      go_ret
      exact ⟨_, rfl, Nat.le_refl _, hrow'.out, hbel'.out⟩
theorem keep6 {w w' : World} {g i g' i' : Nat} {x y z x' y' z' : Value} (h : Below w.heap.size w w') (c0 : w.cell? ⟨g, i, none⟩ = some x) (c1 : w.cell? ⟨g, i + 1, none⟩ = some y) (c2 : w.cell? ⟨g, i + 2, none⟩ = some z)
    (d0 : w.cell? ⟨g', i', none⟩ = some x') (d1 : w.cell? ⟨g', i' + 1, none⟩ = some y') (d2 : w.cell? ⟨g', i' + 2, none⟩ = some z') :
    w'.cell? ⟨g, i, none⟩ = some x ∧ w'.cell? ⟨g, i + 1, none⟩ = some y ∧ w'.cell? ⟨g, i + 2, none⟩ = some z ∧ w'.cell? ⟨g', i', none⟩ = some x' ∧ w'.cell? ⟨g', i' + 1, none⟩ = some y' ∧ w'.cell? ⟨g', i' + 2, none⟩ = some z' := by
  have hs : g < w.heap.size := World.block_lt_of_cell? w _ c0
  have hs' : g' < w.heap.size := World.block_lt_of_cell? w _ d0
  exact ⟨by rw [h.cell hs]; exact c0, by rw [h.cell hs]; exact c1, by rw [h.cell hs]; exact c2, by rw [h.cell hs']; exact d0, by rw [h.cell hs']; exact d1, by rw [h.cell hs']; exact d2⟩
set_option maxHeartbeats 4000000 in
theorem eqInsS (w : World) (a a' : Option Addr) (cap cap' : Nat) (l : List I3) (h : RdI w a l) (h' : RdI w a' l) (hn : l.length ≤ 2097152) :
    Calls Tryz.prog 129 #[.slice a l.length cap, .slice a' l.length cap'] w fun e w' => e = .returned (.bool true) ∧ Below w.heap.size w w' := by
  have k1 : Hid (RdI w a l) := h
  have k2 : Hid (RdI w a' l) := h'
  clear h h'
  go_enter Tryz.func129, Tryz.ntmps129
  go_wp2_with fail
  go_loopw [5] (fun i wr => ∃ k : Nat, k ≤ l.length ∧ i = .int .i64 k ∧ Below w.heap.size w wr) (fun i _ => l.length - (intOf i).toNat)
  case atStart => exact ⟨0, Nat.zero_le _, rfl, Below.refl _ _⟩
  case round =>
    obtain ⟨k, hk, rfl, hb⟩ := hrel
    by_cases hlt : k < l.length
    · have hlt' : (k : Int) < (l.length : Int) := by omega
      rcases k1.out.later hb with h0 | ⟨b, off, ha, hc⟩
      · omega
      · rcases k2.out.later hb with h0' | ⟨b', off', ha', hc'⟩
        · omega
        · obtain ⟨c0, c1, c2⟩ := hc k hlt
          obtain ⟨d0, d1, d2⟩ := hc' k hlt
          subst ha ha'
          generalize oAt l k = x0 at *
          generalize aAt l k = x1 at *
          generalize bAt l k = x2 at *
          have hb' : Hid (Below w.heap.size w wr) := hb
          clear hb hc hc'
          go_wp2_with fail
          go_region_held (fun w' => w'.cell? ⟨b, off + k * 3, none⟩ = some (.int .i64 x0) ∧ w'.cell? ⟨b, off + k * 3 + 1, none⟩ = some (.int .i64 x1) ∧ w'.cell? ⟨b, off + k * 3 + 2, none⟩ = some (.int .i64 x2) ∧ w'.cell? ⟨b', off' + k * 3, none⟩ = some (.int .i64 x0) ∧ w'.cell? ⟨b', off' + k * 3 + 1, none⟩ = some (.int .i64 x1) ∧ w'.cell? ⟨b', off' + k * 3 + 2, none⟩ = some (.int .i64 x2)) (go_keep)
            (first | (go_at_call 144; refine (eqIns _ _ _ _).mono ?_; rintro e w2 ⟨rfl, b2⟩; obtain ⟨s0, s1, s2, t0, t1, t2⟩ := keep6 b2 c0 c1 c2 d0 d1 d2))
          go_wp2_with fail
          go_roundw
          case rel => exact ⟨k + 1, by omega, by go_num, hb'.out.drew.trans (b2.mono hb'.out.size)⟩
          case measure => simp [intOf]; omega
    · obtain rfl : k = l.length := by omega
      have hb' : Hid (Below w.heap.size w wr) := hb
      clear hb
      go_wp2_with fail
      go_ret
      exact ⟨rfl, hb'.out⟩
/-- A slice is copied: the copy can be read, and what lay there lies there still. -/
theorem copyI (w0 w : World) (a : Option Addr) (cap : Nat) (l : List I3) (h : RdI w0 a l) (hn : l.length ≤ 1048576) (hb : Below w0.heap.size w0 w) :
    Calls Tryz.prog 113 #[.slice a l.length cap] w fun e w' => ∃ g, e = .returned (.slice (some ⟨g, 0, none⟩) l.length l.length) ∧ RdI w' (some ⟨g, 0, none⟩) l ∧ Below w.heap.size w w' ∧ Below w0.heap.size w0 w' :=
  (toInsS w a cap l (h.later hb) hn).mono fun _ _ ⟨g, he, _, hr, hb'⟩ => ⟨g, he, rdI_of_row hr, hb', hb.trans (hb'.mono hb.size)⟩
end Go.Proofs.YtajlkdidjelpeaaGreatDoor.InsMem
namespace Go.Proofs.YtajlkdidjelpeaaGreatDoor.MemSig
open Go.RowKit InsMem

abbrev E := Int × Int
def f0At (l : List E) (k : Nat) : Int := (l.getD k (0, 0)).1
def f1At (l : List E) (k : Nat) : Int := (l.getD k (0, 0)).2
/-- A slice of them that can be read. -/
def Rd (w : World) (a : Option Addr) (l : List E) : Prop :=
  l.length = 0 ∨ ∃ b off, a = some ⟨b, off, none⟩ ∧ ∀ j, j < l.length → w.cell? ⟨b, off + j * 2, none⟩ = some (.int .i64 (f0At l j)) ∧ w.cell? ⟨b, off + j * 2 + 1, none⟩ = some (.int .i64 (f1At l j))
theorem Rd.later {w w' : World} {a : Option Addr} {l : List E} (h : Rd w a l) (hb : Below w.heap.size w w') : Rd w' a l := by
  rcases h with h | ⟨b, off, ha, hc⟩
  · exact .inl h
  · refine .inr ⟨b, off, ha, fun j hj => ?_⟩
    obtain ⟨c0, c1⟩ := hc j hj
    have hs : b < w.heap.size := World.block_lt_of_cell? w _ c0
    exact ⟨by rw [hb.cell hs]; exact c0, by rw [hb.cell hs]; exact c1⟩
theorem to1 (x0 : Int) (x1 : Int) (w : World) :
    Calls Tryz.prog 71 #[.agg #[.int .i64 (x0), .int .i64 (x1)]] w fun e w' => e = .returned (.agg #[.int .i64 (x0), .int .i64 (x1)]) ∧ Below w.heap.size w w' := by
  go_enter Tryz.func71, Tryz.ntmps71
  go_wp2_with fail
  refine bodyPost_ret ?_ rfl ⟨rfl, ?_⟩
  · simp [results, go_sem]
  · exact (((Below.refl _ _).alloc (Nat.le_refl _) _).alloc (by simp) _).alloc (by simp; omega) _
theorem eq1 (x0 : Int) (x1 : Int) (w : World) :
    Calls Tryz.prog 82 #[.agg #[.int .i64 (x0), .int .i64 (x1)], .agg #[.int .i64 (x0), .int .i64 (x1)]] w fun e w' => e = .returned (.bool true) ∧ Below w.heap.size w w' := by
  go_enter Tryz.func82, Tryz.ntmps82
  go_wp2_with fail
  go_ret
  exact ⟨rfl, ((Below.refl _ _).alloc (Nat.le_refl _) _).alloc (by simp) _⟩
def cv (l : List E) (j : Nat) : Value := if j % 2 = 0 then .int .i64 (f0At l (j / 2)) else .int .i64 (f1At l (j / 2))
def zv (j : Nat) : Value := if j % 2 = 0 then .int .i64 0 else .int .i64 0
theorem cv0 (l : List E) (k : Nat) : cv l (k * 2) = .int .i64 (f0At l k) := by unfold cv; rw [if_pos (by omega), show (k * 2) / 2 = k by omega]
theorem cv1 (l : List E) (k : Nat) : cv l (k * 2 + 1) = .int .i64 (f1At l k) := by unfold cv; rw [if_neg (by omega), show (k * 2 + 1) / 2 = k by omega]
theorem info : (Tryz.prog.info? 119).map (fun i => (i.zero, i.size, i.bytes)) = some (some (.agg #[.int .i64 0, .int .i64 0]), 2, 16) := by kernel_rfl
theorem run_mk (m : Nat) (hn : m ≤ 1048576) (w : World) :
    (Instr.makeSlice 32 (.int .i64 (m : Int)) (.int .i64 (m : Int))).run Tryz.prog w = .ok (.slice (some ⟨w.heap.size, 0, none⟩) m m) (w.alloc (.cells (madeCells #[.int .i64 0, .int .i64 0] (m * 2)) 119)) := by
  obtain ⟨i, hi, hzz⟩ := Option.map_eq_some_iff.1 info
  simp only [Prod.mk.injEq] at hzz
  obtain ⟨hz, hs, hb⟩ := hzz
  have hr := run_make (P := Tryz.prog) w 32 119 i _ Tryz.underlying32 hi hz .i64 .i64 m m (by omega) (Int.le_refl _) (by rw [hb]; omega) (by omega)
  simp only [Int.toNat_natCast, hs] at hr
  exact hr
theorem made (w : World) (m : Nat) : (w.alloc (.cells (madeCells #[.int .i64 0, .int .i64 0] (m * 2)) 119)).rowIs w.heap.size 119 (m * 2) zv :=
  ⟨madeCells #[.int .i64 0, .int .i64 0] (m * 2), Deep.blk_alloc_new _ _, size_madeCells _ _, fun i hi => by
    have : i % 2 = 0 ∨ i % 2 = 1 := by omega
    rcases this with h | h <;> simp [madeCells, zv, hi, h]⟩
theorem rd_of_row {w : World} {b : Nat} {l : List E} (h : w.rowIs b 119 (l.length * 2) (cv l)) : Rd w (some ⟨b, 0, none⟩) l := by
  refine .inr ⟨b, 0, rfl, fun j hj => ⟨?_, ?_⟩⟩
  · rw [Nat.zero_add, h.cell (by omega)]; simp only [cv0]
  · rw [Nat.zero_add, h.cell (by omega)]; simp only [cv1]
theorem room {w : World} {b m i : Nat} {t : TypeId} {f : Nat → Value} (h : w.rowIs b t m f) (hi : i + 2 ≤ m) (v0 : Value) :
    (∃ x, (w).cell? ⟨b, i, none⟩ = some x) ∧ (∃ x, ((w).setCell ⟨b, i, none⟩ v0).cell? ⟨b, i + 1, none⟩ = some x) ∧ (w).frozen? ⟨b, i, none⟩ = false ∧ ((w).setCell ⟨b, i, none⟩ v0).frozen? ⟨b, i + 1, none⟩ = false :=
  ⟨⟨_, (h).cell (by omega)⟩, ⟨_, ((h).set (i) v0).cell (by omega)⟩, (h).frozen _, ((h).set (i) v0).frozen _⟩
set_option maxHeartbeats 4000000 in
theorem toS (w : World) (a : Option Addr) (cap : Nat) (l : List E) (h : Rd w a l) (hn : l.length ≤ 1048576) :
    Calls Tryz.prog 32 #[.slice a l.length cap] w fun e w' => ∃ b, e = .returned (.slice (some ⟨b, 0, none⟩) l.length l.length) ∧ w.heap.size ≤ b ∧ w'.rowIs b 119 (l.length * 2) (cv l) ∧ Below w.heap.size w w' := by
  have hmk := run_mk l.length hn
  have h' : Hid (Rd w a l) := h
  clear h
  go_enter Tryz.func32, Tryz.ntmps32
  go_wp2_with fail
  clear hmk
  go_loopw [4] (fun i wr => ∃ k : Nat, k ≤ l.length ∧ i = .int .i64 k ∧ wr.rowIs w.heap.size 119 (l.length * 2) (fun j => if j < k * 2 then cv l j else zv j) ∧ Below w.heap.size w wr) (fun i _ => l.length - (intOf i).toNat)
  case atStart => exact ⟨0, Nat.zero_le _, rfl, (made w l.length).congr (fun i hi => by simp), (Below.refl _ _).alloc (Nat.le_refl _) _⟩
  case round =>
    obtain ⟨k, hk, rfl, hrow, hbel⟩ := hrel
    by_cases hlt : k < l.length
    · have hlt' : (k : Int) < (l.length : Int) := by omega
      rcases h'.out with h0 | ⟨b, off, ha, hc⟩
      · omega
      · obtain ⟨c0, c1⟩ := hc k hlt
        have hbb : b < w.heap.size := World.block_lt_of_cell? w _ c0
        rw [← hbel.cell hbb] at c0 c1
        clear hc
        subst ha
        have e0 := cv0 l k
        have e1 := cv1 l k
        generalize f0At l k = x0 at *
        generalize f1At l k = x1 at *
        have hrow' : Hid (wr.rowIs w.heap.size 119 (l.length * 2) (fun j => if j < k * 2 then cv l j else zv j)) := hrow
        have hbel' : Hid (Below w.heap.size w wr) := hbel
        clear hrow hbel
        go_wp2_with (go_at_call 71; refine (to1 _ _ _).mono ?_; rintro e w1 ⟨rfl, b1⟩; have hr1 : Hid (w1.rowIs w.heap.size 119 (l.length * 2) (fun j => if j < k * 2 then cv l j else zv j)) := row_later hrow'.out b1; obtain ⟨⟨y0, q0⟩, ⟨y1, q1⟩, g0, g1⟩ := room hr1.out (i := k * 2) (by omega) (.int .i64 (x0)))
        go_roundw
        case rel =>
          refine ⟨k + 1, by omega, by go_num, (((hr1.out.set (k * 2) (.int .i64 (x0))).set (k * 2 + 1) (.int .i64 (x1))).congr fun j hj => ?_), ?_⟩
          · by_cases z1 : j = k * 2 + 1
            · rw [if_pos z1, if_pos (by omega), z1, e1]
            · rw [if_neg z1]
              by_cases z0 : j = k * 2
              · rw [if_pos z0, if_pos (by omega), z0, e0]
              · rw [if_neg z0]
                by_cases z9 : j < k * 2
                · rw [if_pos z9, if_pos (by omega)]
                · rw [if_neg z9, if_neg (by omega)]
          · exact (((hbel'.out.trans (b1.mono hbel'.out.size)).setCell (Nat.le_refl _) _).setCell (Nat.le_refl _) _)
        case measure => simp [intOf]; omega
    · obtain rfl : k = l.length := by omega
      have hrow' : Hid (wr.rowIs w.heap.size 119 (l.length * 2) (cv l)) := hrow.congr (fun j hj => by simp [hj])
      have hbel' : Hid (Below w.heap.size w wr) := hbel
      clear hrow hbel
      go_wp2_with fail
      go_ret
      exact ⟨_, rfl, Nat.le_refl _, hrow'.out, hbel'.out⟩
theorem keep {w w' : World} {g i g' i' : Nat} {p0 p1 r0 r1 : Value} (h : Below w.heap.size w w') (c0 : w.cell? ⟨g, i, none⟩ = some p0) (c1 : w.cell? ⟨g, i + 1, none⟩ = some p1) (d0 : w.cell? ⟨g', i', none⟩ = some r0) (d1 : w.cell? ⟨g', i' + 1, none⟩ = some r1) :
    w'.cell? ⟨g, i, none⟩ = some p0 ∧ w'.cell? ⟨g, i + 1, none⟩ = some p1 ∧ w'.cell? ⟨g', i', none⟩ = some r0 ∧ w'.cell? ⟨g', i' + 1, none⟩ = some r1 := by
  have hs : g < w.heap.size := World.block_lt_of_cell? w _ c0
  have hs' : g' < w.heap.size := World.block_lt_of_cell? w _ d0
  exact ⟨by rw [h.cell hs]; exact c0, by rw [h.cell hs]; exact c1, by rw [h.cell hs']; exact d0, by rw [h.cell hs']; exact d1⟩
set_option maxHeartbeats 4000000 in
theorem eqS (w : World) (a a' : Option Addr) (cap cap' : Nat) (l : List E) (h : Rd w a l) (h' : Rd w a' l) (hn : l.length ≤ 2097152) :
    Calls Tryz.prog 40 #[.slice a l.length cap, .slice a' l.length cap'] w fun e w' => e = .returned (.bool true) ∧ Below w.heap.size w w' := by
  have k1 : Hid (Rd w a l) := h
  have k2 : Hid (Rd w a' l) := h'
  clear h h'
  go_enter Tryz.func40, Tryz.ntmps40
  go_wp2_with fail
  go_loopw [5] (fun i wr => ∃ k : Nat, k ≤ l.length ∧ i = .int .i64 k ∧ Below w.heap.size w wr) (fun i _ => l.length - (intOf i).toNat)
  case atStart => exact ⟨0, Nat.zero_le _, rfl, Below.refl _ _⟩
  case round =>
    obtain ⟨k, hk, rfl, hb⟩ := hrel
    by_cases hlt : k < l.length
    · have hlt' : (k : Int) < (l.length : Int) := by omega
      rcases k1.out.later hb with h0 | ⟨b, off, ha, hc⟩
      · omega
      · rcases k2.out.later hb with h0' | ⟨b', off', ha', hc'⟩
        · omega
        · obtain ⟨c0, c1⟩ := hc k hlt
          obtain ⟨d0, d1⟩ := hc' k hlt
          subst ha ha'
          generalize f0At l k = x0 at *
          generalize f1At l k = x1 at *
          have hb' : Hid (Below w.heap.size w wr) := hb
          clear hb hc hc'
          go_wp2_with fail
          go_region_held (fun w' => w'.cell? ⟨b, off + k * 2, none⟩ = some (.int .i64 (x0)) ∧ w'.cell? ⟨b, off + k * 2 + 1, none⟩ = some (.int .i64 (x1)) ∧ w'.cell? ⟨b', off' + k * 2, none⟩ = some (.int .i64 (x0)) ∧ w'.cell? ⟨b', off' + k * 2 + 1, none⟩ = some (.int .i64 (x1))) (go_keep)
            (first | (go_at_call 82; refine (eq1 _ _ _).mono ?_; rintro e w2 ⟨rfl, b2⟩; obtain ⟨s0, s1, t0, t1⟩ := keep b2 c0 c1 d0 d1))
          go_wp2_with fail
          go_roundw
          case rel => exact ⟨k + 1, by omega, by go_num, hb'.out.drew.trans (b2.mono hb'.out.size)⟩
          case measure => simp [intOf]; omega
    · obtain rfl : k = l.length := by omega
      have hb' : Hid (Below w.heap.size w wr) := hb
      clear hb
      go_wp2_with fail
      go_ret
      exact ⟨rfl, hb'.out⟩
end Go.Proofs.YtajlkdidjelpeaaGreatDoor.MemSig
namespace Go.Proofs.YtajlkdidjelpeaaGreatDoor.MemGlobal
open Go.RowKit InsMem

abbrev E := Bool × Int
def f0At (l : List E) (k : Nat) : Bool := (l.getD k (false, 0)).1
def f1At (l : List E) (k : Nat) : Int := (l.getD k (false, 0)).2
/-- A slice of them that can be read. -/
def Rd (w : World) (a : Option Addr) (l : List E) : Prop :=
  l.length = 0 ∨ ∃ b off, a = some ⟨b, off, none⟩ ∧ ∀ j, j < l.length → w.cell? ⟨b, off + j * 2, none⟩ = some (.bool (f0At l j)) ∧ w.cell? ⟨b, off + j * 2 + 1, none⟩ = some (.int .i64 (f1At l j))
theorem Rd.later {w w' : World} {a : Option Addr} {l : List E} (h : Rd w a l) (hb : Below w.heap.size w w') : Rd w' a l := by
  rcases h with h | ⟨b, off, ha, hc⟩
  · exact .inl h
  · refine .inr ⟨b, off, ha, fun j hj => ?_⟩
    obtain ⟨c0, c1⟩ := hc j hj
    have hs : b < w.heap.size := World.block_lt_of_cell? w _ c0
    exact ⟨by rw [hb.cell hs]; exact c0, by rw [hb.cell hs]; exact c1⟩
theorem to1 (x0 : Bool) (x1 : Int) (w : World) :
    Calls Tryz.prog 74 #[.agg #[.bool (x0), .int .i64 (x1)]] w fun e w' => e = .returned (.agg #[.bool (x0), .int .i64 (x1)]) ∧ Below w.heap.size w w' := by
  go_enter Tryz.func74, Tryz.ntmps74
  go_wp2_with fail
  refine bodyPost_ret ?_ rfl ⟨rfl, ?_⟩
  · simp [results, go_sem]
  · exact (((Below.refl _ _).alloc (Nat.le_refl _) _).alloc (by simp) _).alloc (by simp; omega) _
theorem eq1 (x0 : Bool) (x1 : Int) (w : World) :
    Calls Tryz.prog 85 #[.agg #[.bool (x0), .int .i64 (x1)], .agg #[.bool (x0), .int .i64 (x1)]] w fun e w' => e = .returned (.bool true) ∧ Below w.heap.size w w' := by
  go_enter Tryz.func85, Tryz.ntmps85
  go_wp2_with fail
  go_ret
  exact ⟨rfl, ((Below.refl _ _).alloc (Nat.le_refl _) _).alloc (by simp) _⟩
def cv (l : List E) (j : Nat) : Value := if j % 2 = 0 then .bool (f0At l (j / 2)) else .int .i64 (f1At l (j / 2))
def zv (j : Nat) : Value := if j % 2 = 0 then .bool false else .int .i64 0
theorem cv0 (l : List E) (k : Nat) : cv l (k * 2) = .bool (f0At l k) := by unfold cv; rw [if_pos (by omega), show (k * 2) / 2 = k by omega]
theorem cv1 (l : List E) (k : Nat) : cv l (k * 2 + 1) = .int .i64 (f1At l k) := by unfold cv; rw [if_neg (by omega), show (k * 2 + 1) / 2 = k by omega]
theorem info : (Tryz.prog.info? 114).map (fun i => (i.zero, i.size, i.bytes)) = some (some (.agg #[.bool false, .int .i64 0]), 2, 16) := by kernel_rfl
theorem run_mk (m : Nat) (hn : m ≤ 1048576) (w : World) :
    (Instr.makeSlice 35 (.int .i64 (m : Int)) (.int .i64 (m : Int))).run Tryz.prog w = .ok (.slice (some ⟨w.heap.size, 0, none⟩) m m) (w.alloc (.cells (madeCells #[.bool false, .int .i64 0] (m * 2)) 114)) := by
  obtain ⟨i, hi, hzz⟩ := Option.map_eq_some_iff.1 info
  simp only [Prod.mk.injEq] at hzz
  obtain ⟨hz, hs, hb⟩ := hzz
  have hr := run_make (P := Tryz.prog) w 35 114 i _ Tryz.underlying35 hi hz .i64 .i64 m m (by omega) (Int.le_refl _) (by rw [hb]; omega) (by omega)
  simp only [Int.toNat_natCast, hs] at hr
  exact hr
theorem made (w : World) (m : Nat) : (w.alloc (.cells (madeCells #[.bool false, .int .i64 0] (m * 2)) 114)).rowIs w.heap.size 114 (m * 2) zv :=
  ⟨madeCells #[.bool false, .int .i64 0] (m * 2), Deep.blk_alloc_new _ _, size_madeCells _ _, fun i hi => by
    have : i % 2 = 0 ∨ i % 2 = 1 := by omega
    rcases this with h | h <;> simp [madeCells, zv, hi, h]⟩
theorem rd_of_row {w : World} {b : Nat} {l : List E} (h : w.rowIs b 114 (l.length * 2) (cv l)) : Rd w (some ⟨b, 0, none⟩) l := by
  refine .inr ⟨b, 0, rfl, fun j hj => ⟨?_, ?_⟩⟩
  · rw [Nat.zero_add, h.cell (by omega)]; simp only [cv0]
  · rw [Nat.zero_add, h.cell (by omega)]; simp only [cv1]
theorem room {w : World} {b m i : Nat} {t : TypeId} {f : Nat → Value} (h : w.rowIs b t m f) (hi : i + 2 ≤ m) (v0 : Value) :
    (∃ x, (w).cell? ⟨b, i, none⟩ = some x) ∧ (∃ x, ((w).setCell ⟨b, i, none⟩ v0).cell? ⟨b, i + 1, none⟩ = some x) ∧ (w).frozen? ⟨b, i, none⟩ = false ∧ ((w).setCell ⟨b, i, none⟩ v0).frozen? ⟨b, i + 1, none⟩ = false :=
  ⟨⟨_, (h).cell (by omega)⟩, ⟨_, ((h).set (i) v0).cell (by omega)⟩, (h).frozen _, ((h).set (i) v0).frozen _⟩
set_option maxHeartbeats 4000000 in
theorem toS (w : World) (a : Option Addr) (cap : Nat) (l : List E) (h : Rd w a l) (hn : l.length ≤ 1048576) :
    Calls Tryz.prog 35 #[.slice a l.length cap] w fun e w' => ∃ b, e = .returned (.slice (some ⟨b, 0, none⟩) l.length l.length) ∧ w.heap.size ≤ b ∧ w'.rowIs b 114 (l.length * 2) (cv l) ∧ Below w.heap.size w w' := by
  have hmk := run_mk l.length hn
  have h' : Hid (Rd w a l) := h
  clear h
  go_enter Tryz.func35, Tryz.ntmps35
  go_wp2_with fail
  clear hmk
  go_loopw [4] (fun i wr => ∃ k : Nat, k ≤ l.length ∧ i = .int .i64 k ∧ wr.rowIs w.heap.size 114 (l.length * 2) (fun j => if j < k * 2 then cv l j else zv j) ∧ Below w.heap.size w wr) (fun i _ => l.length - (intOf i).toNat)
  case atStart => exact ⟨0, Nat.zero_le _, rfl, (made w l.length).congr (fun i hi => by simp), (Below.refl _ _).alloc (Nat.le_refl _) _⟩
  case round =>
    obtain ⟨k, hk, rfl, hrow, hbel⟩ := hrel
    by_cases hlt : k < l.length
    · have hlt' : (k : Int) < (l.length : Int) := by omega
      rcases h'.out with h0 | ⟨b, off, ha, hc⟩
      · omega
      · obtain ⟨c0, c1⟩ := hc k hlt
        have hbb : b < w.heap.size := World.block_lt_of_cell? w _ c0
        rw [← hbel.cell hbb] at c0 c1
        clear hc
        subst ha
        have e0 := cv0 l k
        have e1 := cv1 l k
        generalize f0At l k = x0 at *
        generalize f1At l k = x1 at *
        have hrow' : Hid (wr.rowIs w.heap.size 114 (l.length * 2) (fun j => if j < k * 2 then cv l j else zv j)) := hrow
        have hbel' : Hid (Below w.heap.size w wr) := hbel
        clear hrow hbel
        go_wp2_with (go_at_call 74; refine (to1 _ _ _).mono ?_; rintro e w1 ⟨rfl, b1⟩; have hr1 : Hid (w1.rowIs w.heap.size 114 (l.length * 2) (fun j => if j < k * 2 then cv l j else zv j)) := row_later hrow'.out b1; obtain ⟨⟨y0, q0⟩, ⟨y1, q1⟩, g0, g1⟩ := room hr1.out (i := k * 2) (by omega) (.bool (x0)))
        go_roundw
        case rel =>
          refine ⟨k + 1, by omega, by go_num, (((hr1.out.set (k * 2) (.bool (x0))).set (k * 2 + 1) (.int .i64 (x1))).congr fun j hj => ?_), ?_⟩
          · by_cases z1 : j = k * 2 + 1
            · rw [if_pos z1, if_pos (by omega), z1, e1]
            · rw [if_neg z1]
              by_cases z0 : j = k * 2
              · rw [if_pos z0, if_pos (by omega), z0, e0]
              · rw [if_neg z0]
                by_cases z9 : j < k * 2
                · rw [if_pos z9, if_pos (by omega)]
                · rw [if_neg z9, if_neg (by omega)]
          · exact (((hbel'.out.trans (b1.mono hbel'.out.size)).setCell (Nat.le_refl _) _).setCell (Nat.le_refl _) _)
        case measure => simp [intOf]; omega
    · obtain rfl : k = l.length := by omega
      have hrow' : Hid (wr.rowIs w.heap.size 114 (l.length * 2) (cv l)) := hrow.congr (fun j hj => by simp [hj])
      have hbel' : Hid (Below w.heap.size w wr) := hbel
      clear hrow hbel
      go_wp2_with fail
      go_ret
      exact ⟨_, rfl, Nat.le_refl _, hrow'.out, hbel'.out⟩
theorem keep {w w' : World} {g i g' i' : Nat} {p0 p1 r0 r1 : Value} (h : Below w.heap.size w w') (c0 : w.cell? ⟨g, i, none⟩ = some p0) (c1 : w.cell? ⟨g, i + 1, none⟩ = some p1) (d0 : w.cell? ⟨g', i', none⟩ = some r0) (d1 : w.cell? ⟨g', i' + 1, none⟩ = some r1) :
    w'.cell? ⟨g, i, none⟩ = some p0 ∧ w'.cell? ⟨g, i + 1, none⟩ = some p1 ∧ w'.cell? ⟨g', i', none⟩ = some r0 ∧ w'.cell? ⟨g', i' + 1, none⟩ = some r1 := by
  have hs : g < w.heap.size := World.block_lt_of_cell? w _ c0
  have hs' : g' < w.heap.size := World.block_lt_of_cell? w _ d0
  exact ⟨by rw [h.cell hs]; exact c0, by rw [h.cell hs]; exact c1, by rw [h.cell hs']; exact d0, by rw [h.cell hs']; exact d1⟩
set_option maxHeartbeats 4000000 in
theorem eqS (w : World) (a a' : Option Addr) (cap cap' : Nat) (l : List E) (h : Rd w a l) (h' : Rd w a' l) (hn : l.length ≤ 2097152) :
    Calls Tryz.prog 43 #[.slice a l.length cap, .slice a' l.length cap'] w fun e w' => e = .returned (.bool true) ∧ Below w.heap.size w w' := by
  have k1 : Hid (Rd w a l) := h
  have k2 : Hid (Rd w a' l) := h'
  clear h h'
  go_enter Tryz.func43, Tryz.ntmps43
  go_wp2_with fail
  go_loopw [5] (fun i wr => ∃ k : Nat, k ≤ l.length ∧ i = .int .i64 k ∧ Below w.heap.size w wr) (fun i _ => l.length - (intOf i).toNat)
  case atStart => exact ⟨0, Nat.zero_le _, rfl, Below.refl _ _⟩
  case round =>
    obtain ⟨k, hk, rfl, hb⟩ := hrel
    by_cases hlt : k < l.length
    · have hlt' : (k : Int) < (l.length : Int) := by omega
      rcases k1.out.later hb with h0 | ⟨b, off, ha, hc⟩
      · omega
      · rcases k2.out.later hb with h0' | ⟨b', off', ha', hc'⟩
        · omega
        · obtain ⟨c0, c1⟩ := hc k hlt
          obtain ⟨d0, d1⟩ := hc' k hlt
          subst ha ha'
          generalize f0At l k = x0 at *
          generalize f1At l k = x1 at *
          have hb' : Hid (Below w.heap.size w wr) := hb
          clear hb hc hc'
          go_wp2_with fail
          go_region_held (fun w' => w'.cell? ⟨b, off + k * 2, none⟩ = some (.bool (x0)) ∧ w'.cell? ⟨b, off + k * 2 + 1, none⟩ = some (.int .i64 (x1)) ∧ w'.cell? ⟨b', off' + k * 2, none⟩ = some (.bool (x0)) ∧ w'.cell? ⟨b', off' + k * 2 + 1, none⟩ = some (.int .i64 (x1))) (go_keep)
            (first | (go_at_call 85; refine (eq1 _ _ _).mono ?_; rintro e w2 ⟨rfl, b2⟩; obtain ⟨s0, s1, t0, t1⟩ := keep b2 c0 c1 d0 d1))
          go_wp2_with fail
          go_roundw
          case rel => exact ⟨k + 1, by omega, by go_num, hb'.out.drew.trans (b2.mono hb'.out.size)⟩
          case measure => simp [intOf]; omega
    · obtain rfl : k = l.length := by omega
      have hb' : Hid (Below w.heap.size w wr) := hb
      clear hb
      go_wp2_with fail
      go_ret
      exact ⟨rfl, hb'.out⟩
end Go.Proofs.YtajlkdidjelpeaaGreatDoor.MemGlobal
namespace Go.Proofs.YtajlkdidjelpeaaGreatDoor.MemImport
open Go.RowKit InsMem

abbrev E := ByteArray × ByteArray × Int
def f0At (l : List E) (k : Nat) : ByteArray := (l.getD k ((⟨#[]⟩ : ByteArray), (⟨#[]⟩ : ByteArray), 0)).1
def f1At (l : List E) (k : Nat) : ByteArray := (l.getD k ((⟨#[]⟩ : ByteArray), (⟨#[]⟩ : ByteArray), 0)).2.1
def f2At (l : List E) (k : Nat) : Int := (l.getD k ((⟨#[]⟩ : ByteArray), (⟨#[]⟩ : ByteArray), 0)).2.2
/-- A slice of them that can be read. -/
def Rd (w : World) (a : Option Addr) (l : List E) : Prop :=
  l.length = 0 ∨ ∃ b off, a = some ⟨b, off, none⟩ ∧ ∀ j, j < l.length → w.cell? ⟨b, off + j * 3, none⟩ = some (.string (f0At l j)) ∧ w.cell? ⟨b, off + j * 3 + 1, none⟩ = some (.string (f1At l j)) ∧ w.cell? ⟨b, off + j * 3 + 2, none⟩ = some (.int .i64 (f2At l j))
theorem Rd.later {w w' : World} {a : Option Addr} {l : List E} (h : Rd w a l) (hb : Below w.heap.size w w') : Rd w' a l := by
  rcases h with h | ⟨b, off, ha, hc⟩
  · exact .inl h
  · refine .inr ⟨b, off, ha, fun j hj => ?_⟩
    obtain ⟨c0, c1, c2⟩ := hc j hj
    have hs : b < w.heap.size := World.block_lt_of_cell? w _ c0
    exact ⟨by rw [hb.cell hs]; exact c0, by rw [hb.cell hs]; exact c1, by rw [hb.cell hs]; exact c2⟩
theorem to1 (x0 : ByteArray) (x1 : ByteArray) (x2 : Int) (w : World) :
    Calls Tryz.prog 72 #[.agg #[.string (x0), .string (x1), .int .i64 (x2)]] w fun e w' => e = .returned (.agg #[.string (x0), .string (x1), .int .i64 (x2)]) ∧ Below w.heap.size w w' := by
  go_enter Tryz.func72, Tryz.ntmps72
  go_wp2_with fail
  refine bodyPost_ret ?_ rfl ⟨rfl, ?_⟩
  · simp [results, go_sem]
  · exact (((Below.refl _ _).alloc (Nat.le_refl _) _).alloc (by simp) _).alloc (by simp; omega) _
theorem eq1 (x0 : ByteArray) (x1 : ByteArray) (x2 : Int) (w : World) :
    Calls Tryz.prog 83 #[.agg #[.string (x0), .string (x1), .int .i64 (x2)], .agg #[.string (x0), .string (x1), .int .i64 (x2)]] w fun e w' => e = .returned (.bool true) ∧ Below w.heap.size w w' := by
  go_enter Tryz.func83, Tryz.ntmps83
  go_wp2_with fail
  go_ret
  exact ⟨rfl, ((Below.refl _ _).alloc (Nat.le_refl _) _).alloc (by simp) _⟩
def cv (l : List E) (j : Nat) : Value := if j % 3 = 0 then .string (f0At l (j / 3)) else if j % 3 = 1 then .string (f1At l (j / 3)) else .int .i64 (f2At l (j / 3))
def zv (j : Nat) : Value := if j % 3 = 0 then .string ⟨#[]⟩ else if j % 3 = 1 then .string ⟨#[]⟩ else .int .i64 0
theorem cv0 (l : List E) (k : Nat) : cv l (k * 3) = .string (f0At l k) := by unfold cv; rw [if_pos (by omega), show (k * 3) / 3 = k by omega]
theorem cv1 (l : List E) (k : Nat) : cv l (k * 3 + 1) = .string (f1At l k) := by unfold cv; rw [if_neg (by omega), if_pos (by omega), show (k * 3 + 1) / 3 = k by omega]
theorem cv2 (l : List E) (k : Nat) : cv l (k * 3 + 2) = .int .i64 (f2At l k) := by unfold cv; rw [if_neg (by omega), if_neg (by omega), show (k * 3 + 2) / 3 = k by omega]
theorem info : (Tryz.prog.info? 126).map (fun i => (i.zero, i.size, i.bytes)) = some (some (.agg #[.string ⟨#[]⟩, .string ⟨#[]⟩, .int .i64 0]), 3, 40) := by kernel_rfl
theorem run_mk (m : Nat) (hn : m ≤ 1048576) (w : World) :
    (Instr.makeSlice 33 (.int .i64 (m : Int)) (.int .i64 (m : Int))).run Tryz.prog w = .ok (.slice (some ⟨w.heap.size, 0, none⟩) m m) (w.alloc (.cells (madeCells #[.string ⟨#[]⟩, .string ⟨#[]⟩, .int .i64 0] (m * 3)) 126)) := by
  obtain ⟨i, hi, hzz⟩ := Option.map_eq_some_iff.1 info
  simp only [Prod.mk.injEq] at hzz
  obtain ⟨hz, hs, hb⟩ := hzz
  have hr := run_make (P := Tryz.prog) w 33 126 i _ Tryz.underlying33 hi hz .i64 .i64 m m (by omega) (Int.le_refl _) (by rw [hb]; omega) (by omega)
  simp only [Int.toNat_natCast, hs] at hr
  exact hr
theorem made (w : World) (m : Nat) : (w.alloc (.cells (madeCells #[.string ⟨#[]⟩, .string ⟨#[]⟩, .int .i64 0] (m * 3)) 126)).rowIs w.heap.size 126 (m * 3) zv :=
  ⟨madeCells #[.string ⟨#[]⟩, .string ⟨#[]⟩, .int .i64 0] (m * 3), Deep.blk_alloc_new _ _, size_madeCells _ _, fun i hi => by
    have : i % 3 = 0 ∨ i % 3 = 1 ∨ i % 3 = 2 := by omega
    rcases this with h | h | h <;> simp [madeCells, zv, hi, h]⟩
theorem rd_of_row {w : World} {b : Nat} {l : List E} (h : w.rowIs b 126 (l.length * 3) (cv l)) : Rd w (some ⟨b, 0, none⟩) l := by
  refine .inr ⟨b, 0, rfl, fun j hj => ⟨?_, ?_, ?_⟩⟩
  · rw [Nat.zero_add, h.cell (by omega)]; simp only [cv0]
  · rw [Nat.zero_add, h.cell (by omega)]; simp only [cv1]
  · rw [Nat.zero_add, h.cell (by omega)]; simp only [cv2]
theorem room {w : World} {b m i : Nat} {t : TypeId} {f : Nat → Value} (h : w.rowIs b t m f) (hi : i + 3 ≤ m) (v0 v1 : Value) :
    (∃ x, (w).cell? ⟨b, i, none⟩ = some x) ∧ (∃ x, ((w).setCell ⟨b, i, none⟩ v0).cell? ⟨b, i + 1, none⟩ = some x) ∧ (∃ x, (((w).setCell ⟨b, i, none⟩ v0).setCell ⟨b, i + 1, none⟩ v1).cell? ⟨b, i + 2, none⟩ = some x) ∧ (w).frozen? ⟨b, i, none⟩ = false ∧ ((w).setCell ⟨b, i, none⟩ v0).frozen? ⟨b, i + 1, none⟩ = false ∧ (((w).setCell ⟨b, i, none⟩ v0).setCell ⟨b, i + 1, none⟩ v1).frozen? ⟨b, i + 2, none⟩ = false :=
  ⟨⟨_, (h).cell (by omega)⟩, ⟨_, ((h).set (i) v0).cell (by omega)⟩, ⟨_, (((h).set (i) v0).set (i + 1) v1).cell (by omega)⟩, (h).frozen _, ((h).set (i) v0).frozen _, (((h).set (i) v0).set (i + 1) v1).frozen _⟩
set_option maxHeartbeats 4000000 in
theorem toS (w : World) (a : Option Addr) (cap : Nat) (l : List E) (h : Rd w a l) (hn : l.length ≤ 1048576) :
    Calls Tryz.prog 33 #[.slice a l.length cap] w fun e w' => ∃ b, e = .returned (.slice (some ⟨b, 0, none⟩) l.length l.length) ∧ w.heap.size ≤ b ∧ w'.rowIs b 126 (l.length * 3) (cv l) ∧ Below w.heap.size w w' := by
  have hmk := run_mk l.length hn
  have h' : Hid (Rd w a l) := h
  clear h
  go_enter Tryz.func33, Tryz.ntmps33
  go_wp2_with fail
  clear hmk
  go_loopw [4] (fun i wr => ∃ k : Nat, k ≤ l.length ∧ i = .int .i64 k ∧ wr.rowIs w.heap.size 126 (l.length * 3) (fun j => if j < k * 3 then cv l j else zv j) ∧ Below w.heap.size w wr) (fun i _ => l.length - (intOf i).toNat)
  case atStart => exact ⟨0, Nat.zero_le _, rfl, (made w l.length).congr (fun i hi => by simp), (Below.refl _ _).alloc (Nat.le_refl _) _⟩
  case round =>
    obtain ⟨k, hk, rfl, hrow, hbel⟩ := hrel
    by_cases hlt : k < l.length
    · have hlt' : (k : Int) < (l.length : Int) := by omega
      rcases h'.out with h0 | ⟨b, off, ha, hc⟩
      · omega
      · obtain ⟨c0, c1, c2⟩ := hc k hlt
        have hbb : b < w.heap.size := World.block_lt_of_cell? w _ c0
        rw [← hbel.cell hbb] at c0 c1 c2
        clear hc
        subst ha
        have e0 := cv0 l k
        have e1 := cv1 l k
        have e2 := cv2 l k
        generalize f0At l k = x0 at *
        generalize f1At l k = x1 at *
        generalize f2At l k = x2 at *
        have hrow' : Hid (wr.rowIs w.heap.size 126 (l.length * 3) (fun j => if j < k * 3 then cv l j else zv j)) := hrow
        have hbel' : Hid (Below w.heap.size w wr) := hbel
        clear hrow hbel
        go_wp2_with (go_at_call 72; refine (to1 _ _ _ _).mono ?_; rintro e w1 ⟨rfl, b1⟩; have hr1 : Hid (w1.rowIs w.heap.size 126 (l.length * 3) (fun j => if j < k * 3 then cv l j else zv j)) := row_later hrow'.out b1; obtain ⟨⟨y0, q0⟩, ⟨y1, q1⟩, ⟨y2, q2⟩, g0, g1, g2⟩ := room hr1.out (i := k * 3) (by omega) (.string (x0)) (.string (x1)))
        go_roundw
        case rel =>
          refine ⟨k + 1, by omega, by go_num, ((((hr1.out.set (k * 3) (.string (x0))).set (k * 3 + 1) (.string (x1))).set (k * 3 + 2) (.int .i64 (x2))).congr fun j hj => ?_), ?_⟩
          · by_cases z2 : j = k * 3 + 2
            · rw [if_pos z2, if_pos (by omega), z2, e2]
            · rw [if_neg z2]
              by_cases z1 : j = k * 3 + 1
              · rw [if_pos z1, if_pos (by omega), z1, e1]
              · rw [if_neg z1]
                by_cases z0 : j = k * 3
                · rw [if_pos z0, if_pos (by omega), z0, e0]
                · rw [if_neg z0]
                  by_cases z9 : j < k * 3
                  · rw [if_pos z9, if_pos (by omega)]
                  · rw [if_neg z9, if_neg (by omega)]
          · exact ((((hbel'.out.trans (b1.mono hbel'.out.size)).setCell (Nat.le_refl _) _).setCell (Nat.le_refl _) _).setCell (Nat.le_refl _) _)
        case measure => simp [intOf]; omega
    · obtain rfl : k = l.length := by omega
      have hrow' : Hid (wr.rowIs w.heap.size 126 (l.length * 3) (cv l)) := hrow.congr (fun j hj => by simp [hj])
      have hbel' : Hid (Below w.heap.size w wr) := hbel
      clear hrow hbel
      go_wp2_with fail
      go_ret
      exact ⟨_, rfl, Nat.le_refl _, hrow'.out, hbel'.out⟩
theorem keep {w w' : World} {g i g' i' : Nat} {p0 p1 p2 r0 r1 r2 : Value} (h : Below w.heap.size w w') (c0 : w.cell? ⟨g, i, none⟩ = some p0) (c1 : w.cell? ⟨g, i + 1, none⟩ = some p1) (c2 : w.cell? ⟨g, i + 2, none⟩ = some p2) (d0 : w.cell? ⟨g', i', none⟩ = some r0) (d1 : w.cell? ⟨g', i' + 1, none⟩ = some r1) (d2 : w.cell? ⟨g', i' + 2, none⟩ = some r2) :
    w'.cell? ⟨g, i, none⟩ = some p0 ∧ w'.cell? ⟨g, i + 1, none⟩ = some p1 ∧ w'.cell? ⟨g, i + 2, none⟩ = some p2 ∧ w'.cell? ⟨g', i', none⟩ = some r0 ∧ w'.cell? ⟨g', i' + 1, none⟩ = some r1 ∧ w'.cell? ⟨g', i' + 2, none⟩ = some r2 := by
  have hs : g < w.heap.size := World.block_lt_of_cell? w _ c0
  have hs' : g' < w.heap.size := World.block_lt_of_cell? w _ d0
  exact ⟨by rw [h.cell hs]; exact c0, by rw [h.cell hs]; exact c1, by rw [h.cell hs]; exact c2, by rw [h.cell hs']; exact d0, by rw [h.cell hs']; exact d1, by rw [h.cell hs']; exact d2⟩
set_option maxHeartbeats 4000000 in
theorem eqS (w : World) (a a' : Option Addr) (cap cap' : Nat) (l : List E) (h : Rd w a l) (h' : Rd w a' l) (hn : l.length ≤ 2097152) :
    Calls Tryz.prog 41 #[.slice a l.length cap, .slice a' l.length cap'] w fun e w' => e = .returned (.bool true) ∧ Below w.heap.size w w' := by
  have k1 : Hid (Rd w a l) := h
  have k2 : Hid (Rd w a' l) := h'
  clear h h'
  go_enter Tryz.func41, Tryz.ntmps41
  go_wp2_with fail
  go_loopw [5] (fun i wr => ∃ k : Nat, k ≤ l.length ∧ i = .int .i64 k ∧ Below w.heap.size w wr) (fun i _ => l.length - (intOf i).toNat)
  case atStart => exact ⟨0, Nat.zero_le _, rfl, Below.refl _ _⟩
  case round =>
    obtain ⟨k, hk, rfl, hb⟩ := hrel
    by_cases hlt : k < l.length
    · have hlt' : (k : Int) < (l.length : Int) := by omega
      rcases k1.out.later hb with h0 | ⟨b, off, ha, hc⟩
      · omega
      · rcases k2.out.later hb with h0' | ⟨b', off', ha', hc'⟩
        · omega
        · obtain ⟨c0, c1, c2⟩ := hc k hlt
          obtain ⟨d0, d1, d2⟩ := hc' k hlt
          subst ha ha'
          generalize f0At l k = x0 at *
          generalize f1At l k = x1 at *
          generalize f2At l k = x2 at *
          have hb' : Hid (Below w.heap.size w wr) := hb
          clear hb hc hc'
          go_wp2_with fail
          go_region_held (fun w' => w'.cell? ⟨b, off + k * 3, none⟩ = some (.string (x0)) ∧ w'.cell? ⟨b, off + k * 3 + 1, none⟩ = some (.string (x1)) ∧ w'.cell? ⟨b, off + k * 3 + 2, none⟩ = some (.int .i64 (x2)) ∧ w'.cell? ⟨b', off' + k * 3, none⟩ = some (.string (x0)) ∧ w'.cell? ⟨b', off' + k * 3 + 1, none⟩ = some (.string (x1)) ∧ w'.cell? ⟨b', off' + k * 3 + 2, none⟩ = some (.int .i64 (x2))) (go_keep)
            (first | (go_at_call 83; refine (eq1 _ _ _ _).mono ?_; rintro e w2 ⟨rfl, b2⟩; obtain ⟨s0, s1, s2, t0, t1, t2⟩ := keep b2 c0 c1 c2 d0 d1 d2))
          go_wp2_with fail
          go_roundw
          case rel => exact ⟨k + 1, by omega, by go_num, hb'.out.drew.trans (b2.mono hb'.out.size)⟩
          case measure => simp [intOf]; omega
    · obtain rfl : k = l.length := by omega
      have hb' : Hid (Below w.heap.size w wr) := hb
      clear hb
      go_wp2_with fail
      go_ret
      exact ⟨rfl, hb'.out⟩
end Go.Proofs.YtajlkdidjelpeaaGreatDoor.MemImport
namespace Go.Proofs.YtajlkdidjelpeaaGreatDoor.MemExport
open Go.RowKit InsMem

abbrev E := ByteArray × Int × Int
def f0At (l : List E) (k : Nat) : ByteArray := (l.getD k ((⟨#[]⟩ : ByteArray), 0, 0)).1
def f1At (l : List E) (k : Nat) : Int := (l.getD k ((⟨#[]⟩ : ByteArray), 0, 0)).2.1
def f2At (l : List E) (k : Nat) : Int := (l.getD k ((⟨#[]⟩ : ByteArray), 0, 0)).2.2
/-- A slice of them that can be read. -/
def Rd (w : World) (a : Option Addr) (l : List E) : Prop :=
  l.length = 0 ∨ ∃ b off, a = some ⟨b, off, none⟩ ∧ ∀ j, j < l.length → w.cell? ⟨b, off + j * 3, none⟩ = some (.string (f0At l j)) ∧ w.cell? ⟨b, off + j * 3 + 1, none⟩ = some (.int .i64 (f1At l j)) ∧ w.cell? ⟨b, off + j * 3 + 2, none⟩ = some (.int .i64 (f2At l j))
theorem Rd.later {w w' : World} {a : Option Addr} {l : List E} (h : Rd w a l) (hb : Below w.heap.size w w') : Rd w' a l := by
  rcases h with h | ⟨b, off, ha, hc⟩
  · exact .inl h
  · refine .inr ⟨b, off, ha, fun j hj => ?_⟩
    obtain ⟨c0, c1, c2⟩ := hc j hj
    have hs : b < w.heap.size := World.block_lt_of_cell? w _ c0
    exact ⟨by rw [hb.cell hs]; exact c0, by rw [hb.cell hs]; exact c1, by rw [hb.cell hs]; exact c2⟩
theorem to1 (x0 : ByteArray) (x1 : Int) (x2 : Int) (w : World) :
    Calls Tryz.prog 75 #[.agg #[.string (x0), .int .i64 (x1), .int .i64 (x2)]] w fun e w' => e = .returned (.agg #[.string (x0), .int .i64 (x1), .int .i64 (x2)]) ∧ Below w.heap.size w w' := by
  go_enter Tryz.func75, Tryz.ntmps75
  go_wp2_with fail
  refine bodyPost_ret ?_ rfl ⟨rfl, ?_⟩
  · simp [results, go_sem]
  · exact (((Below.refl _ _).alloc (Nat.le_refl _) _).alloc (by simp) _).alloc (by simp; omega) _
theorem eq1 (x0 : ByteArray) (x1 : Int) (x2 : Int) (w : World) :
    Calls Tryz.prog 86 #[.agg #[.string (x0), .int .i64 (x1), .int .i64 (x2)], .agg #[.string (x0), .int .i64 (x1), .int .i64 (x2)]] w fun e w' => e = .returned (.bool true) ∧ Below w.heap.size w w' := by
  go_enter Tryz.func86, Tryz.ntmps86
  go_wp2_with fail
  go_ret
  exact ⟨rfl, ((Below.refl _ _).alloc (Nat.le_refl _) _).alloc (by simp) _⟩
def cv (l : List E) (j : Nat) : Value := if j % 3 = 0 then .string (f0At l (j / 3)) else if j % 3 = 1 then .int .i64 (f1At l (j / 3)) else .int .i64 (f2At l (j / 3))
def zv (j : Nat) : Value := if j % 3 = 0 then .string ⟨#[]⟩ else if j % 3 = 1 then .int .i64 0 else .int .i64 0
theorem cv0 (l : List E) (k : Nat) : cv l (k * 3) = .string (f0At l k) := by unfold cv; rw [if_pos (by omega), show (k * 3) / 3 = k by omega]
theorem cv1 (l : List E) (k : Nat) : cv l (k * 3 + 1) = .int .i64 (f1At l k) := by unfold cv; rw [if_neg (by omega), if_pos (by omega), show (k * 3 + 1) / 3 = k by omega]
theorem cv2 (l : List E) (k : Nat) : cv l (k * 3 + 2) = .int .i64 (f2At l k) := by unfold cv; rw [if_neg (by omega), if_neg (by omega), show (k * 3 + 2) / 3 = k by omega]
theorem info : (Tryz.prog.info? 84).map (fun i => (i.zero, i.size, i.bytes)) = some (some (.agg #[.string ⟨#[]⟩, .int .i64 0, .int .i64 0]), 3, 32) := by kernel_rfl
theorem run_mk (m : Nat) (hn : m ≤ 1048576) (w : World) :
    (Instr.makeSlice 36 (.int .i64 (m : Int)) (.int .i64 (m : Int))).run Tryz.prog w = .ok (.slice (some ⟨w.heap.size, 0, none⟩) m m) (w.alloc (.cells (madeCells #[.string ⟨#[]⟩, .int .i64 0, .int .i64 0] (m * 3)) 84)) := by
  obtain ⟨i, hi, hzz⟩ := Option.map_eq_some_iff.1 info
  simp only [Prod.mk.injEq] at hzz
  obtain ⟨hz, hs, hb⟩ := hzz
  have hr := run_make (P := Tryz.prog) w 36 84 i _ Tryz.underlying36 hi hz .i64 .i64 m m (by omega) (Int.le_refl _) (by rw [hb]; omega) (by omega)
  simp only [Int.toNat_natCast, hs] at hr
  exact hr
theorem made (w : World) (m : Nat) : (w.alloc (.cells (madeCells #[.string ⟨#[]⟩, .int .i64 0, .int .i64 0] (m * 3)) 84)).rowIs w.heap.size 84 (m * 3) zv :=
  ⟨madeCells #[.string ⟨#[]⟩, .int .i64 0, .int .i64 0] (m * 3), Deep.blk_alloc_new _ _, size_madeCells _ _, fun i hi => by
    have : i % 3 = 0 ∨ i % 3 = 1 ∨ i % 3 = 2 := by omega
    rcases this with h | h | h <;> simp [madeCells, zv, hi, h]⟩
theorem rd_of_row {w : World} {b : Nat} {l : List E} (h : w.rowIs b 84 (l.length * 3) (cv l)) : Rd w (some ⟨b, 0, none⟩) l := by
  refine .inr ⟨b, 0, rfl, fun j hj => ⟨?_, ?_, ?_⟩⟩
  · rw [Nat.zero_add, h.cell (by omega)]; simp only [cv0]
  · rw [Nat.zero_add, h.cell (by omega)]; simp only [cv1]
  · rw [Nat.zero_add, h.cell (by omega)]; simp only [cv2]
theorem room {w : World} {b m i : Nat} {t : TypeId} {f : Nat → Value} (h : w.rowIs b t m f) (hi : i + 3 ≤ m) (v0 v1 : Value) :
    (∃ x, (w).cell? ⟨b, i, none⟩ = some x) ∧ (∃ x, ((w).setCell ⟨b, i, none⟩ v0).cell? ⟨b, i + 1, none⟩ = some x) ∧ (∃ x, (((w).setCell ⟨b, i, none⟩ v0).setCell ⟨b, i + 1, none⟩ v1).cell? ⟨b, i + 2, none⟩ = some x) ∧ (w).frozen? ⟨b, i, none⟩ = false ∧ ((w).setCell ⟨b, i, none⟩ v0).frozen? ⟨b, i + 1, none⟩ = false ∧ (((w).setCell ⟨b, i, none⟩ v0).setCell ⟨b, i + 1, none⟩ v1).frozen? ⟨b, i + 2, none⟩ = false :=
  ⟨⟨_, (h).cell (by omega)⟩, ⟨_, ((h).set (i) v0).cell (by omega)⟩, ⟨_, (((h).set (i) v0).set (i + 1) v1).cell (by omega)⟩, (h).frozen _, ((h).set (i) v0).frozen _, (((h).set (i) v0).set (i + 1) v1).frozen _⟩
set_option maxHeartbeats 4000000 in
theorem toS (w : World) (a : Option Addr) (cap : Nat) (l : List E) (h : Rd w a l) (hn : l.length ≤ 1048576) :
    Calls Tryz.prog 36 #[.slice a l.length cap] w fun e w' => ∃ b, e = .returned (.slice (some ⟨b, 0, none⟩) l.length l.length) ∧ w.heap.size ≤ b ∧ w'.rowIs b 84 (l.length * 3) (cv l) ∧ Below w.heap.size w w' := by
  have hmk := run_mk l.length hn
  have h' : Hid (Rd w a l) := h
  clear h
  go_enter Tryz.func36, Tryz.ntmps36
  go_wp2_with fail
  clear hmk
  go_loopw [4] (fun i wr => ∃ k : Nat, k ≤ l.length ∧ i = .int .i64 k ∧ wr.rowIs w.heap.size 84 (l.length * 3) (fun j => if j < k * 3 then cv l j else zv j) ∧ Below w.heap.size w wr) (fun i _ => l.length - (intOf i).toNat)
  case atStart => exact ⟨0, Nat.zero_le _, rfl, (made w l.length).congr (fun i hi => by simp), (Below.refl _ _).alloc (Nat.le_refl _) _⟩
  case round =>
    obtain ⟨k, hk, rfl, hrow, hbel⟩ := hrel
    by_cases hlt : k < l.length
    · have hlt' : (k : Int) < (l.length : Int) := by omega
      rcases h'.out with h0 | ⟨b, off, ha, hc⟩
      · omega
      · obtain ⟨c0, c1, c2⟩ := hc k hlt
        have hbb : b < w.heap.size := World.block_lt_of_cell? w _ c0
        rw [← hbel.cell hbb] at c0 c1 c2
        clear hc
        subst ha
        have e0 := cv0 l k
        have e1 := cv1 l k
        have e2 := cv2 l k
        generalize f0At l k = x0 at *
        generalize f1At l k = x1 at *
        generalize f2At l k = x2 at *
        have hrow' : Hid (wr.rowIs w.heap.size 84 (l.length * 3) (fun j => if j < k * 3 then cv l j else zv j)) := hrow
        have hbel' : Hid (Below w.heap.size w wr) := hbel
        clear hrow hbel
        go_wp2_with (go_at_call 75; refine (to1 _ _ _ _).mono ?_; rintro e w1 ⟨rfl, b1⟩; have hr1 : Hid (w1.rowIs w.heap.size 84 (l.length * 3) (fun j => if j < k * 3 then cv l j else zv j)) := row_later hrow'.out b1; obtain ⟨⟨y0, q0⟩, ⟨y1, q1⟩, ⟨y2, q2⟩, g0, g1, g2⟩ := room hr1.out (i := k * 3) (by omega) (.string (x0)) (.int .i64 (x1)))
        go_roundw
        case rel =>
          refine ⟨k + 1, by omega, by go_num, ((((hr1.out.set (k * 3) (.string (x0))).set (k * 3 + 1) (.int .i64 (x1))).set (k * 3 + 2) (.int .i64 (x2))).congr fun j hj => ?_), ?_⟩
          · by_cases z2 : j = k * 3 + 2
            · rw [if_pos z2, if_pos (by omega), z2, e2]
            · rw [if_neg z2]
              by_cases z1 : j = k * 3 + 1
              · rw [if_pos z1, if_pos (by omega), z1, e1]
              · rw [if_neg z1]
                by_cases z0 : j = k * 3
                · rw [if_pos z0, if_pos (by omega), z0, e0]
                · rw [if_neg z0]
                  by_cases z9 : j < k * 3
                  · rw [if_pos z9, if_pos (by omega)]
                  · rw [if_neg z9, if_neg (by omega)]
          · exact ((((hbel'.out.trans (b1.mono hbel'.out.size)).setCell (Nat.le_refl _) _).setCell (Nat.le_refl _) _).setCell (Nat.le_refl _) _)
        case measure => simp [intOf]; omega
    · obtain rfl : k = l.length := by omega
      have hrow' : Hid (wr.rowIs w.heap.size 84 (l.length * 3) (cv l)) := hrow.congr (fun j hj => by simp [hj])
      have hbel' : Hid (Below w.heap.size w wr) := hbel
      clear hrow hbel
      go_wp2_with fail
      go_ret
      exact ⟨_, rfl, Nat.le_refl _, hrow'.out, hbel'.out⟩
theorem keep {w w' : World} {g i g' i' : Nat} {p0 p1 p2 r0 r1 r2 : Value} (h : Below w.heap.size w w') (c0 : w.cell? ⟨g, i, none⟩ = some p0) (c1 : w.cell? ⟨g, i + 1, none⟩ = some p1) (c2 : w.cell? ⟨g, i + 2, none⟩ = some p2) (d0 : w.cell? ⟨g', i', none⟩ = some r0) (d1 : w.cell? ⟨g', i' + 1, none⟩ = some r1) (d2 : w.cell? ⟨g', i' + 2, none⟩ = some r2) :
    w'.cell? ⟨g, i, none⟩ = some p0 ∧ w'.cell? ⟨g, i + 1, none⟩ = some p1 ∧ w'.cell? ⟨g, i + 2, none⟩ = some p2 ∧ w'.cell? ⟨g', i', none⟩ = some r0 ∧ w'.cell? ⟨g', i' + 1, none⟩ = some r1 ∧ w'.cell? ⟨g', i' + 2, none⟩ = some r2 := by
  have hs : g < w.heap.size := World.block_lt_of_cell? w _ c0
  have hs' : g' < w.heap.size := World.block_lt_of_cell? w _ d0
  exact ⟨by rw [h.cell hs]; exact c0, by rw [h.cell hs]; exact c1, by rw [h.cell hs]; exact c2, by rw [h.cell hs']; exact d0, by rw [h.cell hs']; exact d1, by rw [h.cell hs']; exact d2⟩
set_option maxHeartbeats 4000000 in
theorem eqS (w : World) (a a' : Option Addr) (cap cap' : Nat) (l : List E) (h : Rd w a l) (h' : Rd w a' l) (hn : l.length ≤ 2097152) :
    Calls Tryz.prog 44 #[.slice a l.length cap, .slice a' l.length cap'] w fun e w' => e = .returned (.bool true) ∧ Below w.heap.size w w' := by
  have k1 : Hid (Rd w a l) := h
  have k2 : Hid (Rd w a' l) := h'
  clear h h'
  go_enter Tryz.func44, Tryz.ntmps44
  go_wp2_with fail
  go_loopw [5] (fun i wr => ∃ k : Nat, k ≤ l.length ∧ i = .int .i64 k ∧ Below w.heap.size w wr) (fun i _ => l.length - (intOf i).toNat)
  case atStart => exact ⟨0, Nat.zero_le _, rfl, Below.refl _ _⟩
  case round =>
    obtain ⟨k, hk, rfl, hb⟩ := hrel
    by_cases hlt : k < l.length
    · have hlt' : (k : Int) < (l.length : Int) := by omega
      rcases k1.out.later hb with h0 | ⟨b, off, ha, hc⟩
      · omega
      · rcases k2.out.later hb with h0' | ⟨b', off', ha', hc'⟩
        · omega
        · obtain ⟨c0, c1, c2⟩ := hc k hlt
          obtain ⟨d0, d1, d2⟩ := hc' k hlt
          subst ha ha'
          generalize f0At l k = x0 at *
          generalize f1At l k = x1 at *
          generalize f2At l k = x2 at *
          have hb' : Hid (Below w.heap.size w wr) := hb
          clear hb hc hc'
          go_wp2_with fail
          go_region_held (fun w' => w'.cell? ⟨b, off + k * 3, none⟩ = some (.string (x0)) ∧ w'.cell? ⟨b, off + k * 3 + 1, none⟩ = some (.int .i64 (x1)) ∧ w'.cell? ⟨b, off + k * 3 + 2, none⟩ = some (.int .i64 (x2)) ∧ w'.cell? ⟨b', off' + k * 3, none⟩ = some (.string (x0)) ∧ w'.cell? ⟨b', off' + k * 3 + 1, none⟩ = some (.int .i64 (x1)) ∧ w'.cell? ⟨b', off' + k * 3 + 2, none⟩ = some (.int .i64 (x2))) (go_keep)
            (first | (go_at_call 86; refine (eq1 _ _ _ _).mono ?_; rintro e w2 ⟨rfl, b2⟩; obtain ⟨s0, s1, s2, t0, t1, t2⟩ := keep b2 c0 c1 c2 d0 d1 d2))
          go_wp2_with fail
          go_roundw
          case rel => exact ⟨k + 1, by omega, by go_num, hb'.out.drew.trans (b2.mono hb'.out.size)⟩
          case measure => simp [intOf]; omega
    · obtain rfl : k = l.length := by omega
      have hb' : Hid (Below w.heap.size w wr) := hb
      clear hb
      go_wp2_with fail
      go_ret
      exact ⟨rfl, hb'.out⟩
end Go.Proofs.YtajlkdidjelpeaaGreatDoor.MemExport
namespace Go.Proofs.YtajlkdidjelpeaaGreatDoor.ModSz
open Go.RowKit InsMem
theorem szInsS (a : Option Addr) (n cap : Nat) (left : Int) (w : World) (hn : n ≤ 9223372036854775807) (h0 : 0 ≤ left) (h1 : left ≤ 1048576) :
    Calls Tryz.prog 104 #[.slice a n cap, .int .i64 left] w fun e w' => e = .returned (.int .i64 (if (n : Int) ≤ left then left - (n : Int) else -1)) ∧ w = w' := by
  by_cases h : (n : Int) ≤ left
  · rw [if_pos h]
    have h' : ¬ left - (n : Int) < 0 := by omega
    go_enter Tryz.func104, Tryz.ntmps104
    go_wp2_with fail
    all_goals (go_ret; exact ⟨rfl, rfl⟩)
  · rw [if_neg h]
    have h' : left - (n : Int) < 0 := by omega
    go_enter Tryz.func104, Tryz.ntmps104
    go_wp2_with fail
    all_goals (go_ret; exact ⟨rfl, rfl⟩)
theorem szSigS (a : Option Addr) (n cap : Nat) (left : Int) (w : World) (hn : n ≤ 9223372036854775807) (h0 : 0 ≤ left) (h1 : left ≤ 1048576) :
    Calls Tryz.prog 22 #[.slice a n cap, .int .i64 left] w fun e w' => e = .returned (.int .i64 (if (n : Int) ≤ left then left - (n : Int) else -1)) ∧ w = w' := by
  by_cases h : (n : Int) ≤ left
  · rw [if_pos h]
    have h' : ¬ left - (n : Int) < 0 := by omega
    go_enter Tryz.func22, Tryz.ntmps22
    go_wp2_with fail
    all_goals (go_ret; exact ⟨rfl, rfl⟩)
  · rw [if_neg h]
    have h' : left - (n : Int) < 0 := by omega
    go_enter Tryz.func22, Tryz.ntmps22
    go_wp2_with fail
    all_goals (go_ret; exact ⟨rfl, rfl⟩)
theorem szGlobalS (a : Option Addr) (n cap : Nat) (left : Int) (w : World) (hn : n ≤ 9223372036854775807) (h0 : 0 ≤ left) (h1 : left ≤ 1048576) :
    Calls Tryz.prog 25 #[.slice a n cap, .int .i64 left] w fun e w' => e = .returned (.int .i64 (if (n : Int) ≤ left then left - (n : Int) else -1)) ∧ w = w' := by
  by_cases h : (n : Int) ≤ left
  · rw [if_pos h]
    have h' : ¬ left - (n : Int) < 0 := by omega
    go_enter Tryz.func25, Tryz.ntmps25
    go_wp2_with fail
    all_goals (go_ret; exact ⟨rfl, rfl⟩)
  · rw [if_neg h]
    have h' : left - (n : Int) < 0 := by omega
    go_enter Tryz.func25, Tryz.ntmps25
    go_wp2_with fail
    all_goals (go_ret; exact ⟨rfl, rfl⟩)
theorem szByteS (a : Option Addr) (n cap : Nat) (left : Int) (w : World) (hn : n ≤ 9223372036854775807) (h0 : 0 ≤ left) (h1 : left ≤ 1048576) :
    Calls Tryz.prog 105 #[.slice a n cap, .int .i64 left] w fun e w' => e = .returned (.int .i64 (if (n : Int) ≤ left then left - (n : Int) else -1)) ∧ w = w' := by
  by_cases h : (n : Int) ≤ left
  · rw [if_pos h]
    have h' : ¬ left - (n : Int) < 0 := by omega
    go_enter Tryz.func105, Tryz.ntmps105
    go_wp2_with fail
    all_goals (go_ret; exact ⟨rfl, rfl⟩)
  · rw [if_neg h]
    have h' : left - (n : Int) < 0 := by omega
    go_enter Tryz.func105, Tryz.ntmps105
    go_wp2_with fail
    all_goals (go_ret; exact ⟨rfl, rfl⟩)
theorem szImport (x0 : ByteArray) (x1 : ByteArray) (x2 : Int) (left : Int) (w : World) (z0 : x0.size ≤ 9223372036854775807) (z1 : x1.size ≤ 9223372036854775807) (h0 : 0 ≤ left) (h1 : left ≤ 1048576) :
    Calls Tryz.prog 60 #[.agg #[.string x0, .string x1, .int .i64 x2], .int .i64 left] w fun e w' => ∃ r : Int, e = .returned (.int .i64 r) ∧ r ≤ left ∧ -1 ≤ r ∧ (0 ≤ r → (x0.size : Int) ≤ left ∧ (x1.size : Int) ≤ left) ∧ Below w.heap.size w w' := by
  by_cases a0 : (x0.size : Int) ≤ left
  · have n0 : ¬ left - (x0.size : Int) < 0 := by omega
    by_cases a1 : (x1.size : Int) ≤ left - (x0.size : Int)
    · have n1 : ¬ left - (x0.size : Int) - (x1.size : Int) < 0 := by omega
      go_enter Tryz.func60, Tryz.ntmps60
      go_wp2_with fail
      go_ret
      exact ⟨_, rfl, by omega, by omega, fun _ => by omega, (Below.refl _ _).alloc (Nat.le_refl _) _⟩
    · have n1 : left - (x0.size : Int) - (x1.size : Int) < 0 := by omega
      go_enter Tryz.func60, Tryz.ntmps60
      go_wp2_with fail
      go_ret
      exact ⟨-1, rfl, by omega, by omega, fun h => by omega, (Below.refl _ _).alloc (Nat.le_refl _) _⟩
  · have n0 : left - (x0.size : Int) < 0 := by omega
    go_enter Tryz.func60, Tryz.ntmps60
    go_wp2_with fail
    go_ret
    exact ⟨-1, rfl, by omega, by omega, fun h => by omega, (Below.refl _ _).alloc (Nat.le_refl _) _⟩
set_option maxHeartbeats 4000000 in
theorem szImportS (w : World) (a : Option Addr) (cap : Nat) (l : List MemImport.E) (left : Int) (h : MemImport.Rd w a l) (hn : l.length ≤ 9223372036854775807) (hz : ∀ j, j < l.length → (MemImport.f0At l j).size ≤ 9223372036854775807 ∧ (MemImport.f1At l j).size ≤ 9223372036854775807) (h0 : 0 ≤ left) (h1 : left ≤ 1048576) :
    Calls Tryz.prog 23 #[.slice a l.length cap, .int .i64 left] w fun e w' => ∃ r : Int, e = .returned (.int .i64 r) ∧ r ≤ left ∧ -1 ≤ r ∧ (0 ≤ r → (l.length : Int) ≤ left ∧ ∀ j, j < l.length → ((MemImport.f0At l j).size : Int) ≤ 1048576 ∧ ((MemImport.f1At l j).size : Int) ≤ 1048576) ∧ Below w.heap.size w w' := by
  by_cases hle : (l.length : Int) ≤ left
  · have h' : ¬ left - (l.length : Int) < 0 := by omega
    have k1 : Hid (MemImport.Rd w a l) := h
    have hz' : Hid (∀ j, j < l.length → (MemImport.f0At l j).size ≤ 9223372036854775807 ∧ (MemImport.f1At l j).size ≤ 9223372036854775807) := hz
    clear h hz
    go_enter Tryz.func23, Tryz.ntmps23
    go_wp2_with fail
    go_loopw [1, 5] (fun vl i wr => ∃ (k : Nat) (lf : Int), k ≤ l.length ∧ i = .int .i64 k ∧ vl = .int .i64 lf ∧ 0 ≤ lf ∧ lf ≤ left ∧ (∀ j, j < k → ((MemImport.f0At l j).size : Int) ≤ 1048576 ∧ ((MemImport.f1At l j).size : Int) ≤ 1048576) ∧ Below w.heap.size w wr) (fun _ i _ => l.length - (intOf i).toNat)
    case atStart => exact ⟨0, left - (l.length : Int), Nat.zero_le _, rfl, rfl, by omega, by omega, fun j hj => by omega, Below.refl _ _⟩
    case round =>
      obtain ⟨k, lf, hk, rfl, rfl, l0, l1, hall, hb⟩ := hrel
      have hall' : Hid (∀ j, j < k → ((MemImport.f0At l j).size : Int) ≤ 1048576 ∧ ((MemImport.f1At l j).size : Int) ≤ 1048576) := hall
      by_cases hlt : k < l.length
      · have hlt' : (k : Int) < (l.length : Int) := by omega
        rcases k1.out.later hb with h0' | ⟨b, off, ha, hc⟩
        · omega
        · obtain ⟨c0, c1, c2⟩ := hc k hlt
          have hzk := hz'.out k hlt
          subst ha
          have hs : Hid (∀ u, Calls Tryz.prog 60 #[.agg #[.string (MemImport.f0At l k), .string (MemImport.f1At l k), .int .i64 (MemImport.f2At l k)], .int .i64 lf] u fun e w' => ∃ r : Int, e = .returned (.int .i64 r) ∧ r ≤ lf ∧ -1 ≤ r ∧ (0 ≤ r → ((MemImport.f0At l k).size : Int) ≤ lf ∧ ((MemImport.f1At l k).size : Int) ≤ lf) ∧ Below u.heap.size u w') := fun u => szImport (MemImport.f0At l k) (MemImport.f1At l k) (MemImport.f2At l k) lf u hzk.1 hzk.2 l0 (by omega)
          have hb' : Hid (Below w.heap.size w wr) := hb
          clear hb hc hall
          have hstep : Hid (∀ r : Int, 0 ≤ r → (((MemImport.f0At l k).size : Int) ≤ lf ∧ ((MemImport.f1At l k).size : Int) ≤ lf) → ∀ j, j < k + 1 → ((MemImport.f0At l j).size : Int) ≤ 1048576 ∧ ((MemImport.f1At l j).size : Int) ≤ 1048576) := fun r _ hbd j hj => by
            by_cases e : j = k
            · subst e; omega
            · exact hall'.out j (by omega)
          generalize MemImport.f0At l k = x0 at *
          generalize MemImport.f1At l k = x1 at *
          generalize MemImport.f2At l k = x2 at *
          go_wp2_with (go_at_call 60; refine (hs.out _).mono ?_; rintro e w2 ⟨r, rfl, r1, r2, r3, b2⟩)
          · go_ret
            exact ⟨-1, rfl, by omega, by omega, fun h => by omega, hb'.out.trans (b2.mono hb'.out.size)⟩
          · go_roundw
            case rel => exact ⟨k + 1, r, by omega, by go_num, rfl, by omega, by omega, hstep.out r (by omega) (r3 (by omega)), hb'.out.trans (b2.mono hb'.out.size)⟩
            case measure => simp [intOf]; omega
      · obtain rfl : k = l.length := by omega
        have hb' : Hid (Below w.heap.size w wr) := hb
        clear hb hall
        go_wp2_with fail
        go_ret
        exact ⟨lf, rfl, by omega, by omega, fun _ => ⟨hle, hall'.out⟩, hb'.out⟩
  · have h' : left - (l.length : Int) < 0 := by omega
    clear h hz
    go_enter Tryz.func23, Tryz.ntmps23
    go_wp2_with fail
    go_ret
    exact ⟨-1, rfl, by omega, by omega, fun h => by omega, Below.refl _ _⟩
theorem szExport (x0 : ByteArray) (x1 : Int) (x2 : Int) (left : Int) (w : World) (z0 : x0.size ≤ 9223372036854775807) (h0 : 0 ≤ left) (h1 : left ≤ 1048576) :
    Calls Tryz.prog 62 #[.agg #[.string x0, .int .i64 x1, .int .i64 x2], .int .i64 left] w fun e w' => ∃ r : Int, e = .returned (.int .i64 r) ∧ r ≤ left ∧ -1 ≤ r ∧ (0 ≤ r → (x0.size : Int) ≤ left) ∧ Below w.heap.size w w' := by
  by_cases a0 : (x0.size : Int) ≤ left
  · have n0 : ¬ left - (x0.size : Int) < 0 := by omega
    go_enter Tryz.func62, Tryz.ntmps62
    go_wp2_with fail
    go_ret
    first | exact ⟨_, rfl, by omega, by omega, fun _ => by omega, (Below.refl _ _).alloc (Nat.le_refl _) _⟩ | exact ⟨_, rfl, by omega, by omega, (Below.refl _ _).alloc (Nat.le_refl _) _⟩
  · have n0 : left - (x0.size : Int) < 0 := by omega
    go_enter Tryz.func62, Tryz.ntmps62
    go_wp2_with fail
    go_ret
    exact ⟨-1, rfl, by omega, by omega, fun h => by omega, (Below.refl _ _).alloc (Nat.le_refl _) _⟩
set_option maxHeartbeats 4000000 in
theorem szExportS (w : World) (a : Option Addr) (cap : Nat) (l : List MemExport.E) (left : Int) (h : MemExport.Rd w a l) (hn : l.length ≤ 9223372036854775807) (hz : ∀ j, j < l.length → (MemExport.f0At l j).size ≤ 9223372036854775807) (h0 : 0 ≤ left) (h1 : left ≤ 1048576) :
    Calls Tryz.prog 26 #[.slice a l.length cap, .int .i64 left] w fun e w' => ∃ r : Int, e = .returned (.int .i64 r) ∧ r ≤ left ∧ -1 ≤ r ∧ (0 ≤ r → (l.length : Int) ≤ left ∧ ∀ j, j < l.length → ((MemExport.f0At l j).size : Int) ≤ 1048576) ∧ Below w.heap.size w w' := by
  by_cases hle : (l.length : Int) ≤ left
  · have h' : ¬ left - (l.length : Int) < 0 := by omega
    have k1 : Hid (MemExport.Rd w a l) := h
    have hz' : Hid (∀ j, j < l.length → (MemExport.f0At l j).size ≤ 9223372036854775807) := hz
    clear h hz
    go_enter Tryz.func26, Tryz.ntmps26
    go_wp2_with fail
    go_loopw [1, 5] (fun vl i wr => ∃ (k : Nat) (lf : Int), k ≤ l.length ∧ i = .int .i64 k ∧ vl = .int .i64 lf ∧ 0 ≤ lf ∧ lf ≤ left ∧ (∀ j, j < k → ((MemExport.f0At l j).size : Int) ≤ 1048576) ∧ Below w.heap.size w wr) (fun _ i _ => l.length - (intOf i).toNat)
    case atStart => exact ⟨0, left - (l.length : Int), Nat.zero_le _, rfl, rfl, by omega, by omega, fun j hj => by omega, Below.refl _ _⟩
    case round =>
      obtain ⟨k, lf, hk, rfl, rfl, l0, l1, hall, hb⟩ := hrel
      have hall' : Hid (∀ j, j < k → ((MemExport.f0At l j).size : Int) ≤ 1048576) := hall
      by_cases hlt : k < l.length
      · have hlt' : (k : Int) < (l.length : Int) := by omega
        rcases k1.out.later hb with h0' | ⟨b, off, ha, hc⟩
        · omega
        · obtain ⟨c0, c1, c2⟩ := hc k hlt
          have hzk := hz'.out k hlt
          subst ha
          have hs : Hid (∀ u, Calls Tryz.prog 62 #[.agg #[.string (MemExport.f0At l k), .int .i64 (MemExport.f1At l k), .int .i64 (MemExport.f2At l k)], .int .i64 lf] u fun e w' => ∃ r : Int, e = .returned (.int .i64 r) ∧ r ≤ lf ∧ -1 ≤ r ∧ (0 ≤ r → ((MemExport.f0At l k).size : Int) ≤ lf) ∧ Below u.heap.size u w') := fun u => szExport (MemExport.f0At l k) (MemExport.f1At l k) (MemExport.f2At l k) lf u hzk l0 (by omega)
          have hb' : Hid (Below w.heap.size w wr) := hb
          clear hb hc hall
          have hstep : Hid (∀ r : Int, 0 ≤ r → (((MemExport.f0At l k).size : Int) ≤ lf) → ∀ j, j < k + 1 → ((MemExport.f0At l j).size : Int) ≤ 1048576) := fun r _ hbd j hj => by
            by_cases e : j = k
            · subst e; omega
            · exact hall'.out j (by omega)
          generalize MemExport.f0At l k = x0 at *
          generalize MemExport.f1At l k = x1 at *
          generalize MemExport.f2At l k = x2 at *
          go_wp2_with (go_at_call 62; refine (hs.out _).mono ?_; rintro e w2 ⟨r, rfl, r1, r2, r3, b2⟩)
          · go_ret
            exact ⟨-1, rfl, by omega, by omega, fun h => by omega, hb'.out.trans (b2.mono hb'.out.size)⟩
          · go_roundw
            case rel => exact ⟨k + 1, r, by omega, by go_num, rfl, by omega, by omega, hstep.out r (by omega) (r3 (by omega)), hb'.out.trans (b2.mono hb'.out.size)⟩
            case measure => simp [intOf]; omega
      · obtain rfl : k = l.length := by omega
        have hb' : Hid (Below w.heap.size w wr) := hb
        clear hb hall
        go_wp2_with fail
        go_ret
        exact ⟨lf, rfl, by omega, by omega, fun _ => ⟨hle, hall'.out⟩, hb'.out⟩
  · have h' : left - (l.length : Int) < 0 := by omega
    clear h hz
    go_enter Tryz.func26, Tryz.ntmps26
    go_wp2_with fail
    go_ret
    exact ⟨-1, rfl, by omega, by omega, fun h => by omega, Below.refl _ _⟩
end Go.Proofs.YtajlkdidjelpeaaGreatDoor.ModSz
namespace Go.Proofs.YtajlkdidjelpeaaGreatDoor.MemFunc
open Go.RowKit PlainShape InsMem

structure E where
  sig : Int
  loc : Int
  ad : Option Addr
  cp : Nat
  body : List I3
def dE : E := ⟨0, 0, none, 0, []⟩
def at1 (l : List E) (k : Nat) : E := l.getD k dE
/-- A slice of functions that can be read, bodies too. -/
def Rd (w : World) (a : Option Addr) (l : List E) : Prop :=
  l.length = 0 ∨ ∃ b off, a = some ⟨b, off, none⟩ ∧ ∀ j, j < l.length → w.cell? ⟨b, off + j * 3, none⟩ = some (.int .i64 (at1 l j).sig) ∧ w.cell? ⟨b, off + j * 3 + 1, none⟩ = some (.int .i64 (at1 l j).loc) ∧ w.cell? ⟨b, off + j * 3 + 2, none⟩ = some (.slice (at1 l j).ad (at1 l j).body.length (at1 l j).cp) ∧ RdI w (at1 l j).ad (at1 l j).body
theorem Rd.later {w w' : World} {a : Option Addr} {l : List E} (h : Rd w a l) (hb : Below w.heap.size w w') : Rd w' a l := by
  rcases h with h | ⟨b, off, ha, hc⟩
  · exact .inl h
  · refine .inr ⟨b, off, ha, fun j hj => ?_⟩
    obtain ⟨c0, c1, c2, hr⟩ := hc j hj
    have hs : b < w.heap.size := World.block_lt_of_cell? w _ c0
    exact ⟨by rw [hb.cell hs]; exact c0, by rw [hb.cell hs]; exact c1, by rw [hb.cell hs]; exact c2, hr.later hb⟩
def R3 (v0 v1 v2 : Value) (j : Nat) : Value := if j = 0 then v0 else if j = 1 then v1 else v2
theorem r3_made (w : World) (v0 v1 v2 : Value) (t : TypeId) : (w.alloc (.cells #[v0, v1, v2] t)).rowIs w.heap.size t 3 (R3 v0 v1 v2) :=
  World.rowIs_alloc w #[v0, v1, v2] t _ (fun i hi => by
    match i, hi with
    | 0, _ => rfl
    | 1, _ => rfl
    | 2, _ => rfl)
theorem r3 {w : World} {b : Nat} {t : TypeId} {v0 v1 v2 : Value} (h : w.rowIs b t 3 (R3 v0 v1 v2)) :
    w.cell? ⟨b, 0, none⟩ = some v0 ∧ w.cell? ⟨b, 1, none⟩ = some v1 ∧ w.cell? ⟨b, 2, none⟩ = some v2 ∧ w.frozen? ⟨b, 0, none⟩ = false ∧ w.frozen? ⟨b, 1, none⟩ = false ∧ w.frozen? ⟨b, 2, none⟩ = false :=
  ⟨h.cell (by omega), h.cell (by omega), h.cell (by omega), h.frozen _, h.frozen _, h.frozen _⟩
theorem s3 {w : World} {r : Nat} {t : TypeId} {f : Nat → Value} (h : w.rowIs r t 3 f) (o a b : Value) :
    (((w.setCell ⟨r, 0, none⟩ o).setCell ⟨r, 1, none⟩ a).setCell ⟨r, 2, none⟩ b).cell? ⟨r, 0, none⟩ = some o ∧
    (((w.setCell ⟨r, 0, none⟩ o).setCell ⟨r, 1, none⟩ a).setCell ⟨r, 2, none⟩ b).cell? ⟨r, 1, none⟩ = some a ∧
    (((w.setCell ⟨r, 0, none⟩ o).setCell ⟨r, 1, none⟩ a).setCell ⟨r, 2, none⟩ b).cell? ⟨r, 2, none⟩ = some b := by
  have h3 := ((h.set 0 o).set 1 a).set 2 b
  refine ⟨?_, ?_, ?_⟩ <;> rw [h3.cell (by omega)] <;> simp
theorem b3 {n r : Nat} {w : World} (hr : n ≤ r) (o a b : Value) : Below n w (((w.setCell ⟨r, 0, none⟩ o).setCell ⟨r, 1, none⟩ a).setCell ⟨r, 2, none⟩ b) :=
  (((Below.refl n w).setCell (p := ⟨r, 0, none⟩) hr o).setCell (p := ⟨r, 1, none⟩) hr a).setCell (p := ⟨r, 2, none⟩) hr b
set_option maxHeartbeats 2000000 in
theorem to1 (s x : Int) (a : Option Addr) (c : Nat) (l : List I3) (w : World) (h : RdI w a l) (hn : l.length ≤ 1048576) :
    Calls Tryz.prog 73 #[.agg #[.int .i64 s, .int .i64 x, .slice a l.length c]] w fun e w' => ∃ g, e = .returned (.agg #[.int .i64 s, .int .i64 x, .slice (some ⟨g, 0, none⟩) l.length l.length]) ∧ w.heap.size ≤ g ∧ RdI w' (some ⟨g, 0, none⟩) l ∧ Below w.heap.size w w' := by
  have h' : Hid (RdI w a l) := h
  clear h
  have ba : Below w.heap.size w (((w.alloc (.cells #[.int .i64 s, .int .i64 x, .slice a l.length c] 106)).alloc (.cells #[.int .i64 0, .int .i64 0, .slice none 0 0] 60)).alloc (.cells #[.int .i64 s, .int .i64 x, .slice none 0 0] 60)) := (((Below.refl _ _).alloc (Nat.le_refl _) _).alloc (by simp) _).alloc (by simp; omega) _
  have ro : Hid ((((w.alloc (.cells #[.int .i64 s, .int .i64 x, .slice a l.length c] 106)).alloc (.cells #[.int .i64 0, .int .i64 0, .slice none 0 0] 60)).alloc (.cells #[.int .i64 s, .int .i64 x, .slice none 0 0] 60)).rowIs (w.heap.size + 1 + 1) 60 3 (R3 (.int .i64 s) (.int .i64 x) (.slice none 0 0))) := by
    have := r3_made ((w.alloc (.cells #[.int .i64 s, .int .i64 x, .slice a l.length c] 106)).alloc (.cells #[.int .i64 0, .int .i64 0, .slice none 0 0] 60)) (.int .i64 s) (.int .i64 x) (.slice none 0 0) 60
    simp only [World.size_alloc] at this
    exact this
  have rr : Hid ((((w.alloc (.cells #[.int .i64 s, .int .i64 x, .slice a l.length c] 106)).alloc (.cells #[.int .i64 0, .int .i64 0, .slice none 0 0] 60)).alloc (.cells #[.int .i64 s, .int .i64 x, .slice none 0 0] 60)).rowIs (w.heap.size + 1) 60 3 (R3 (.int .i64 0) (.int .i64 0) (.slice none 0 0))) := by
    have := (r3_made (w.alloc (.cells #[.int .i64 s, .int .i64 x, .slice a l.length c] 106)) (.int .i64 0) (.int .i64 0) (.slice none 0 0) 60).alloc (.cells #[.int .i64 s, .int .i64 x, .slice none 0 0] 60)
    simp only [World.size_alloc] at this
    exact this
  go_enter Tryz.func73, Tryz.ntmps73
  go_wp2_with (go_at_call 113; refine (toInsS _ a c l (h'.out.later ba) hn).mono ?_; rintro e w1 ⟨g, rfl, hg, hrow, q1⟩; have ro1 : Hid (w1.rowIs (w.heap.size + 1 + 1) 60 3 (R3 (.int .i64 s) (.int .i64 x) (.slice none 0 0))) := row_later ro.out q1; have rr1 : Hid (w1.rowIs (w.heap.size + 1) 60 3 (R3 (.int .i64 0) (.int .i64 0) (.slice none 0 0))) := row_later rr.out q1; obtain ⟨a0, a1, a2, f0, f1, f2⟩ := r3 ro1.out; obtain ⟨p0, p1, p2, t0, t1, t2⟩ := r3 rr1.out; have hrw : Hid (w1.rowIs g 62 (l.length * 3) (fun j => .int .i64 (cv l j))) := hrow; clear hrow)
  simp only [World.size_alloc] at hg
  obtain ⟨e0, e1, e2⟩ := s3 (rr1.out.setOther (a := ⟨w.heap.size + 1 + 1, 2, none⟩) (by simp) (.slice (some ⟨g, 0, none⟩) l.length l.length)) (.int .i64 s) (.int .i64 x) (.slice (some ⟨g, 0, none⟩) l.length l.length)
  refine bodyPost_ret ?_ rfl ⟨g, rfl, by omega, ?_, ?_⟩
  · simp [results, go_sem, e0, e1, e2]
  · exact rdI_of_row ((((hrw.out.setOther (a := ⟨w.heap.size + 1 + 1, 2, none⟩) (by simp; omega) _).setOther (a := ⟨w.heap.size + 1, 0, none⟩) (by simp; omega) _).setOther (a := ⟨w.heap.size + 1, 1, none⟩) (by simp; omega) _).setOther (a := ⟨w.heap.size + 1, 2, none⟩) (by simp; omega) _)
  · exact (ba.trans (q1.mono ba.size)).trans (((Below.refl _ _).setCell (p := ⟨w.heap.size + 1 + 1, 2, none⟩) (by simp; omega) _).trans (b3 (by omega) _ _ _))
set_option maxHeartbeats 2000000 in
theorem eq1 (s x : Int) (a a' : Option Addr) (c c' : Nat) (l : List I3) (w : World) (h : RdI w a l) (h2 : RdI w a' l) (hn : l.length ≤ 2097152) :
    Calls Tryz.prog 84 #[.agg #[.int .i64 s, .int .i64 x, .slice a l.length c], .agg #[.int .i64 s, .int .i64 x, .slice a' l.length c']] w fun e w' => e = .returned (.bool true) ∧ Below w.heap.size w w' := by
  have ba : Below w.heap.size w ((w.alloc (.cells #[.int .i64 s, .int .i64 x, .slice a l.length c] 60)).alloc (.cells #[.int .i64 s, .int .i64 x, .slice a' l.length c'] 60)) := ((Below.refl _ _).alloc (Nat.le_refl _) _).alloc (by simp) _
  have h1' : Hid (RdI w a l) := h
  have h2' : Hid (RdI w a' l) := h2
  clear h h2
  go_enter Tryz.func84, Tryz.ntmps84
  go_wp2_with (go_at_call 129; refine (eqInsS _ a a' c c' l (h1'.out.later ba) (h2'.out.later ba) hn).mono ?_; rintro e w1 ⟨rfl, q1⟩)
  go_ret
  exact ⟨rfl, ba.trans (q1.mono ba.size)⟩
def cvF (G : Nat → Nat) (l : List E) (j : Nat) : Value := if j % 3 = 0 then .int .i64 (at1 l (j / 3)).sig else if j % 3 = 1 then .int .i64 (at1 l (j / 3)).loc else .slice (some ⟨G (j / 3), 0, none⟩) (at1 l (j / 3)).body.length (at1 l (j / 3)).body.length
def zvF (j : Nat) : Value := if j % 3 = 0 then .int .i64 0 else if j % 3 = 1 then .int .i64 0 else .slice none 0 0
theorem cvF0 (G : Nat → Nat) (l : List E) (k : Nat) : cvF G l (k * 3) = .int .i64 (at1 l k).sig := by unfold cvF; rw [if_pos (by omega), show k * 3 / 3 = k by omega]
theorem cvF1 (G : Nat → Nat) (l : List E) (k : Nat) : cvF G l (k * 3 + 1) = .int .i64 (at1 l k).loc := by unfold cvF; rw [if_neg (by omega), if_pos (by omega), show (k * 3 + 1) / 3 = k by omega]
theorem cvF2 (G : Nat → Nat) (l : List E) (k : Nat) : cvF G l (k * 3 + 2) = .slice (some ⟨G k, 0, none⟩) (at1 l k).body.length (at1 l k).body.length := by unfold cvF; rw [if_neg (by omega), if_neg (by omega), show (k * 3 + 2) / 3 = k by omega]
theorem cvF_upd (G : Nat → Nat) (l : List E) (k g j : Nat) (hj : j < k * 3) : cvF (fun i => if i = k then g else G i) l j = cvF G l j := by
  have : j / 3 ≠ k := by omega
  simp [cvF, this]
theorem infoF : (Tryz.prog.info? 60).map (fun i => (i.zero, i.size, i.bytes)) = some (some (.agg #[.int .i64 0, .int .i64 0, .slice none 0 0]), 3, 40) := by kernel_rfl
theorem run_mkF (m : Nat) (hn : m ≤ 1048576) (w : World) :
    (Instr.makeSlice 34 (.int .i64 (m : Int)) (.int .i64 (m : Int))).run Tryz.prog w = .ok (.slice (some ⟨w.heap.size, 0, none⟩) m m) (w.alloc (.cells (madeCells #[.int .i64 0, .int .i64 0, .slice none 0 0] (m * 3)) 60)) := by
  obtain ⟨i, hi, hzz⟩ := Option.map_eq_some_iff.1 infoF
  simp only [Prod.mk.injEq] at hzz
  obtain ⟨hz, hs, hb⟩ := hzz
  have hr := run_make (P := Tryz.prog) w 34 60 i _ Tryz.underlying34 hi hz .i64 .i64 m m (by omega) (Int.le_refl _) (by rw [hb]; omega) (by omega)
  simp only [Int.toNat_natCast, hs] at hr
  exact hr
theorem madeF (w : World) (m : Nat) : (w.alloc (.cells (madeCells #[.int .i64 0, .int .i64 0, .slice none 0 0] (m * 3)) 60)).rowIs w.heap.size 60 (m * 3) zvF :=
  ⟨madeCells #[.int .i64 0, .int .i64 0, .slice none 0 0] (m * 3), Deep.blk_alloc_new _ _, size_madeCells _ _, fun i hi => by
    have : i % 3 = 0 ∨ i % 3 = 1 ∨ i % 3 = 2 := by omega
    rcases this with h | h | h <;> simp [madeCells, zvF, hi, h]⟩
theorem rdI_other {w : World} {g : Nat} {l : List I3} {p : Addr} (h : RdI w (some ⟨g, 0, none⟩) l) (hne : g ≠ p.block) (v : Value) : RdI (w.setCell p v) (some ⟨g, 0, none⟩) l := by
  rcases h with h | ⟨b, off, ha, hc⟩
  · exact .inl h
  · simp only [Option.some.injEq, Addr.mk.injEq, and_true] at ha
    obtain ⟨rfl, rfl⟩ := ha
    refine .inr ⟨g, 0, rfl, fun j hj => ?_⟩
    obtain ⟨c0, c1, c2⟩ := hc j hj
    have hk : ∀ o, (w.setCell p v).cell? ⟨g, o, none⟩ = w.cell? ⟨g, o, none⟩ := fun o => World.cell?_setCell_other (w := w) (a := p) (b := ⟨g, o, none⟩) (v := v) (fun e => hne (by first | rw [← e] | rw [e]))
    exact ⟨(hk _).trans c0, (hk _).trans c1, (hk _).trans c2⟩
set_option maxRecDepth 20000 in
set_option maxHeartbeats 8000000 in
theorem toS (w : World) (a : Option Addr) (cap : Nat) (l : List E) (h : Rd w a l) (hn : l.length ≤ 1048576) (hbd : ∀ j, j < l.length → (at1 l j).body.length ≤ 1048576) :
    Calls Tryz.prog 34 #[.slice a l.length cap] w fun e w' => ∃ (b : Nat) (G : Nat → Nat), e = .returned (.slice (some ⟨b, 0, none⟩) l.length l.length) ∧ w.heap.size ≤ b ∧ w'.rowIs b 60 (l.length * 3) (cvF G l) ∧ (∀ j, j < l.length → w.heap.size < G j ∧ RdI w' (some ⟨G j, 0, none⟩) (at1 l j).body) ∧ Below w.heap.size w w' := by
  have hmk := run_mkF l.length hn
  have h' : Hid (Rd w a l) := h
  have hbd' : Hid (∀ j, j < l.length → (at1 l j).body.length ≤ 1048576) := hbd
  clear h hbd
  go_enter Tryz.func34, Tryz.ntmps34
  go_wp2_with fail
  clear hmk
  go_loopw [4] (fun i wr => ∃ (k : Nat) (G : Nat → Nat), k ≤ l.length ∧ i = .int .i64 k ∧ wr.rowIs w.heap.size 60 (l.length * 3) (fun j => if j < k * 3 then cvF G l j else zvF j) ∧ (∀ j, j < k → w.heap.size < G j ∧ RdI wr (some ⟨G j, 0, none⟩) (at1 l j).body) ∧ Below w.heap.size w wr) (fun i _ => l.length - (intOf i).toNat)
  case atStart => exact ⟨0, fun _ => 0, Nat.zero_le _, rfl, (madeF w l.length).congr (fun i hi => by simp), fun j hj => by omega, (Below.refl _ _).alloc (Nat.le_refl _) _⟩
  case round =>
    obtain ⟨k, G, hk, rfl, hrow, hG, hbel⟩ := hrel
    have hwl := hrow.lt
    by_cases hlt : k < l.length
    · have hlt' : (k : Int) < (l.length : Int) := by omega
      rcases h'.out.later hbel with h0 | ⟨b, off, ha, hc⟩
      · omega
      · obtain ⟨c0, c1, c2, hrb⟩ := hc k hlt
        subst ha
        have e0 := fun G => cvF0 G l k
        have e1 := fun G => cvF1 G l k
        have e2 := fun G => cvF2 G l k
        have hT : Hid (Calls Tryz.prog 73 #[.agg #[.int .i64 (at1 l k).sig, .int .i64 (at1 l k).loc, .slice (at1 l k).ad (at1 l k).body.length (at1 l k).cp]] wr fun e w' => ∃ g, e = .returned (.agg #[.int .i64 (at1 l k).sig, .int .i64 (at1 l k).loc, .slice (some ⟨g, 0, none⟩) (at1 l k).body.length (at1 l k).body.length]) ∧ wr.heap.size ≤ g ∧ RdI w' (some ⟨g, 0, none⟩) (at1 l k).body ∧ Below wr.heap.size wr w') := to1 _ _ _ _ _ wr hrb (hbd'.out k hlt)
        have e0' : Hid _ := e0
        have e1' : Hid _ := e1
        have e2' : Hid _ := e2
        have hrow' : Hid (wr.rowIs w.heap.size 60 (l.length * 3) (fun j => if j < k * 3 then cvF G l j else zvF j)) := hrow
        have hbel' : Hid (Below w.heap.size w wr) := hbel
        have hG' : Hid (∀ j, j < k → w.heap.size < G j ∧ RdI wr (some ⟨G j, 0, none⟩) (at1 l j).body) := hG
        clear hrow hbel hc hrb hG e0 e1 e2
        generalize hbk : (at1 l k).body = bk at *
        generalize (at1 l k).sig = y0 at *
        generalize (at1 l k).loc = y1 at *
        generalize (at1 l k).ad = y2 at *
        generalize (at1 l k).cp = y3 at *
        have hbk' : Hid ((at1 l k).body = bk) := hbk
        clear hbk
        go_wp2_with (go_at_call 73; refine hT.out.mono ?_; rintro e w1 ⟨g, rfl, hg, hrg, b1⟩; have hr1 : Hid (w1.rowIs w.heap.size 60 (l.length * 3) (fun j => if j < k * 3 then cvF G l j else zvF j)) := row_later hrow'.out b1; obtain ⟨⟨z0, q0⟩, ⟨z1, q1⟩, ⟨z2, q2⟩, g0, g1, g2⟩ := three hr1.out (i := k * 3) (by omega) (.int .i64 y0) (.int .i64 y1); have hrg' : Hid (RdI w1 (some ⟨g, 0, none⟩) bk) := hrg; clear hrg)
        go_roundw
        case rel =>
          refine ⟨k + 1, fun i => if i = k then g else G i, by omega, by go_num, ((((hr1.out.set (k * 3) (.int .i64 y0)).set (k * 3 + 1) (.int .i64 y1)).set (k * 3 + 2) (.slice (some ⟨g, 0, none⟩) bk.length bk.length)).congr fun j hj => ?_), fun j hj => ?_, ?_⟩
          · by_cases z2 : j = k * 3 + 2
            · rw [if_pos z2, if_pos (by omega), z2, e2'.out]; simp
            · rw [if_neg z2]
              by_cases z1 : j = k * 3 + 1
              · rw [if_pos z1, if_pos (by omega), z1, e1'.out]
              · rw [if_neg z1]
                by_cases z0 : j = k * 3
                · rw [if_pos z0, if_pos (by omega), z0, e0'.out]
                · rw [if_neg z0]
                  by_cases z3 : j < k * 3
                  · rw [if_pos z3, if_pos (by omega), cvF_upd G l k g j z3]
                  · rw [if_neg z3, if_neg (by omega)]
          · by_cases ej : j = k
            · subst ej
              rw [hbk'.out]
              simp only [if_true]
              exact ⟨by omega, rdI_other (rdI_other (rdI_other hrg'.out (p := ⟨w.heap.size, _, none⟩) (by simp; omega) _) (p := ⟨w.heap.size, _, none⟩) (by simp; omega) _) (p := ⟨w.heap.size, _, none⟩) (by simp; omega) _⟩
            · obtain ⟨d1, d2⟩ := hG'.out j (by omega)
              simp only [if_neg ej]
              exact ⟨d1, rdI_other (rdI_other (rdI_other (d2.later b1) (p := ⟨w.heap.size, _, none⟩) (by simp; omega) _) (p := ⟨w.heap.size, _, none⟩) (by simp; omega) _) (p := ⟨w.heap.size, _, none⟩) (by simp; omega) _⟩
          · exact (((hbel'.out.trans (b1.mono hbel'.out.size)).setCell (Nat.le_refl _) _).setCell (Nat.le_refl _) _).setCell (Nat.le_refl _) _
        case measure => simp [intOf]; omega
    · obtain rfl : k = l.length := by omega
      have hrow' : Hid (wr.rowIs w.heap.size 60 (l.length * 3) (cvF G l)) := hrow.congr (fun j hj => by simp [hj])
      have hbel' : Hid (Below w.heap.size w wr) := hbel
      have hG' : Hid (∀ j, j < l.length → w.heap.size < G j ∧ RdI wr (some ⟨G j, 0, none⟩) (at1 l j).body) := hG
      clear hrow hbel hG
      go_wp2_with fail
      go_ret
      exact ⟨_, G, rfl, Nat.le_refl _, hrow'.out, hG'.out, hbel'.out⟩
set_option maxRecDepth 20000 in
set_option maxHeartbeats 8000000 in
theorem eqS (w : World) (a a' : Option Addr) (cap cap' : Nat) (l l' : List E) (h : Rd w a l) (h' : Rd w a' l') (hll : l'.length = l.length) (hn : l.length ≤ 2097152)
    (hsame : ∀ j, j < l.length → (at1 l' j).sig = (at1 l j).sig ∧ (at1 l' j).loc = (at1 l j).loc ∧ (at1 l' j).body = (at1 l j).body ∧ (at1 l j).body.length ≤ 2097152) :
    Calls Tryz.prog 42 #[.slice a l.length cap, .slice a' l.length cap'] w fun e w' => e = .returned (.bool true) ∧ Below w.heap.size w w' := by
  have k1 : Hid (Rd w a l) := h
  have k2 : Hid (Rd w a' l') := h'
  have hsame' : Hid (∀ j, j < l.length → (at1 l' j).sig = (at1 l j).sig ∧ (at1 l' j).loc = (at1 l j).loc ∧ (at1 l' j).body = (at1 l j).body ∧ (at1 l j).body.length ≤ 2097152) := hsame
  clear h h' hsame
  go_enter Tryz.func42, Tryz.ntmps42
  go_wp2_with fail
  go_loopw [5] (fun i wr => ∃ k : Nat, k ≤ l.length ∧ i = .int .i64 k ∧ Below w.heap.size w wr) (fun i _ => l.length - (intOf i).toNat)
  case atStart => exact ⟨0, Nat.zero_le _, rfl, Below.refl _ _⟩
  case round =>
    obtain ⟨k, hk, rfl, hb⟩ := hrel
    by_cases hlt : k < l.length
    · have hlt' : (k : Int) < (l.length : Int) := by omega
      rcases k1.out.later hb with h0 | ⟨b, off, ha, hc⟩
      · omega
      · rcases k2.out.later hb with h0' | ⟨b', off', ha', hc'⟩
        · omega
        · obtain ⟨c0, c1, c2, rb⟩ := hc k hlt
          obtain ⟨d0, d1, d2, rb'⟩ := hc' k (by omega)
          obtain ⟨s1, s2, s3, s4⟩ := hsame'.out k hlt
          rw [s1] at d0
          rw [s2] at d1
          rw [s3] at d2 rb'
          subst ha ha'
          have hq : Hid (∀ u, Below wr.heap.size wr u → Calls Tryz.prog 84 #[.agg #[.int .i64 (at1 l k).sig, .int .i64 (at1 l k).loc, .slice (at1 l k).ad (at1 l k).body.length (at1 l k).cp], .agg #[.int .i64 (at1 l k).sig, .int .i64 (at1 l k).loc, .slice (at1 l' k).ad (at1 l k).body.length (at1 l' k).cp]] u fun e w' => e = .returned (.bool true) ∧ Below u.heap.size u w') := fun u hu => eq1 _ _ _ _ _ _ _ u (rb.later hu) (rb'.later hu) s4
          have hb' : Hid (Below w.heap.size w wr) := hb
          clear hb hc hc' rb rb' s1 s2 s3 s4
          generalize (at1 l k).body.length = bn at *
          generalize (at1 l k).sig = y0 at *
          generalize (at1 l k).loc = y1 at *
          generalize (at1 l k).ad = y2 at *
          generalize (at1 l k).cp = y3 at *
          generalize (at1 l' k).ad = y4 at *
          generalize (at1 l' k).cp = y5 at *
          go_wp2_with fail
          go_region_held (fun w' => w'.cell? ⟨b, off + k * 3, none⟩ = some (.int .i64 y0) ∧ w'.cell? ⟨b, off + k * 3 + 1, none⟩ = some (.int .i64 y1) ∧ w'.cell? ⟨b, off + k * 3 + 2, none⟩ = some (.slice y2 bn y3) ∧ w'.cell? ⟨b', off' + k * 3, none⟩ = some (.int .i64 y0) ∧ w'.cell? ⟨b', off' + k * 3 + 1, none⟩ = some (.int .i64 y1) ∧ w'.cell? ⟨b', off' + k * 3 + 2, none⟩ = some (.slice y4 bn y5)) (go_keep)
            (first | (go_at_call 84; refine (hq.out _ (Below.refl _ _).drew).mono ?_; rintro e w2 ⟨rfl, b2⟩; obtain ⟨t0, t1, t2, t3, t4, t5⟩ := keep6 b2 c0 c1 c2 d0 d1 d2))
          go_wp2_with fail
          go_roundw
          case rel => exact ⟨k + 1, by omega, by go_num, hb'.out.drew.trans (b2.mono hb'.out.size)⟩
          case measure => simp [intOf]; omega
    · obtain rfl : k = l.length := by omega
      have hb' : Hid (Below w.heap.size w wr) := hb
      clear hb
      go_wp2_with fail
      go_ret
      exact ⟨rfl, hb'.out⟩
end Go.Proofs.YtajlkdidjelpeaaGreatDoor.MemFunc
