/-
  Slices of instructions in memory, and what the laws' own helpers on them do.
-/
import Derived.Test.YtjbhelcdakhjbaaDoorChecked
import Derived.Test.YtjbhelcdakhjbaaDoorPlainShape
import Derived.WalkKit
import Derived.Deep.QuietTactic
import Derived.BigQuiet
import Derived.Deep.OwnRows
import Derived.Below
import Derived.Deep.RegionHeld
import Derived.WalkSpells
import Derived.WalkSmall
namespace Go.Proofs.YtjbhelcdakhjbaaDoor.InsMem
open Go.RowKit PlainShape

/-- A slice of instructions that can be read. -/
def RdI (w : World) (a : Option Addr) (l : List I3) : Prop :=
  l.length = 0 ∨ ∃ b off, a = some ⟨b, off, none⟩ ∧ ∀ j, j < l.length → w.cell? ⟨b, off + j * 3, none⟩ = some (.int .i64 (oAt l j)) ∧ w.cell? ⟨b, off + j * 3 + 1, none⟩ = some (.int .i64 (aAt l j)) ∧ w.cell? ⟨b, off + j * 3 + 2, none⟩ = some (.int .i64 (bAt l j))
theorem RdI.later {w w' : World} {a : Option Addr} {l : List I3} (h : RdI w a l) (hb : Below w.heap.size w w') : RdI w' a l := by
  rcases h with h | ⟨b, off, ha, hc⟩
  · exact .inl h
  · refine .inr ⟨b, off, ha, fun j hj => ?_⟩
    obtain ⟨c0, c1, c2⟩ := hc j hj
    have hs : b < w.heap.size := World.block_lt_of_cell? w _ c0
    exact ⟨by rw [hb.cell hs]; exact c0, by rw [hb.cell hs]; exact c1, by rw [hb.cell hs]; exact c2⟩
theorem eqIns (op a b : Int) (w : World) :
    Calls Tryd.prog 15 #[.agg #[.int .i64 op, .int .i64 a, .int .i64 b], .agg #[.int .i64 op, .int .i64 a, .int .i64 b]] w fun e w' => e = .returned (.bool true) ∧ Below w.heap.size w w' := by
  go_enter Tryd.func15, Tryd.ntmps15
  go_wp2_with fail
  go_ret
  exact ⟨rfl, ((Below.refl _ _).alloc (Nat.le_refl _) _).alloc (by simp) _⟩
theorem addr_ne {b i j : Nat} (h : i ≠ j) : (⟨b, i, none⟩ : Addr) ≠ ⟨b, j, none⟩ := fun e => h (by injection e)
/-- Three cells of a row that can be written, one behind the other. -/
theorem three {w : World} {b m i : Nat} {t : TypeId} {f : Nat → Value} (h : w.rowIs b t m f) (hi : i + 3 ≤ m) (v0 v1 : Value) :
    (∃ x, w.cell? ⟨b, i, none⟩ = some x) ∧ (∃ x, (w.setCell ⟨b, i, none⟩ v0).cell? ⟨b, i + 1, none⟩ = some x) ∧ (∃ x, ((w.setCell ⟨b, i, none⟩ v0).setCell ⟨b, i + 1, none⟩ v1).cell? ⟨b, i + 2, none⟩ = some x) ∧
    w.frozen? ⟨b, i, none⟩ = false ∧ (w.setCell ⟨b, i, none⟩ v0).frozen? ⟨b, i + 1, none⟩ = false ∧ ((w.setCell ⟨b, i, none⟩ v0).setCell ⟨b, i + 1, none⟩ v1).frozen? ⟨b, i + 2, none⟩ = false :=
  ⟨⟨_, h.cell (by omega)⟩, ⟨_, (h.set i v0).cell (by omega)⟩, ⟨_, ((h.set i v0).set (i + 1) v1).cell (by omega)⟩, h.frozen _, (h.set i v0).frozen _, ((h.set i v0).set (i + 1) v1).frozen _⟩
theorem row_later {w w' : World} {b m : Nat} {t : TypeId} {f : Nat → Value} (h : w.rowIs b t m f) (hb : Below w.heap.size w w') : w'.rowIs b t m f := h.of_block (hb.block b h.lt)
/-- The cells of a list of instructions, one behind the other. -/
def cv (l : List I3) (j : Nat) : Int := if j % 3 = 0 then oAt l (j / 3) else if j % 3 = 1 then aAt l (j / 3) else bAt l (j / 3)
theorem cv0 (l : List I3) (k : Nat) : cv l (k * 3) = oAt l k := by unfold cv; rw [if_pos (by omega), show k * 3 / 3 = k by omega]
theorem cv1 (l : List I3) (k : Nat) : cv l (k * 3 + 1) = aAt l k := by unfold cv; rw [if_neg (by omega), if_pos (by omega), show (k * 3 + 1) / 3 = k by omega]
theorem cv2 (l : List I3) (k : Nat) : cv l (k * 3 + 2) = bAt l k := by unfold cv; rw [if_neg (by omega), if_neg (by omega), show (k * 3 + 2) / 3 = k by omega]
theorem infoI : (Tryd.prog.info? 32).map (fun i => (i.zero, i.size, i.bytes)) = some (some (.agg #[.int .i64 0, .int .i64 0, .int .i64 0]), 3, 24) := by kernel_rfl
theorem run_make_ins (n : Nat) (hn : n ≤ 1048576) (w : World) :
    (Instr.makeSlice 22 (.int .i64 (n : Int)) (.int .i64 (n : Int))).run Tryd.prog w = .ok (.slice (some ⟨w.heap.size, 0, none⟩) n n) (w.alloc (.cells (madeCells #[.int .i64 0, .int .i64 0, .int .i64 0] (n * 3)) 32)) := by
  obtain ⟨i, hi, hzz⟩ := Option.map_eq_some_iff.1 infoI
  simp only [Prod.mk.injEq] at hzz
  obtain ⟨hz, hs, hb⟩ := hzz
  have hr := run_make (P := Tryd.prog) w 22 32 i _ Tryd.underlying22 hi hz .i64 .i64 n n (by omega) (Int.le_refl _) (by rw [hb]; omega) (by omega)
  simp only [Int.toNat_natCast, hs] at hr
  exact hr
theorem made3 (w : World) (n : Nat) (t : TypeId) : (w.alloc (.cells (madeCells #[.int .i64 0, .int .i64 0, .int .i64 0] (n * 3)) t)).rowIs w.heap.size t (n * 3) (fun _ => .int .i64 0) :=
  ⟨madeCells #[.int .i64 0, .int .i64 0, .int .i64 0] (n * 3), Deep.blk_alloc_new _ _, size_madeCells _ _, fun i hi => by
    have : i % 3 = 0 ∨ i % 3 = 1 ∨ i % 3 = 2 := by omega
    rcases this with h | h | h <;> simp [madeCells, hi, h]⟩
theorem rdI_of_row {w : World} {b : Nat} {l : List I3} (h : w.rowIs b 32 (l.length * 3) (fun j => .int .i64 (cv l j))) : RdI w (some ⟨b, 0, none⟩) l := by
  refine .inr ⟨b, 0, rfl, fun j hj => ⟨?_, ?_, ?_⟩⟩
  · rw [Nat.zero_add, h.cell (by omega)]; simp only [cv0]
  · rw [Nat.zero_add, h.cell (by omega)]; simp only [cv1]
  · rw [Nat.zero_add, h.cell (by omega)]; simp only [cv2]
theorem keep6 {w w' : World} {g i g' i' : Nat} {x y z x' y' z' : Value} (h : Below w.heap.size w w') (c0 : w.cell? ⟨g, i, none⟩ = some x) (c1 : w.cell? ⟨g, i + 1, none⟩ = some y) (c2 : w.cell? ⟨g, i + 2, none⟩ = some z)
    (d0 : w.cell? ⟨g', i', none⟩ = some x') (d1 : w.cell? ⟨g', i' + 1, none⟩ = some y') (d2 : w.cell? ⟨g', i' + 2, none⟩ = some z') :
    w'.cell? ⟨g, i, none⟩ = some x ∧ w'.cell? ⟨g, i + 1, none⟩ = some y ∧ w'.cell? ⟨g, i + 2, none⟩ = some z ∧ w'.cell? ⟨g', i', none⟩ = some x' ∧ w'.cell? ⟨g', i' + 1, none⟩ = some y' ∧ w'.cell? ⟨g', i' + 2, none⟩ = some z' := by
  have hs : g < w.heap.size := World.block_lt_of_cell? w _ c0
  have hs' : g' < w.heap.size := World.block_lt_of_cell? w _ d0
  exact ⟨by rw [h.cell hs]; exact c0, by rw [h.cell hs]; exact c1, by rw [h.cell hs]; exact c2, by rw [h.cell hs']; exact d0, by rw [h.cell hs']; exact d1, by rw [h.cell hs']; exact d2⟩
set_option maxHeartbeats 4000000 in
theorem eqInsS (w : World) (a a' : Option Addr) (cap cap' : Nat) (l : List I3) (h : RdI w a l) (h' : RdI w a' l) (hn : l.length ≤ 2097152) :
    Calls Tryd.prog 6 #[.slice a l.length cap, .slice a' l.length cap'] w fun e w' => e = .returned (.bool true) ∧ Below w.heap.size w w' := by
  have k1 : Hid (RdI w a l) := h
  have k2 : Hid (RdI w a' l) := h'
  clear h h'
  go_enter Tryd.func6, Tryd.ntmps6
  go_wp2_with fail
  go_loopw [5] (fun i wr => ∃ k : Nat, k ≤ l.length ∧ i = .int .i64 k ∧ Below w.heap.size w wr) (fun i _ => l.length - (intOf i).toNat)
  case atStart => exact ⟨0, Nat.zero_le _, rfl, Below.refl _ _⟩
  case round =>
    obtain ⟨k, hk, rfl, hb⟩ := hrel
    by_cases hlt : k < l.length
    · have hlt' : (k : Int) < (l.length : Int) := by omega
      rcases k1.out.later hb with h0 | ⟨b, off, ha, hc⟩
      · omega
      · rcases k2.out.later hb with h0' | ⟨b', off', ha', hc'⟩
        · omega
        · obtain ⟨c0, c1, c2⟩ := hc k hlt
          obtain ⟨d0, d1, d2⟩ := hc' k hlt
          subst ha ha'
          generalize oAt l k = x0 at *
          generalize aAt l k = x1 at *
          generalize bAt l k = x2 at *
          have hb' : Hid (Below w.heap.size w wr) := hb
          clear hb hc hc'
          go_wp2_with fail
          go_region_held (fun w' => w'.cell? ⟨b, off + k * 3, none⟩ = some (.int .i64 x0) ∧ w'.cell? ⟨b, off + k * 3 + 1, none⟩ = some (.int .i64 x1) ∧ w'.cell? ⟨b, off + k * 3 + 2, none⟩ = some (.int .i64 x2) ∧ w'.cell? ⟨b', off' + k * 3, none⟩ = some (.int .i64 x0) ∧ w'.cell? ⟨b', off' + k * 3 + 1, none⟩ = some (.int .i64 x1) ∧ w'.cell? ⟨b', off' + k * 3 + 2, none⟩ = some (.int .i64 x2)) (go_keep)
            (first | (go_at_call 15; refine (eqIns _ _ _ _).mono ?_; rintro e w2 ⟨rfl, b2⟩; obtain ⟨s0, s1, s2, t0, t1, t2⟩ := keep6 b2 c0 c1 c2 d0 d1 d2))
          go_wp2_with fail
          go_roundw
          case rel => exact ⟨k + 1, by omega, by go_num, hb'.out.drew.trans (b2.mono hb'.out.size)⟩
          case measure => simp [intOf]; omega
    · obtain rfl : k = l.length := by omega
      have hb' : Hid (Below w.heap.size w wr) := hb
      clear hb
      go_wp2_with fail
      go_ret
      exact ⟨rfl, hb'.out⟩
end Go.Proofs.YtjbhelcdakhjbaaDoor.InsMem
