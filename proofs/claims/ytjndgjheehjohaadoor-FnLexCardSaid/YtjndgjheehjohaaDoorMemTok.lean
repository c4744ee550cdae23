/-
  Slices of Tok in memory, and what the laws' own helpers on them do. (Written by my modgen.py.)
-/
import Derived.Test.YtjndgjheehjohaaDoorInsMem
namespace Go.Proofs.YtjndgjheehjohaaDoor.MemTok
open Go.RowKit InsMem

abbrev E := Int × Int × ByteArray × Int
def f0At (l : List E) (k : Nat) : Int := (l.getD k (0, 0, (⟨#[]⟩ : ByteArray), 0)).1
def f1At (l : List E) (k : Nat) : Int := (l.getD k (0, 0, (⟨#[]⟩ : ByteArray), 0)).2.1
def f2At (l : List E) (k : Nat) : ByteArray := (l.getD k (0, 0, (⟨#[]⟩ : ByteArray), 0)).2.2.1
def f3At (l : List E) (k : Nat) : Int := (l.getD k (0, 0, (⟨#[]⟩ : ByteArray), 0)).2.2.2
/-- A slice of them that can be read. -/
def Rd (w : World) (a : Option Addr) (l : List E) : Prop :=
  l.length = 0 ∨ ∃ b off, a = some ⟨b, off, none⟩ ∧ ∀ j, j < l.length → w.cell? ⟨b, off + j * 4, none⟩ = some (.int .i64 (f0At l j)) ∧ w.cell? ⟨b, off + j * 4 + 1, none⟩ = some (.int .i64 (f1At l j)) ∧ w.cell? ⟨b, off + j * 4 + 2, none⟩ = some (.string (f2At l j)) ∧ w.cell? ⟨b, off + j * 4 + 3, none⟩ = some (.int .i64 (f3At l j))
theorem Rd.later {w w' : World} {a : Option Addr} {l : List E} (h : Rd w a l) (hb : Below w.heap.size w w') : Rd w' a l := by
  rcases h with h | ⟨b, off, ha, hc⟩
  · exact .inl h
  · refine .inr ⟨b, off, ha, fun j hj => ?_⟩
    obtain ⟨c0, c1, c2, c3⟩ := hc j hj
    have hs : b < w.heap.size := World.block_lt_of_cell? w _ c0
    exact ⟨by rw [hb.cell hs]; exact c0, by rw [hb.cell hs]; exact c1, by rw [hb.cell hs]; exact c2, by rw [hb.cell hs]; exact c3⟩
theorem to1 (x0 : Int) (x1 : Int) (x2 : ByteArray) (x3 : Int) (w : World) :
    Calls Tryd.prog 12 #[.agg #[.int .i64 (x0), .int .i64 (x1), .string (x2), .int .i64 (x3)]] w fun e w' => e = .returned (.agg #[.int .i64 (x0), .int .i64 (x1), .string (x2), .int .i64 (x3)]) ∧ Below w.heap.size w w' := by
  go_enter Tryd.func12, Tryd.ntmps12
  go_wp2_with fail
  refine bodyPost_ret ?_ rfl ⟨rfl, ?_⟩
  · simp [results, go_sem]
  · exact (((Below.refl _ _).alloc (Nat.le_refl _) _).alloc (by simp) _).alloc (by simp; omega) _
theorem eq1 (x0 : Int) (x1 : Int) (x2 : ByteArray) (x3 : Int) (w : World) :
    Calls Tryd.prog 34 #[.agg #[.int .i64 (x0), .int .i64 (x1), .string (x2), .int .i64 (x3)], .agg #[.int .i64 (x0), .int .i64 (x1), .string (x2), .int .i64 (x3)]] w fun e w' => e = .returned (.bool true) ∧ Below w.heap.size w w' := by
  go_enter Tryd.func34, Tryd.ntmps34
  go_wp2_with fail
  go_ret
  exact ⟨rfl, ((Below.refl _ _).alloc (Nat.le_refl _) _).alloc (by simp) _⟩
def cv (l : List E) (j : Nat) : Value := if j % 4 = 0 then .int .i64 (f0At l (j / 4)) else if j % 4 = 1 then .int .i64 (f1At l (j / 4)) else if j % 4 = 2 then .string (f2At l (j / 4)) else .int .i64 (f3At l (j / 4))
def zv (j : Nat) : Value := if j % 4 = 0 then .int .i64 0 else if j % 4 = 1 then .int .i64 0 else if j % 4 = 2 then .string ⟨#[]⟩ else .int .i64 0
theorem cv0 (l : List E) (k : Nat) : cv l (k * 4) = .int .i64 (f0At l k) := by unfold cv; rw [if_pos (by omega), show (k * 4) / 4 = k by omega]
theorem cv1 (l : List E) (k : Nat) : cv l (k * 4 + 1) = .int .i64 (f1At l k) := by unfold cv; rw [if_neg (by omega), if_pos (by omega), show (k * 4 + 1) / 4 = k by omega]
theorem cv2 (l : List E) (k : Nat) : cv l (k * 4 + 2) = .string (f2At l k) := by unfold cv; rw [if_neg (by omega), if_neg (by omega), if_pos (by omega), show (k * 4 + 2) / 4 = k by omega]
theorem cv3 (l : List E) (k : Nat) : cv l (k * 4 + 3) = .int .i64 (f3At l k) := by unfold cv; rw [if_neg (by omega), if_neg (by omega), if_neg (by omega), show (k * 4 + 3) / 4 = k by omega]
theorem info : (Tryd.prog.info? 27).map (fun i => (i.zero, i.size, i.bytes)) = some (some (.agg #[.int .i64 0, .int .i64 0, .string ⟨#[]⟩, .int .i64 0]), 4, 40) := by kernel_rfl
theorem run_mk (m : Nat) (hn : m ≤ 1048576) (w : World) :
    (Instr.makeSlice 33 (.int .i64 (m : Int)) (.int .i64 (m : Int))).run Tryd.prog w = .ok (.slice (some ⟨w.heap.size, 0, none⟩) m m) (w.alloc (.cells (madeCells #[.int .i64 0, .int .i64 0, .string ⟨#[]⟩, .int .i64 0] (m * 4)) 27)) := by
  obtain ⟨i, hi, hzz⟩ := Option.map_eq_some_iff.1 info
  simp only [Prod.mk.injEq] at hzz
  obtain ⟨hz, hs, hb⟩ := hzz
  have hr := run_make (P := Tryd.prog) w 33 27 i _ Tryd.underlying33 hi hz .i64 .i64 m m (by omega) (Int.le_refl _) (by rw [hb]; omega) (by omega)
  simp only [Int.toNat_natCast, hs] at hr
  exact hr
theorem made (w : World) (m : Nat) : (w.alloc (.cells (madeCells #[.int .i64 0, .int .i64 0, .string ⟨#[]⟩, .int .i64 0] (m * 4)) 27)).rowIs w.heap.size 27 (m * 4) zv :=
  ⟨madeCells #[.int .i64 0, .int .i64 0, .string ⟨#[]⟩, .int .i64 0] (m * 4), Deep.blk_alloc_new _ _, size_madeCells _ _, fun i hi => by
    have : i % 4 = 0 ∨ i % 4 = 1 ∨ i % 4 = 2 ∨ i % 4 = 3 := by omega
    rcases this with h | h | h | h <;> simp [madeCells, zv, hi, h]⟩
theorem rd_of_row {w : World} {b : Nat} {l : List E} (h : w.rowIs b 27 (l.length * 4) (cv l)) : Rd w (some ⟨b, 0, none⟩) l := by
  refine .inr ⟨b, 0, rfl, fun j hj => ⟨?_, ?_, ?_, ?_⟩⟩
  · rw [Nat.zero_add, h.cell (by omega)]; simp only [cv0]
  · rw [Nat.zero_add, h.cell (by omega)]; simp only [cv1]
  · rw [Nat.zero_add, h.cell (by omega)]; simp only [cv2]
  · rw [Nat.zero_add, h.cell (by omega)]; simp only [cv3]
theorem room {w : World} {b m i : Nat} {t : TypeId} {f : Nat → Value} (h : w.rowIs b t m f) (hi : i + 4 ≤ m) (v0 v1 v2 : Value) :
    (∃ x, (w).cell? ⟨b, i, none⟩ = some x) ∧ (∃ x, ((w).setCell ⟨b, i, none⟩ v0).cell? ⟨b, i + 1, none⟩ = some x) ∧ (∃ x, (((w).setCell ⟨b, i, none⟩ v0).setCell ⟨b, i + 1, none⟩ v1).cell? ⟨b, i + 2, none⟩ = some x) ∧ (∃ x, ((((w).setCell ⟨b, i, none⟩ v0).setCell ⟨b, i + 1, none⟩ v1).setCell ⟨b, i + 2, none⟩ v2).cell? ⟨b, i + 3, none⟩ = some x) ∧ (w).frozen? ⟨b, i, none⟩ = false ∧ ((w).setCell ⟨b, i, none⟩ v0).frozen? ⟨b, i + 1, none⟩ = false ∧ (((w).setCell ⟨b, i, none⟩ v0).setCell ⟨b, i + 1, none⟩ v1).frozen? ⟨b, i + 2, none⟩ = false ∧ ((((w).setCell ⟨b, i, none⟩ v0).setCell ⟨b, i + 1, none⟩ v1).setCell ⟨b, i + 2, none⟩ v2).frozen? ⟨b, i + 3, none⟩ = false :=
  ⟨⟨_, (h).cell (by omega)⟩, ⟨_, ((h).set (i) v0).cell (by omega)⟩, ⟨_, (((h).set (i) v0).set (i + 1) v1).cell (by omega)⟩, ⟨_, ((((h).set (i) v0).set (i + 1) v1).set (i + 2) v2).cell (by omega)⟩, (h).frozen _, ((h).set (i) v0).frozen _, (((h).set (i) v0).set (i + 1) v1).frozen _, ((((h).set (i) v0).set (i + 1) v1).set (i + 2) v2).frozen _⟩
set_option maxHeartbeats 4000000 in
theorem toS (w : World) (a : Option Addr) (cap : Nat) (l : List E) (h : Rd w a l) (hn : l.length ≤ 1048576) :
    Calls Tryd.prog 16 #[.slice a l.length cap] w fun e w' => ∃ b, e = .returned (.slice (some ⟨b, 0, none⟩) l.length l.length) ∧ w.heap.size ≤ b ∧ w'.rowIs b 27 (l.length * 4) (cv l) ∧ Below w.heap.size w w' := by
  have hmk := run_mk l.length hn
  have h' : Hid (Rd w a l) := h
  clear h
  go_enter Tryd.func16, Tryd.ntmps16
  go_wp2_with fail
  clear hmk
  go_loopw [4] (fun i wr => ∃ k : Nat, k ≤ l.length ∧ i = .int .i64 k ∧ wr.rowIs w.heap.size 27 (l.length * 4) (fun j => if j < k * 4 then cv l j else zv j) ∧ Below w.heap.size w wr) (fun i _ => l.length - (intOf i).toNat)
  case atStart => exact ⟨0, Nat.zero_le _, rfl, (made w l.length).congr (fun i hi => by simp), (Below.refl _ _).alloc (Nat.le_refl _) _⟩
  case round =>
    obtain ⟨k, hk, rfl, hrow, hbel⟩ := hrel
    by_cases hlt : k < l.length
    · have hlt' : (k : Int) < (l.length : Int) := by omega
      rcases h'.out with h0 | ⟨b, off, ha, hc⟩
      · omega
      · obtain ⟨c0, c1, c2, c3⟩ := hc k hlt
        have hbb : b < w.heap.size := World.block_lt_of_cell? w _ c0
        rw [← hbel.cell hbb] at c0 c1 c2 c3
        clear hc
        subst ha
        have e0 := cv0 l k
        have e1 := cv1 l k
        have e2 := cv2 l k
        have e3 := cv3 l k
        generalize f0At l k = x0 at *
        generalize f1At l k = x1 at *
        generalize f2At l k = x2 at *
        generalize f3At l k = x3 at *
        have hrow' : Hid (wr.rowIs w.heap.size 27 (l.length * 4) (fun j => if j < k * 4 then cv l j else zv j)) := hrow
        have hbel' : Hid (Below w.heap.size w wr) := hbel
        clear hrow hbel
        go_wp2_with (go_at_call 12; refine (to1 _ _ _ _ _).mono ?_; rintro e w1 ⟨rfl, b1⟩; have hr1 : Hid (w1.rowIs w.heap.size 27 (l.length * 4) (fun j => if j < k * 4 then cv l j else zv j)) := row_later hrow'.out b1; obtain ⟨⟨y0, q0⟩, ⟨y1, q1⟩, ⟨y2, q2⟩, ⟨y3, q3⟩, g0, g1, g2, g3⟩ := room hr1.out (i := k * 4) (by omega) (.int .i64 (x0)) (.int .i64 (x1)) (.string (x2)))
        go_roundw
        case rel =>
          refine ⟨k + 1, by omega, by go_num, (((((hr1.out.set (k * 4) (.int .i64 (x0))).set (k * 4 + 1) (.int .i64 (x1))).set (k * 4 + 2) (.string (x2))).set (k * 4 + 3) (.int .i64 (x3))).congr fun j hj => ?_), ?_⟩
          · by_cases z3 : j = k * 4 + 3
            · rw [if_pos z3, if_pos (by omega), z3, e3]
            · rw [if_neg z3]
              by_cases z2 : j = k * 4 + 2
              · rw [if_pos z2, if_pos (by omega), z2, e2]
              · rw [if_neg z2]
                by_cases z1 : j = k * 4 + 1
                · rw [if_pos z1, if_pos (by omega), z1, e1]
                · rw [if_neg z1]
                  by_cases z0 : j = k * 4
                  · rw [if_pos z0, if_pos (by omega), z0, e0]
                  · rw [if_neg z0]
                    by_cases z9 : j < k * 4
                    · rw [if_pos z9, if_pos (by omega)]
                    · rw [if_neg z9, if_neg (by omega)]
          · exact (((((hbel'.out.trans (b1.mono hbel'.out.size)).setCell (Nat.le_refl _) _).setCell (Nat.le_refl _) _).setCell (Nat.le_refl _) _).setCell (Nat.le_refl _) _)
        case measure => simp [intOf]; omega
    · obtain rfl : k = l.length := by omega
      have hrow' : Hid (wr.rowIs w.heap.size 27 (l.length * 4) (cv l)) := hrow.congr (fun j hj => by simp [hj])
      have hbel' : Hid (Below w.heap.size w wr) := hbel
      clear hrow hbel
      go_wp2_with fail
      go_ret
      exact ⟨_, rfl, Nat.le_refl _, hrow'.out, hbel'.out⟩
theorem keep {w w' : World} {g i g' i' : Nat} {p0 p1 p2 p3 r0 r1 r2 r3 : Value} (h : Below w.heap.size w w') (c0 : w.cell? ⟨g, i, none⟩ = some p0) (c1 : w.cell? ⟨g, i + 1, none⟩ = some p1) (c2 : w.cell? ⟨g, i + 2, none⟩ = some p2) (c3 : w.cell? ⟨g, i + 3, none⟩ = some p3) (d0 : w.cell? ⟨g', i', none⟩ = some r0) (d1 : w.cell? ⟨g', i' + 1, none⟩ = some r1) (d2 : w.cell? ⟨g', i' + 2, none⟩ = some r2) (d3 : w.cell? ⟨g', i' + 3, none⟩ = some r3) :
    w'.cell? ⟨g, i, none⟩ = some p0 ∧ w'.cell? ⟨g, i + 1, none⟩ = some p1 ∧ w'.cell? ⟨g, i + 2, none⟩ = some p2 ∧ w'.cell? ⟨g, i + 3, none⟩ = some p3 ∧ w'.cell? ⟨g', i', none⟩ = some r0 ∧ w'.cell? ⟨g', i' + 1, none⟩ = some r1 ∧ w'.cell? ⟨g', i' + 2, none⟩ = some r2 ∧ w'.cell? ⟨g', i' + 3, none⟩ = some r3 := by
  have hs : g < w.heap.size := World.block_lt_of_cell? w _ c0
  have hs' : g' < w.heap.size := World.block_lt_of_cell? w _ d0
  exact ⟨by rw [h.cell hs]; exact c0, by rw [h.cell hs]; exact c1, by rw [h.cell hs]; exact c2, by rw [h.cell hs]; exact c3, by rw [h.cell hs']; exact d0, by rw [h.cell hs']; exact d1, by rw [h.cell hs']; exact d2, by rw [h.cell hs']; exact d3⟩
set_option maxHeartbeats 4000000 in
theorem eqS (w : World) (a a' : Option Addr) (cap cap' : Nat) (l : List E) (h : Rd w a l) (h' : Rd w a' l) (hn : l.length ≤ 2097152) :
    Calls Tryd.prog 18 #[.slice a l.length cap, .slice a' l.length cap'] w fun e w' => e = .returned (.bool true) ∧ Below w.heap.size w w' := by
  have k1 : Hid (Rd w a l) := h
  have k2 : Hid (Rd w a' l) := h'
  clear h h'
  go_enter Tryd.func18, Tryd.ntmps18
  go_wp2_with fail
  go_loopw [5] (fun i wr => ∃ k : Nat, k ≤ l.length ∧ i = .int .i64 k ∧ Below w.heap.size w wr) (fun i _ => l.length - (intOf i).toNat)
  case atStart => exact ⟨0, Nat.zero_le _, rfl, Below.refl _ _⟩
  case round =>
    obtain ⟨k, hk, rfl, hb⟩ := hrel
    by_cases hlt : k < l.length
    · have hlt' : (k : Int) < (l.length : Int) := by omega
      rcases k1.out.later hb with h0 | ⟨b, off, ha, hc⟩
      · omega
      · rcases k2.out.later hb with h0' | ⟨b', off', ha', hc'⟩
        · omega
        · obtain ⟨c0, c1, c2, c3⟩ := hc k hlt
          obtain ⟨d0, d1, d2, d3⟩ := hc' k hlt
          subst ha ha'
          generalize f0At l k = x0 at *
          generalize f1At l k = x1 at *
          generalize f2At l k = x2 at *
          generalize f3At l k = x3 at *
          have hb' : Hid (Below w.heap.size w wr) := hb
          clear hb hc hc'
          go_wp2_with fail
          go_region_held (fun w' => w'.cell? ⟨b, off + k * 4, none⟩ = some (.int .i64 (x0)) ∧ w'.cell? ⟨b, off + k * 4 + 1, none⟩ = some (.int .i64 (x1)) ∧ w'.cell? ⟨b, off + k * 4 + 2, none⟩ = some (.string (x2)) ∧ w'.cell? ⟨b, off + k * 4 + 3, none⟩ = some (.int .i64 (x3)) ∧ w'.cell? ⟨b', off' + k * 4, none⟩ = some (.int .i64 (x0)) ∧ w'.cell? ⟨b', off' + k * 4 + 1, none⟩ = some (.int .i64 (x1)) ∧ w'.cell? ⟨b', off' + k * 4 + 2, none⟩ = some (.string (x2)) ∧ w'.cell? ⟨b', off' + k * 4 + 3, none⟩ = some (.int .i64 (x3))) (go_keep)
            (first | (go_at_call 34; refine (eq1 _ _ _ _ _).mono ?_; rintro e w2 ⟨rfl, b2⟩; obtain ⟨s0, s1, s2, s3, t0, t1, t2, t3⟩ := keep b2 c0 c1 c2 c3 d0 d1 d2 d3))
          go_wp2_with fail
          go_roundw
          case rel => exact ⟨k + 1, by omega, by go_num, hb'.out.drew.trans (b2.mono hb'.out.size)⟩
          case measure => simp [intOf]; omega
    · obtain rfl : k = l.length := by omega
      have hb' : Hid (Below w.heap.size w wr) := hb
      clear hb
      go_wp2_with fail
      go_ret
      exact ⟨rfl, hb'.out⟩
end Go.Proofs.YtjndgjheehjohaaDoor.MemTok
