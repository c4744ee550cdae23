/-
  Slices of functions in memory (each with a body, a slice of its own), and what the laws' own helpers on them do.
-/
import Derived.Test.YtdaffcbamnpjfaaGreatDoorInsMem
namespace Go.Proofs.YtdaffcbamnpjfaaGreatDoor.MemFunc
open Go.RowKit PlainShape InsMem

structure E where
  sig : Int
  loc : Int
  ad : Option Addr
  cp : Nat
  body : List I3
def dE : E := ⟨0, 0, none, 0, []⟩
def at1 (l : List E) (k : Nat) : E := l.getD k dE
/-- A slice of functions that can be read, bodies too. -/
def Rd (w : World) (a : Option Addr) (l : List E) : Prop :=
  l.length = 0 ∨ ∃ b off, a = some ⟨b, off, none⟩ ∧ ∀ j, j < l.length → w.cell? ⟨b, off + j * 3, none⟩ = some (.int .i64 (at1 l j).sig) ∧ w.cell? ⟨b, off + j * 3 + 1, none⟩ = some (.int .i64 (at1 l j).loc) ∧ w.cell? ⟨b, off + j * 3 + 2, none⟩ = some (.slice (at1 l j).ad (at1 l j).body.length (at1 l j).cp) ∧ RdI w (at1 l j).ad (at1 l j).body
theorem Rd.later {w w' : World} {a : Option Addr} {l : List E} (h : Rd w a l) (hb : Below w.heap.size w w') : Rd w' a l := by
  rcases h with h | ⟨b, off, ha, hc⟩
  · exact .inl h
  · refine .inr ⟨b, off, ha, fun j hj => ?_⟩
    obtain ⟨c0, c1, c2, hr⟩ := hc j hj
    have hs : b < w.heap.size := World.block_lt_of_cell? w _ c0
    exact ⟨by rw [hb.cell hs]; exact c0, by rw [hb.cell hs]; exact c1, by rw [hb.cell hs]; exact c2, hr.later hb⟩
def R3 (v0 v1 v2 : Value) (j : Nat) : Value := if j = 0 then v0 else if j = 1 then v1 else v2
theorem r3_made (w : World) (v0 v1 v2 : Value) (t : TypeId) : (w.alloc (.cells #[v0, v1, v2] t)).rowIs w.heap.size t 3 (R3 v0 v1 v2) :=
  World.rowIs_alloc w #[v0, v1, v2] t _ (fun i hi => by
    match i, hi with
    | 0, _ => rfl
    | 1, _ => rfl
    | 2, _ => rfl)
theorem r3 {w : World} {b : Nat} {t : TypeId} {v0 v1 v2 : Value} (h : w.rowIs b t 3 (R3 v0 v1 v2)) :
    w.cell? ⟨b, 0, none⟩ = some v0 ∧ w.cell? ⟨b, 1, none⟩ = some v1 ∧ w.cell? ⟨b, 2, none⟩ = some v2 ∧ w.frozen? ⟨b, 0, none⟩ = false ∧ w.frozen? ⟨b, 1, none⟩ = false ∧ w.frozen? ⟨b, 2, none⟩ = false :=
  ⟨h.cell (by omega), h.cell (by omega), h.cell (by omega), h.frozen _, h.frozen _, h.frozen _⟩
theorem s3 {w : World} {r : Nat} {t : TypeId} {f : Nat → Value} (h : w.rowIs r t 3 f) (o a b : Value) :
    (((w.setCell ⟨r, 0, none⟩ o).setCell ⟨r, 1, none⟩ a).setCell ⟨r, 2, none⟩ b).cell? ⟨r, 0, none⟩ = some o ∧
    (((w.setCell ⟨r, 0, none⟩ o).setCell ⟨r, 1, none⟩ a).setCell ⟨r, 2, none⟩ b).cell? ⟨r, 1, none⟩ = some a ∧
    (((w.setCell ⟨r, 0, none⟩ o).setCell ⟨r, 1, none⟩ a).setCell ⟨r, 2, none⟩ b).cell? ⟨r, 2, none⟩ = some b := by
  have h3 := ((h.set 0 o).set 1 a).set 2 b
  refine ⟨?_, ?_, ?_⟩ <;> rw [h3.cell (by omega)] <;> simp
theorem b3 {n r : Nat} {w : World} (hr : n ≤ r) (o a b : Value) : Below n w (((w.setCell ⟨r, 0, none⟩ o).setCell ⟨r, 1, none⟩ a).setCell ⟨r, 2, none⟩ b) :=
  (((Below.refl n w).setCell (p := ⟨r, 0, none⟩) hr o).setCell (p := ⟨r, 1, none⟩) hr a).setCell (p := ⟨r, 2, none⟩) hr b
/-- Block g is there, and nothing of it is frozen. -/
def Fz (w : World) (g : Nat) : Prop := g < w.heap.size ∧ ∀ i, w.frozen? ⟨g, i, none⟩ = false
theorem Fz.later {w w' : World} {g : Nat} (h : Fz w g) (hb : Below w.heap.size w w') : Fz w' g := ⟨Nat.lt_of_lt_of_le h.1 hb.size, fun i => by
  rw [← h.2 i]
  unfold World.frozen?
  rw [hb.block g h.1]⟩
theorem Fz.set {w : World} {g : Nat} (h : Fz w g) (p : Addr) (v : Value) : Fz (w.setCell p v) g := ⟨by rw [World.size_setCell]; exact h.1, fun i => by rw [World.frozen?_setCell]; exact h.2 i⟩
theorem Fz.block {w w' : World} {g : Nat} (h : Fz w g) (hs : w.heap.size ≤ w'.heap.size) (hb : w'.heap[g]? = w.heap[g]?) : Fz w' g := ⟨Nat.lt_of_lt_of_le h.1 hs, fun i => by
  rw [← h.2 i]
  unfold World.frozen?
  rw [hb]⟩
/-- A body in block g, which can be read and written. -/
def RdIF (w : World) (g : Nat) (l : List I3) : Prop := RdI w (some ⟨g, 0, none⟩) l ∧ Fz w g
theorem RdIF.later {w w' : World} {g : Nat} {l : List I3} (h : RdIF w g l) (hb : Below w.heap.size w w') : RdIF w' g l := ⟨h.1.later hb, h.2.later hb⟩
theorem rdIF_of_row {w : World} {g : Nat} {l : List I3} (hr : w.rowIs g 62 (l.length * 3) (fun j => .int .i64 (cv l j))) : RdIF w g l := ⟨rdI_of_row hr, hr.lt, hr.frozen⟩
set_option maxHeartbeats 2000000 in
theorem to1 (s x : Int) (a : Option Addr) (c : Nat) (l : List I3) (w : World) (h : RdI w a l) (hn : l.length ≤ 1048576) :
    Calls Tryz.prog 73 #[.agg #[.int .i64 s, .int .i64 x, .slice a l.length c]] w fun e w' => ∃ g, e = .returned (.agg #[.int .i64 s, .int .i64 x, .slice (some ⟨g, 0, none⟩) l.length l.length]) ∧ w.heap.size ≤ g ∧ RdIF w' (g) l ∧ Below w.heap.size w w' := by
  have h' : Hid (RdI w a l) := h
  clear h
  have ba : Below w.heap.size w (((w.alloc (.cells #[.int .i64 s, .int .i64 x, .slice a l.length c] 106)).alloc (.cells #[.int .i64 0, .int .i64 0, .slice none 0 0] 60)).alloc (.cells #[.int .i64 s, .int .i64 x, .slice none 0 0] 60)) := (((Below.refl _ _).alloc (Nat.le_refl _) _).alloc (by simp) _).alloc (by simp; omega) _
  have ro : Hid ((((w.alloc (.cells #[.int .i64 s, .int .i64 x, .slice a l.length c] 106)).alloc (.cells #[.int .i64 0, .int .i64 0, .slice none 0 0] 60)).alloc (.cells #[.int .i64 s, .int .i64 x, .slice none 0 0] 60)).rowIs (w.heap.size + 1 + 1) 60 3 (R3 (.int .i64 s) (.int .i64 x) (.slice none 0 0))) := by
    have := r3_made ((w.alloc (.cells #[.int .i64 s, .int .i64 x, .slice a l.length c] 106)).alloc (.cells #[.int .i64 0, .int .i64 0, .slice none 0 0] 60)) (.int .i64 s) (.int .i64 x) (.slice none 0 0) 60
    simp only [World.size_alloc] at this
    exact this
  have rr : Hid ((((w.alloc (.cells #[.int .i64 s, .int .i64 x, .slice a l.length c] 106)).alloc (.cells #[.int .i64 0, .int .i64 0, .slice none 0 0] 60)).alloc (.cells #[.int .i64 s, .int .i64 x, .slice none 0 0] 60)).rowIs (w.heap.size + 1) 60 3 (R3 (.int .i64 0) (.int .i64 0) (.slice none 0 0))) := by
    have := (r3_made (w.alloc (.cells #[.int .i64 s, .int .i64 x, .slice a l.length c] 106)) (.int .i64 0) (.int .i64 0) (.slice none 0 0) 60).alloc (.cells #[.int .i64 s, .int .i64 x, .slice none 0 0] 60)
    simp only [World.size_alloc] at this
    exact this
  go_enter Tryz.func73, Tryz.ntmps73
  go_wp2_with (go_at_call 113; refine (toInsS _ a c l (h'.out.later ba) hn).mono ?_; rintro e w1 ⟨g, rfl, hg, hrow, q1⟩; have ro1 : Hid (w1.rowIs (w.heap.size + 1 + 1) 60 3 (R3 (.int .i64 s) (.int .i64 x) (.slice none 0 0))) := row_later ro.out q1; have rr1 : Hid (w1.rowIs (w.heap.size + 1) 60 3 (R3 (.int .i64 0) (.int .i64 0) (.slice none 0 0))) := row_later rr.out q1; obtain ⟨a0, a1, a2, f0, f1, f2⟩ := r3 ro1.out; obtain ⟨p0, p1, p2, t0, t1, t2⟩ := r3 rr1.out; have hrw : Hid (w1.rowIs g 62 (l.length * 3) (fun j => .int .i64 (cv l j))) := hrow; clear hrow)
  simp only [World.size_alloc] at hg
  obtain ⟨e0, e1, e2⟩ := s3 (rr1.out.setOther (a := ⟨w.heap.size + 1 + 1, 2, none⟩) (by simp) (.slice (some ⟨g, 0, none⟩) l.length l.length)) (.int .i64 s) (.int .i64 x) (.slice (some ⟨g, 0, none⟩) l.length l.length)
  refine bodyPost_ret ?_ rfl ⟨g, rfl, by omega, ?_, ?_⟩
  · simp [results, go_sem, e0, e1, e2]
  · exact rdIF_of_row ((((hrw.out.setOther (a := ⟨w.heap.size + 1 + 1, 2, none⟩) (by simp; omega) _).setOther (a := ⟨w.heap.size + 1, 0, none⟩) (by simp; omega) _).setOther (a := ⟨w.heap.size + 1, 1, none⟩) (by simp; omega) _).setOther (a := ⟨w.heap.size + 1, 2, none⟩) (by simp; omega) _)
  · exact (ba.trans (q1.mono ba.size)).trans (((Below.refl _ _).setCell (p := ⟨w.heap.size + 1 + 1, 2, none⟩) (by simp; omega) _).trans (b3 (by omega) _ _ _))
set_option maxHeartbeats 2000000 in
theorem eq1 (s x : Int) (a a' : Option Addr) (c c' : Nat) (l : List I3) (w : World) (h : RdI w a l) (h2 : RdI w a' l) (hn : l.length ≤ 2097152) :
    Calls Tryz.prog 84 #[.agg #[.int .i64 s, .int .i64 x, .slice a l.length c], .agg #[.int .i64 s, .int .i64 x, .slice a' l.length c']] w fun e w' => e = .returned (.bool true) ∧ Below w.heap.size w w' := by
  have ba : Below w.heap.size w ((w.alloc (.cells #[.int .i64 s, .int .i64 x, .slice a l.length c] 60)).alloc (.cells #[.int .i64 s, .int .i64 x, .slice a' l.length c'] 60)) := ((Below.refl _ _).alloc (Nat.le_refl _) _).alloc (by simp) _
  have h1' : Hid (RdI w a l) := h
  have h2' : Hid (RdI w a' l) := h2
  clear h h2
  go_enter Tryz.func84, Tryz.ntmps84
  go_wp2_with (go_at_call 129; refine (eqInsS _ a a' c c' l (h1'.out.later ba) (h2'.out.later ba) hn).mono ?_; rintro e w1 ⟨rfl, q1⟩)
  go_ret
  exact ⟨rfl, ba.trans (q1.mono ba.size)⟩
def cvF (G : Nat → Nat) (l : List E) (j : Nat) : Value := if j % 3 = 0 then .int .i64 (at1 l (j / 3)).sig else if j % 3 = 1 then .int .i64 (at1 l (j / 3)).loc else .slice (some ⟨G (j / 3), 0, none⟩) (at1 l (j / 3)).body.length (at1 l (j / 3)).body.length
def zvF (j : Nat) : Value := if j % 3 = 0 then .int .i64 0 else if j % 3 = 1 then .int .i64 0 else .slice none 0 0
theorem cvF0 (G : Nat → Nat) (l : List E) (k : Nat) : cvF G l (k * 3) = .int .i64 (at1 l k).sig := by unfold cvF; rw [if_pos (by omega), show k * 3 / 3 = k by omega]
theorem cvF1 (G : Nat → Nat) (l : List E) (k : Nat) : cvF G l (k * 3 + 1) = .int .i64 (at1 l k).loc := by unfold cvF; rw [if_neg (by omega), if_pos (by omega), show (k * 3 + 1) / 3 = k by omega]
theorem cvF2 (G : Nat → Nat) (l : List E) (k : Nat) : cvF G l (k * 3 + 2) = .slice (some ⟨G k, 0, none⟩) (at1 l k).body.length (at1 l k).body.length := by unfold cvF; rw [if_neg (by omega), if_neg (by omega), show (k * 3 + 2) / 3 = k by omega]
theorem cvF_upd (G : Nat → Nat) (l : List E) (k g j : Nat) (hj : j < k * 3) : cvF (fun i => if i = k then g else G i) l j = cvF G l j := by
  have : j / 3 ≠ k := by omega
  simp [cvF, this]
theorem infoF : (Tryz.prog.info? 60).map (fun i => (i.zero, i.size, i.bytes)) = some (some (.agg #[.int .i64 0, .int .i64 0, .slice none 0 0]), 3, 40) := by kernel_rfl
theorem run_mkF (m : Nat) (hn : m ≤ 1048576) (w : World) :
    (Instr.makeSlice 34 (.int .i64 (m : Int)) (.int .i64 (m : Int))).run Tryz.prog w = .ok (.slice (some ⟨w.heap.size, 0, none⟩) m m) (w.alloc (.cells (madeCells #[.int .i64 0, .int .i64 0, .slice none 0 0] (m * 3)) 60)) := by
  obtain ⟨i, hi, hzz⟩ := Option.map_eq_some_iff.1 infoF
  simp only [Prod.mk.injEq] at hzz
  obtain ⟨hz, hs, hb⟩ := hzz
  have hr := run_make (P := Tryz.prog) w 34 60 i _ Tryz.underlying34 hi hz .i64 .i64 m m (by omega) (Int.le_refl _) (by rw [hb]; omega) (by omega)
  simp only [Int.toNat_natCast, hs] at hr
  exact hr
theorem madeF (w : World) (m : Nat) : (w.alloc (.cells (madeCells #[.int .i64 0, .int .i64 0, .slice none 0 0] (m * 3)) 60)).rowIs w.heap.size 60 (m * 3) zvF :=
  ⟨madeCells #[.int .i64 0, .int .i64 0, .slice none 0 0] (m * 3), Deep.blk_alloc_new _ _, size_madeCells _ _, fun i hi => by
    have : i % 3 = 0 ∨ i % 3 = 1 ∨ i % 3 = 2 := by omega
    rcases this with h | h | h <;> simp [madeCells, zvF, hi, h]⟩
theorem rdI_other {w : World} {g : Nat} {l : List I3} {p : Addr} (h : RdI w (some ⟨g, 0, none⟩) l) (hne : g ≠ p.block) (v : Value) : RdI (w.setCell p v) (some ⟨g, 0, none⟩) l := by
  rcases h with h | ⟨b, off, ha, hc⟩
  · exact .inl h
  · simp only [Option.some.injEq, Addr.mk.injEq, and_true] at ha
    obtain ⟨rfl, rfl⟩ := ha
    refine .inr ⟨g, 0, rfl, fun j hj => ?_⟩
    obtain ⟨c0, c1, c2⟩ := hc j hj
    have hk : ∀ o, (w.setCell p v).cell? ⟨g, o, none⟩ = w.cell? ⟨g, o, none⟩ := fun o => World.cell?_setCell_other (w := w) (a := p) (b := ⟨g, o, none⟩) (v := v) (fun e => hne (by first | rw [← e] | rw [e]))
    exact ⟨(hk _).trans c0, (hk _).trans c1, (hk _).trans c2⟩
theorem rdIF_other {w : World} {g : Nat} {l : List I3} {p : Addr} (h : RdIF w g l) (hne : g ≠ p.block) (v : Value) : RdIF (w.setCell p v) g l := ⟨rdI_other h.1 hne v, h.2.set p v⟩
set_option maxRecDepth 20000 in
set_option maxHeartbeats 8000000 in
theorem toS (w : World) (a : Option Addr) (cap : Nat) (l : List E) (h : Rd w a l) (hn : l.length ≤ 1048576) (hbd : ∀ j, j < l.length → (at1 l j).body.length ≤ 1048576) :
    Calls Tryz.prog 34 #[.slice a l.length cap] w fun e w' => ∃ (b : Nat) (G : Nat → Nat), e = .returned (.slice (some ⟨b, 0, none⟩) l.length l.length) ∧ w.heap.size ≤ b ∧ w'.rowIs b 60 (l.length * 3) (cvF G l) ∧ (∀ j, j < l.length → w.heap.size < G j ∧ RdIF w' (G j) (at1 l j).body) ∧ Below w.heap.size w w' := by
  have hmk := run_mkF l.length hn
  have h' : Hid (Rd w a l) := h
  have hbd' : Hid (∀ j, j < l.length → (at1 l j).body.length ≤ 1048576) := hbd
  clear h hbd
  go_enter Tryz.func34, Tryz.ntmps34
  go_wp2_with fail
  clear hmk
  go_loopw [4] (fun i wr => ∃ (k : Nat) (G : Nat → Nat), k ≤ l.length ∧ i = .int .i64 k ∧ wr.rowIs w.heap.size 60 (l.length * 3) (fun j => if j < k * 3 then cvF G l j else zvF j) ∧ (∀ j, j < k → w.heap.size < G j ∧ RdIF wr (G j) (at1 l j).body) ∧ Below w.heap.size w wr) (fun i _ => l.length - (intOf i).toNat)
  case atStart => exact ⟨0, fun _ => 0, Nat.zero_le _, rfl, (madeF w l.length).congr (fun i hi => by simp), fun j hj => by omega, (Below.refl _ _).alloc (Nat.le_refl _) _⟩
  case round =>
    obtain ⟨k, G, hk, rfl, hrow, hG, hbel⟩ := hrel
    have hwl := hrow.lt
    by_cases hlt : k < l.length
    · have hlt' : (k : Int) < (l.length : Int) := by omega
      rcases h'.out.later hbel with h0 | ⟨b, off, ha, hc⟩
      · omega
      · obtain ⟨c0, c1, c2, hrb⟩ := hc k hlt
        subst ha
        have e0 := fun G => cvF0 G l k
        have e1 := fun G => cvF1 G l k
        have e2 := fun G => cvF2 G l k
        have hT : Hid (Calls Tryz.prog 73 #[.agg #[.int .i64 (at1 l k).sig, .int .i64 (at1 l k).loc, .slice (at1 l k).ad (at1 l k).body.length (at1 l k).cp]] wr fun e w' => ∃ g, e = .returned (.agg #[.int .i64 (at1 l k).sig, .int .i64 (at1 l k).loc, .slice (some ⟨g, 0, none⟩) (at1 l k).body.length (at1 l k).body.length]) ∧ wr.heap.size ≤ g ∧ RdIF w' (g) (at1 l k).body ∧ Below wr.heap.size wr w') := to1 _ _ _ _ _ wr hrb (hbd'.out k hlt)
        have e0' : Hid _ := e0
        have e1' : Hid _ := e1
        have e2' : Hid _ := e2
        have hrow' : Hid (wr.rowIs w.heap.size 60 (l.length * 3) (fun j => if j < k * 3 then cvF G l j else zvF j)) := hrow
        have hbel' : Hid (Below w.heap.size w wr) := hbel
        have hG' : Hid (∀ j, j < k → w.heap.size < G j ∧ RdIF wr (G j) (at1 l j).body) := hG
        clear hrow hbel hc hrb hG e0 e1 e2
        generalize hbk : (at1 l k).body = bk at *
        generalize (at1 l k).sig = y0 at *
        generalize (at1 l k).loc = y1 at *
        generalize (at1 l k).ad = y2 at *
        generalize (at1 l k).cp = y3 at *
        have hbk' : Hid ((at1 l k).body = bk) := hbk
        clear hbk
        go_wp2_with (go_at_call 73; refine hT.out.mono ?_; rintro e w1 ⟨g, rfl, hg, hrg, b1⟩; have hr1 : Hid (w1.rowIs w.heap.size 60 (l.length * 3) (fun j => if j < k * 3 then cvF G l j else zvF j)) := row_later hrow'.out b1; obtain ⟨⟨z0, q0⟩, ⟨z1, q1⟩, ⟨z2, q2⟩, g0, g1, g2⟩ := three hr1.out (i := k * 3) (by omega) (.int .i64 y0) (.int .i64 y1); have hrg' : Hid (RdIF w1 (g) bk) := hrg; clear hrg)
        go_roundw
        case rel =>
          refine ⟨k + 1, fun i => if i = k then g else G i, by omega, by go_num, ((((hr1.out.set (k * 3) (.int .i64 y0)).set (k * 3 + 1) (.int .i64 y1)).set (k * 3 + 2) (.slice (some ⟨g, 0, none⟩) bk.length bk.length)).congr fun j hj => ?_), fun j hj => ?_, ?_⟩
          · by_cases z2 : j = k * 3 + 2
            · rw [if_pos z2, if_pos (by omega), z2, e2'.out]; simp
            · rw [if_neg z2]
              by_cases z1 : j = k * 3 + 1
              · rw [if_pos z1, if_pos (by omega), z1, e1'.out]
              · rw [if_neg z1]
                by_cases z0 : j = k * 3
                · rw [if_pos z0, if_pos (by omega), z0, e0'.out]
                · rw [if_neg z0]
                  by_cases z3 : j < k * 3
                  · rw [if_pos z3, if_pos (by omega), cvF_upd G l k g j z3]
                  · rw [if_neg z3, if_neg (by omega)]
          · by_cases ej : j = k
            · subst ej
              rw [hbk'.out]
              simp only [if_true]
              exact ⟨by omega, rdIF_other (rdIF_other (rdIF_other hrg'.out (p := ⟨w.heap.size, _, none⟩) (by simp; omega) _) (p := ⟨w.heap.size, _, none⟩) (by simp; omega) _) (p := ⟨w.heap.size, _, none⟩) (by simp; omega) _⟩
            · obtain ⟨d1, d2⟩ := hG'.out j (by omega)
              simp only [if_neg ej]
              exact ⟨d1, rdIF_other (rdIF_other (rdIF_other (d2.later b1) (p := ⟨w.heap.size, _, none⟩) (by simp; omega) _) (p := ⟨w.heap.size, _, none⟩) (by simp; omega) _) (p := ⟨w.heap.size, _, none⟩) (by simp; omega) _⟩
          · exact (((hbel'.out.trans (b1.mono hbel'.out.size)).setCell (Nat.le_refl _) _).setCell (Nat.le_refl _) _).setCell (Nat.le_refl _) _
        case measure => simp [intOf]; omega
    · obtain rfl : k = l.length := by omega
      have hrow' : Hid (wr.rowIs w.heap.size 60 (l.length * 3) (cvF G l)) := hrow.congr (fun j hj => by simp [hj])
      have hbel' : Hid (Below w.heap.size w wr) := hbel
      have hG' : Hid (∀ j, j < l.length → w.heap.size < G j ∧ RdIF wr (G j) (at1 l j).body) := hG
      clear hrow hbel hG
      go_wp2_with fail
      go_ret
      exact ⟨_, G, rfl, Nat.le_refl _, hrow'.out, hG'.out, hbel'.out⟩
set_option maxRecDepth 20000 in
set_option maxHeartbeats 8000000 in
theorem eqS (w : World) (a a' : Option Addr) (cap cap' : Nat) (l l' : List E) (h : Rd w a l) (h' : Rd w a' l') (hll : l'.length = l.length) (hn : l.length ≤ 2097152)
    (hsame : ∀ j, j < l.length → (at1 l' j).sig = (at1 l j).sig ∧ (at1 l' j).loc = (at1 l j).loc ∧ (at1 l' j).body = (at1 l j).body ∧ (at1 l j).body.length ≤ 2097152) :
    Calls Tryz.prog 42 #[.slice a l.length cap, .slice a' l.length cap'] w fun e w' => e = .returned (.bool true) ∧ Below w.heap.size w w' := by
  have k1 : Hid (Rd w a l) := h
  have k2 : Hid (Rd w a' l') := h'
  have hsame' : Hid (∀ j, j < l.length → (at1 l' j).sig = (at1 l j).sig ∧ (at1 l' j).loc = (at1 l j).loc ∧ (at1 l' j).body = (at1 l j).body ∧ (at1 l j).body.length ≤ 2097152) := hsame
  clear h h' hsame
  go_enter Tryz.func42, Tryz.ntmps42
  go_wp2_with fail
  go_loopw [5] (fun i wr => ∃ k : Nat, k ≤ l.length ∧ i = .int .i64 k ∧ Below w.heap.size w wr) (fun i _ => l.length - (intOf i).toNat)
  case atStart => exact ⟨0, Nat.zero_le _, rfl, Below.refl _ _⟩
  case round =>
    obtain ⟨k, hk, rfl, hb⟩ := hrel
    by_cases hlt : k < l.length
    · have hlt' : (k : Int) < (l.length : Int) := by omega
      rcases k1.out.later hb with h0 | ⟨b, off, ha, hc⟩
      · omega
      · rcases k2.out.later hb with h0' | ⟨b', off', ha', hc'⟩
        · omega
        · obtain ⟨c0, c1, c2, rb⟩ := hc k hlt
          obtain ⟨d0, d1, d2, rb'⟩ := hc' k (by omega)
          obtain ⟨s1, s2, s3, s4⟩ := hsame'.out k hlt
          rw [s1] at d0
          rw [s2] at d1
          rw [s3] at d2 rb'
          subst ha ha'
          have hq : Hid (∀ u, Below wr.heap.size wr u → Calls Tryz.prog 84 #[.agg #[.int .i64 (at1 l k).sig, .int .i64 (at1 l k).loc, .slice (at1 l k).ad (at1 l k).body.length (at1 l k).cp], .agg #[.int .i64 (at1 l k).sig, .int .i64 (at1 l k).loc, .slice (at1 l' k).ad (at1 l k).body.length (at1 l' k).cp]] u fun e w' => e = .returned (.bool true) ∧ Below u.heap.size u w') := fun u hu => eq1 _ _ _ _ _ _ _ u (rb.later hu) (rb'.later hu) s4
          have hb' : Hid (Below w.heap.size w wr) := hb
          clear hb hc hc' rb rb' s1 s2 s3 s4
          generalize (at1 l k).body.length = bn at *
          generalize (at1 l k).sig = y0 at *
          generalize (at1 l k).loc = y1 at *
          generalize (at1 l k).ad = y2 at *
          generalize (at1 l k).cp = y3 at *
          generalize (at1 l' k).ad = y4 at *
          generalize (at1 l' k).cp = y5 at *
          go_wp2_with fail
          go_region_held (fun w' => w'.cell? ⟨b, off + k * 3, none⟩ = some (.int .i64 y0) ∧ w'.cell? ⟨b, off + k * 3 + 1, none⟩ = some (.int .i64 y1) ∧ w'.cell? ⟨b, off + k * 3 + 2, none⟩ = some (.slice y2 bn y3) ∧ w'.cell? ⟨b', off' + k * 3, none⟩ = some (.int .i64 y0) ∧ w'.cell? ⟨b', off' + k * 3 + 1, none⟩ = some (.int .i64 y1) ∧ w'.cell? ⟨b', off' + k * 3 + 2, none⟩ = some (.slice y4 bn y5)) (go_keep)
            (first | (go_at_call 84; refine (hq.out _ (Below.refl _ _).drew).mono ?_; rintro e w2 ⟨rfl, b2⟩; obtain ⟨t0, t1, t2, t3, t4, t5⟩ := keep6 b2 c0 c1 c2 d0 d1 d2))
          go_wp2_with fail
          go_roundw
          case rel => exact ⟨k + 1, by omega, by go_num, hb'.out.drew.trans (b2.mono hb'.out.size)⟩
          case measure => simp [intOf]; omega
    · obtain rfl : k = l.length := by omega
      have hb' : Hid (Below w.heap.size w wr) := hb
      clear hb
      go_wp2_with fail
      go_ret
      exact ⟨rfl, hb'.out⟩
end Go.Proofs.YtdaffcbamnpjfaaGreatDoor.MemFunc
