/-
  Slices of data in memory (each with bytes, a slice of its own), and what the laws' own helpers on them do.
-/
import Derived.Test.YtdaffcbamnpjfaaGreatDoorByteMem
import Derived.Test.YtdaffcbamnpjfaaGreatDoorMemSig
import Derived.Test.YtdaffcbamnpjfaaGreatDoorMemFunc
namespace Go.Proofs.YtdaffcbamnpjfaaGreatDoor.MemData
open Go.RowKit InsMem

structure E where
  pos : Int
  ad : Option Addr
  cp : Nat
  n : Nat
  Z : Nat → Int
def dE : E := ⟨0, none, 0, 0, fun _ => 0⟩
def at1 (l : List E) (k : Nat) : E := l.getD k dE
def Rd (w : World) (a : Option Addr) (l : List E) : Prop :=
  l.length = 0 ∨ ∃ b off, a = some ⟨b, off, none⟩ ∧ ∀ j, j < l.length → w.cell? ⟨b, off + j * 2, none⟩ = some (.int .i64 (at1 l j).pos) ∧ w.cell? ⟨b, off + j * 2 + 1, none⟩ = some (.slice (at1 l j).ad (at1 l j).n (at1 l j).cp) ∧ ByteMem.Rd w (at1 l j).ad (at1 l j).n (at1 l j).Z
theorem Rd.later {w w' : World} {a : Option Addr} {l : List E} (h : Rd w a l) (hb : Below w.heap.size w w') : Rd w' a l := by
  rcases h with h | ⟨b, off, ha, hc⟩
  · exact .inl h
  · refine .inr ⟨b, off, ha, fun j hj => ?_⟩
    obtain ⟨c0, c1, hr⟩ := hc j hj
    have hs : b < w.heap.size := World.block_lt_of_cell? w _ c0
    exact ⟨by rw [hb.cell hs]; exact c0, by rw [hb.cell hs]; exact c1, hr.later hb⟩
def R2 (v0 v1 : Value) (j : Nat) : Value := if j = 0 then v0 else v1
theorem r2_made (w : World) (v0 v1 : Value) (t : TypeId) : (w.alloc (.cells #[v0, v1] t)).rowIs w.heap.size t 2 (R2 v0 v1) :=
  World.rowIs_alloc w #[v0, v1] t _ (fun i hi => by
    match i, hi with
    | 0, _ => rfl
    | 1, _ => rfl)
theorem r2 {w : World} {b : Nat} {t : TypeId} {v0 v1 : Value} (h : w.rowIs b t 2 (R2 v0 v1)) :
    w.cell? ⟨b, 0, none⟩ = some v0 ∧ w.cell? ⟨b, 1, none⟩ = some v1 ∧ w.frozen? ⟨b, 0, none⟩ = false ∧ w.frozen? ⟨b, 1, none⟩ = false :=
  ⟨h.cell (by omega), h.cell (by omega), h.frozen _, h.frozen _⟩
theorem s2 {w : World} {r : Nat} {t : TypeId} {f : Nat → Value} (h : w.rowIs r t 2 f) (o a : Value) :
    ((w.setCell ⟨r, 0, none⟩ o).setCell ⟨r, 1, none⟩ a).cell? ⟨r, 0, none⟩ = some o ∧ ((w.setCell ⟨r, 0, none⟩ o).setCell ⟨r, 1, none⟩ a).cell? ⟨r, 1, none⟩ = some a := by
  have h3 := (h.set 0 o).set 1 a
  refine ⟨?_, ?_⟩ <;> rw [h3.cell (by omega)] <;> simp
/-- Block g is there, and nothing of it is frozen. -/
def Fz (w : World) (g : Nat) : Prop := g < w.heap.size ∧ ∀ i, w.frozen? ⟨g, i, none⟩ = false
theorem Fz.later {w w' : World} {g : Nat} (h : Fz w g) (hb : Below w.heap.size w w') : Fz w' g := ⟨Nat.lt_of_lt_of_le h.1 hb.size, fun i => by
  rw [← h.2 i]
  unfold World.frozen?
  rw [hb.block g h.1]⟩
theorem Fz.set {w : World} {g : Nat} (h : Fz w g) (p : Addr) (v : Value) : Fz (w.setCell p v) g := ⟨by rw [World.size_setCell]; exact h.1, fun i => by rw [World.frozen?_setCell]; exact h.2 i⟩
theorem Fz.block {w w' : World} {g : Nat} (h : Fz w g) (hs : w.heap.size ≤ w'.heap.size) (hb : w'.heap[g]? = w.heap[g]?) : Fz w' g := ⟨Nat.lt_of_lt_of_le h.1 hs, fun i => by
  rw [← h.2 i]
  unfold World.frozen?
  rw [hb]⟩
/-- Bytes in block g, which can be read and written. -/
def RdDF (w : World) (g n : Nat) (Z : Nat → Int) : Prop := ByteMem.Rd w (some ⟨g, 0, none⟩) n Z ∧ Fz w g
theorem RdDF.later {w w' : World} {g n : Nat} {Z : Nat → Int} (h : RdDF w g n Z) (hb : Below w.heap.size w w') : RdDF w' g n Z := ⟨h.1.later hb, h.2.later hb⟩
set_option maxHeartbeats 2000000 in
theorem to1 (s : Int) (a : Option Addr) (c n : Nat) (Z : Nat → Int) (w : World) (h : ByteMem.Rd w a n Z) (hn : n ≤ 1048576) :
    Calls Tryz.prog 76 #[.agg #[.int .i64 s, .slice a n c]] w fun e w' => ∃ g, e = .returned (.agg #[.int .i64 s, .slice (some ⟨g, 0, none⟩) n n]) ∧ w.heap.size ≤ g ∧ RdDF w' (g) n Z ∧ Below w.heap.size w w' := by
  have hZ := h.1
  have h' : Hid (ByteMem.Rd w a n Z) := h
  clear h
  have ba : Below w.heap.size w (((w.alloc (.cells #[.int .i64 s, .slice a n c] 112)).alloc (.cells #[.int .i64 0, .slice none 0 0] 117)).alloc (.cells #[.int .i64 s, .slice none 0 0] 117)) := (((Below.refl _ _).alloc (Nat.le_refl _) _).alloc (by simp) _).alloc (by simp; omega) _
  have ro : Hid ((((w.alloc (.cells #[.int .i64 s, .slice a n c] 112)).alloc (.cells #[.int .i64 0, .slice none 0 0] 117)).alloc (.cells #[.int .i64 s, .slice none 0 0] 117)).rowIs (w.heap.size + 1 + 1) 117 2 (R2 (.int .i64 s) (.slice none 0 0))) := by
    have := r2_made ((w.alloc (.cells #[.int .i64 s, .slice a n c] 112)).alloc (.cells #[.int .i64 0, .slice none 0 0] 117)) (.int .i64 s) (.slice none 0 0) 117
    simp only [World.size_alloc] at this
    exact this
  have rr : Hid ((((w.alloc (.cells #[.int .i64 s, .slice a n c] 112)).alloc (.cells #[.int .i64 0, .slice none 0 0] 117)).alloc (.cells #[.int .i64 s, .slice none 0 0] 117)).rowIs (w.heap.size + 1) 117 2 (R2 (.int .i64 0) (.slice none 0 0))) := by
    have := (r2_made (w.alloc (.cells #[.int .i64 s, .slice a n c] 112)) (.int .i64 0) (.slice none 0 0) 117).alloc (.cells #[.int .i64 s, .slice none 0 0] 117)
    simp only [World.size_alloc] at this
    exact this
  go_enter Tryz.func76, Tryz.ntmps76
  go_wp2_with (go_at_call 114; refine (ByteMem.toByteS _ a n c Z (h'.out.later ba) hn).mono ?_; rintro e w1 ⟨g, rfl, hg, hrow, q1⟩; have ro1 : Hid (w1.rowIs (w.heap.size + 1 + 1) 117 2 (R2 (.int .i64 s) (.slice none 0 0))) := row_later ro.out q1; have rr1 : Hid (w1.rowIs (w.heap.size + 1) 117 2 (R2 (.int .i64 0) (.slice none 0 0))) := row_later rr.out q1; obtain ⟨a0, a1, f0, f1⟩ := r2 ro1.out; obtain ⟨p0, p1, t0, t1⟩ := r2 rr1.out; have hrw : Hid (w1.rowIs g 5 n (fun j => .int .u8 (Z j))) := hrow; clear hrow)
  simp only [World.size_alloc] at hg
  obtain ⟨e0, e1⟩ := s2 (rr1.out.setOther (a := ⟨w.heap.size + 1 + 1, 1, none⟩) (by simp) (.slice (some ⟨g, 0, none⟩) n n)) (.int .i64 s) (.slice (some ⟨g, 0, none⟩) n n)
  refine bodyPost_ret ?_ rfl ⟨g, rfl, by omega, ?_, ?_⟩
  · simp [results, go_sem, e0, e1]
  · have rw' := ((hrw.out.setOther (a := ⟨w.heap.size + 1 + 1, 1, none⟩) (by simp; omega) (.slice (some ⟨g, 0, none⟩) n n)).setOther (a := ⟨w.heap.size + 1, 0, none⟩) (by simp; omega) (.int .i64 s)).setOther (a := ⟨w.heap.size + 1, 1, none⟩) (by simp; omega) (.slice (some ⟨g, 0, none⟩) n n)
    exact ⟨ByteMem.Rd.of_row rw' (Nat.le_refl _) (fun j _ => rfl) hZ, rw'.lt, rw'.frozen⟩
  · exact (ba.trans (q1.mono ba.size)).trans ((((Below.refl _ _).setCell (p := ⟨w.heap.size + 1 + 1, 1, none⟩) (by simp; omega) _).setCell (p := ⟨w.heap.size + 1, 0, none⟩) (by simp) _).setCell (p := ⟨w.heap.size + 1, 1, none⟩) (by simp) _)
set_option maxHeartbeats 2000000 in
theorem eq1 (s : Int) (a a' : Option Addr) (c c' n : Nat) (Z : Nat → Int) (w : World) (h : ByteMem.Rd w a n Z) (h2 : ByteMem.Rd w a' n Z) (hn : n ≤ 2097152) :
    Calls Tryz.prog 87 #[.agg #[.int .i64 s, .slice a n c], .agg #[.int .i64 s, .slice a' n c']] w fun e w' => e = .returned (.bool true) ∧ Below w.heap.size w w' := by
  have ba : Below w.heap.size w ((w.alloc (.cells #[.int .i64 s, .slice a n c] 117)).alloc (.cells #[.int .i64 s, .slice a' n c'] 117)) := ((Below.refl _ _).alloc (Nat.le_refl _) _).alloc (by simp) _
  have h1' : Hid (ByteMem.Rd w a n Z) := h
  have h2' : Hid (ByteMem.Rd w a' n Z) := h2
  clear h h2
  go_enter Tryz.func87, Tryz.ntmps87
  go_wp2_with (go_at_call 130; refine (ByteMem.eqByteS _ a a' n c c' Z Z (h1'.out.later ba) (h2'.out.later ba) (by omega) (fun _ _ => rfl)).mono ?_; rintro e w1 ⟨rfl, m, rfl⟩)
  go_ret
  exact ⟨rfl, below_drewN ba _⟩
def cvD (G : Nat → Nat) (l : List E) (j : Nat) : Value := if j % 2 = 0 then .int .i64 (at1 l (j / 2)).pos else .slice (some ⟨G (j / 2), 0, none⟩) (at1 l (j / 2)).n (at1 l (j / 2)).n
def zvD (j : Nat) : Value := if j % 2 = 0 then .int .i64 0 else .slice none 0 0
theorem cvD0 (G : Nat → Nat) (l : List E) (k : Nat) : cvD G l (k * 2) = .int .i64 (at1 l k).pos := by unfold cvD; rw [if_pos (by omega), show k * 2 / 2 = k by omega]
theorem cvD1 (G : Nat → Nat) (l : List E) (k : Nat) : cvD G l (k * 2 + 1) = .slice (some ⟨G k, 0, none⟩) (at1 l k).n (at1 l k).n := by unfold cvD; rw [if_neg (by omega), show (k * 2 + 1) / 2 = k by omega]
theorem cvD_upd (G : Nat → Nat) (l : List E) (k g j : Nat) (hj : j < k * 2) : cvD (fun i => if i = k then g else G i) l j = cvD G l j := by
  have : j / 2 ≠ k := by omega
  simp [cvD, this]
theorem infoD : (Tryz.prog.info? 117).map (fun i => (i.zero, i.size, i.bytes)) = some (some (.agg #[.int .i64 0, .slice none 0 0]), 2, 32) := by kernel_rfl
theorem run_mkD (m : Nat) (hn : m ≤ 1048576) (w : World) :
    (Instr.makeSlice 37 (.int .i64 (m : Int)) (.int .i64 (m : Int))).run Tryz.prog w = .ok (.slice (some ⟨w.heap.size, 0, none⟩) m m) (w.alloc (.cells (madeCells #[.int .i64 0, .slice none 0 0] (m * 2)) 117)) := by
  obtain ⟨i, hi, hzz⟩ := Option.map_eq_some_iff.1 infoD
  simp only [Prod.mk.injEq] at hzz
  obtain ⟨hz, hs, hb⟩ := hzz
  have hr := run_make (P := Tryz.prog) w 37 117 i _ Tryz.underlying37 hi hz .i64 .i64 m m (by omega) (Int.le_refl _) (by rw [hb]; omega) (by omega)
  simp only [Int.toNat_natCast, hs] at hr
  exact hr
theorem madeD (w : World) (m : Nat) : (w.alloc (.cells (madeCells #[.int .i64 0, .slice none 0 0] (m * 2)) 117)).rowIs w.heap.size 117 (m * 2) zvD :=
  ⟨madeCells #[.int .i64 0, .slice none 0 0] (m * 2), Deep.blk_alloc_new _ _, size_madeCells _ _, fun i hi => by
    have : i % 2 = 0 ∨ i % 2 = 1 := by omega
    rcases this with h | h <;> simp [madeCells, zvD, hi, h]⟩
theorem rd_other {w : World} {g n : Nat} {Z : Nat → Int} {p : Addr} (h : ByteMem.Rd w (some ⟨g, 0, none⟩) n Z) (hne : g ≠ p.block) (v : Value) : ByteMem.Rd (w.setCell p v) (some ⟨g, 0, none⟩) n Z := by
  refine ⟨h.1, ?_⟩
  rcases h.2 with h | ⟨b, off, ha, hc⟩
  · exact .inl h
  · simp only [Option.some.injEq, Addr.mk.injEq, and_true] at ha
    obtain ⟨rfl, rfl⟩ := ha
    refine .inr ⟨g, 0, rfl, fun j hj => ?_⟩
    have hk : ∀ o, (w.setCell p v).cell? ⟨g, o, none⟩ = w.cell? ⟨g, o, none⟩ := fun o => World.cell?_setCell_other (w := w) (a := p) (b := ⟨g, o, none⟩) (v := v) (fun e => hne (by first | rw [← e] | rw [e]))
    exact (hk _).trans (hc j hj)
theorem rdDF_other {w : World} {g n : Nat} {Z : Nat → Int} {p : Addr} (h : RdDF w g n Z) (hne : g ≠ p.block) (v : Value) : RdDF (w.setCell p v) g n Z := ⟨rd_other h.1 hne v, h.2.set p v⟩
set_option maxRecDepth 20000 in
set_option maxHeartbeats 8000000 in
theorem toS (w : World) (a : Option Addr) (cap : Nat) (l : List E) (h : Rd w a l) (hn : l.length ≤ 1048576) (hbd : ∀ j, j < l.length → (at1 l j).n ≤ 1048576) :
    Calls Tryz.prog 37 #[.slice a l.length cap] w fun e w' => ∃ (b : Nat) (G : Nat → Nat), e = .returned (.slice (some ⟨b, 0, none⟩) l.length l.length) ∧ w.heap.size ≤ b ∧ w'.rowIs b 117 (l.length * 2) (cvD G l) ∧ (∀ j, j < l.length → w.heap.size < G j ∧ RdDF w' (G j) (at1 l j).n (at1 l j).Z) ∧ Below w.heap.size w w' := by
  have hmk := run_mkD l.length hn
  have h' : Hid (Rd w a l) := h
  have hbd' : Hid (∀ j, j < l.length → (at1 l j).n ≤ 1048576) := hbd
  clear h hbd
  go_enter Tryz.func37, Tryz.ntmps37
  go_wp2_with fail
  clear hmk
  go_loopw [4] (fun i wr => ∃ (k : Nat) (G : Nat → Nat), k ≤ l.length ∧ i = .int .i64 k ∧ wr.rowIs w.heap.size 117 (l.length * 2) (fun j => if j < k * 2 then cvD G l j else zvD j) ∧ (∀ j, j < k → w.heap.size < G j ∧ RdDF wr (G j) (at1 l j).n (at1 l j).Z) ∧ Below w.heap.size w wr) (fun i _ => l.length - (intOf i).toNat)
  case atStart => exact ⟨0, fun _ => 0, Nat.zero_le _, rfl, (madeD w l.length).congr (fun i hi => by simp), fun j hj => by omega, (Below.refl _ _).alloc (Nat.le_refl _) _⟩
  case round =>
    obtain ⟨k, G, hk, rfl, hrow, hG, hbel⟩ := hrel
    have hwl := hrow.lt
    by_cases hlt : k < l.length
    · have hlt' : (k : Int) < (l.length : Int) := by omega
      rcases h'.out.later hbel with h0 | ⟨b, off, ha, hc⟩
      · omega
      · obtain ⟨c0, c1, hrb⟩ := hc k hlt
        subst ha
        have hT : Hid (Calls Tryz.prog 76 #[.agg #[.int .i64 (at1 l k).pos, .slice (at1 l k).ad (at1 l k).n (at1 l k).cp]] wr fun e w' => ∃ g, e = .returned (.agg #[.int .i64 (at1 l k).pos, .slice (some ⟨g, 0, none⟩) (at1 l k).n (at1 l k).n]) ∧ wr.heap.size ≤ g ∧ RdDF w' (g) (at1 l k).n (at1 l k).Z ∧ Below wr.heap.size wr w') := to1 _ _ _ _ _ wr hrb (hbd'.out k hlt)
        have e0' : Hid (∀ G, cvD G l (k * 2) = .int .i64 (at1 l k).pos) := fun G => cvD0 G l k
        have e1' : Hid (∀ G : Nat → Nat, cvD G l (k * 2 + 1) = .slice (some ⟨G k, 0, none⟩) (at1 l k).n (at1 l k).n) := fun G => cvD1 G l k
        have hrow' : Hid (wr.rowIs w.heap.size 117 (l.length * 2) (fun j => if j < k * 2 then cvD G l j else zvD j)) := hrow
        have hbel' : Hid (Below w.heap.size w wr) := hbel
        have hG' : Hid (∀ j, j < k → w.heap.size < G j ∧ RdDF wr (G j) (at1 l j).n (at1 l j).Z) := hG
        obtain ⟨bn, hbn⟩ : ∃ x, (at1 l k).n = x := ⟨_, rfl⟩
        obtain ⟨bZ, hbZ⟩ : ∃ x, (at1 l k).Z = x := ⟨_, rfl⟩
        have hbn' : Hid ((at1 l k).n = bn) := hbn
        have hbZ' : Hid ((at1 l k).Z = bZ) := hbZ
        rw [hbn] at c1 hT e1'
        rw [hbZ] at hT
        clear hrow hbel hc hrb hG hbn hbZ
        generalize (at1 l k).pos = y0 at *
        generalize (at1 l k).ad = y2 at *
        generalize (at1 l k).cp = y3 at *
        go_wp2_with (go_at_call 76; refine hT.out.mono ?_; rintro e w1 ⟨g, rfl, hg, hrg, b1⟩; have hr1 : Hid (w1.rowIs w.heap.size 117 (l.length * 2) (fun j => if j < k * 2 then cvD G l j else zvD j)) := row_later hrow'.out b1; obtain ⟨⟨z0, q0⟩, ⟨z1, q1⟩, g0, g1⟩ := MemSig.room hr1.out (i := k * 2) (by omega) (.int .i64 y0); have hrg' : Hid (RdDF w1 (g) bn bZ) := hrg; clear hrg)
        go_roundw
        case rel =>
          refine ⟨k + 1, fun i => if i = k then g else G i, by omega, by go_num, (((hr1.out.set (k * 2) (.int .i64 y0)).set (k * 2 + 1) (.slice (some ⟨g, 0, none⟩) bn bn)).congr fun j hj => ?_), fun j hj => ?_, ?_⟩
          · by_cases z1 : j = k * 2 + 1
            · rw [if_pos z1, if_pos (by omega), z1, e1'.out]; simp
            · rw [if_neg z1]
              by_cases z0 : j = k * 2
              · rw [if_pos z0, if_pos (by omega), z0, e0'.out]
              · rw [if_neg z0]
                by_cases z3 : j < k * 2
                · rw [if_pos z3, if_pos (by omega), cvD_upd G l k g j z3]
                · rw [if_neg z3, if_neg (by omega)]
          · by_cases ej : j = k
            · subst ej
              rw [hbn'.out, hbZ'.out]
              simp only [if_true]
              exact ⟨by omega, rdDF_other (rdDF_other hrg'.out (p := ⟨w.heap.size, _, none⟩) (by simp; omega) _) (p := ⟨w.heap.size, _, none⟩) (by simp; omega) _⟩
            · obtain ⟨d1, d2⟩ := hG'.out j (by omega)
              simp only [if_neg ej]
              exact ⟨d1, rdDF_other (rdDF_other (d2.later b1) (p := ⟨w.heap.size, _, none⟩) (by simp; omega) _) (p := ⟨w.heap.size, _, none⟩) (by simp; omega) _⟩
          · exact ((hbel'.out.trans (b1.mono hbel'.out.size)).setCell (Nat.le_refl _) _).setCell (Nat.le_refl _) _
        case measure => simp [intOf]; omega
    · obtain rfl : k = l.length := by omega
      have hrow' : Hid (wr.rowIs w.heap.size 117 (l.length * 2) (cvD G l)) := hrow.congr (fun j hj => by simp [hj])
      have hbel' : Hid (Below w.heap.size w wr) := hbel
      have hG' : Hid (∀ j, j < l.length → w.heap.size < G j ∧ RdDF wr (G j) (at1 l j).n (at1 l j).Z) := hG
      clear hrow hbel hG
      go_wp2_with fail
      go_ret
      exact ⟨_, G, rfl, Nat.le_refl _, hrow'.out, hG'.out, hbel'.out⟩
set_option maxRecDepth 20000 in
set_option maxHeartbeats 8000000 in
theorem eqS (w : World) (a a' : Option Addr) (cap cap' : Nat) (l l' : List E) (h : Rd w a l) (h' : Rd w a' l') (hll : l'.length = l.length) (hn : l.length ≤ 2097152)
    (hsame : ∀ j, j < l.length → (at1 l' j).pos = (at1 l j).pos ∧ (at1 l' j).n = (at1 l j).n ∧ (at1 l' j).Z = (at1 l j).Z ∧ (at1 l j).n ≤ 2097152) :
    Calls Tryz.prog 45 #[.slice a l.length cap, .slice a' l.length cap'] w fun e w' => e = .returned (.bool true) ∧ Below w.heap.size w w' := by
  have k1 : Hid (Rd w a l) := h
  have k2 : Hid (Rd w a' l') := h'
  have hsame' : Hid (∀ j, j < l.length → (at1 l' j).pos = (at1 l j).pos ∧ (at1 l' j).n = (at1 l j).n ∧ (at1 l' j).Z = (at1 l j).Z ∧ (at1 l j).n ≤ 2097152) := hsame
  clear h h' hsame
  go_enter Tryz.func45, Tryz.ntmps45
  go_wp2_with fail
  go_loopw [5] (fun i wr => ∃ k : Nat, k ≤ l.length ∧ i = .int .i64 k ∧ Below w.heap.size w wr) (fun i _ => l.length - (intOf i).toNat)
  case atStart => exact ⟨0, Nat.zero_le _, rfl, Below.refl _ _⟩
  case round =>
    obtain ⟨k, hk, rfl, hb⟩ := hrel
    by_cases hlt : k < l.length
    · have hlt' : (k : Int) < (l.length : Int) := by omega
      rcases k1.out.later hb with h0 | ⟨b, off, ha, hc⟩
      · omega
      · rcases k2.out.later hb with h0' | ⟨b', off', ha', hc'⟩
        · omega
        · obtain ⟨c0, c1, rb⟩ := hc k hlt
          obtain ⟨d0, d1, rb'⟩ := hc' k (by omega)
          obtain ⟨s1, s2, s3, s4⟩ := hsame'.out k hlt
          rw [s1] at d0
          rw [s2] at d1
          rw [s2, s3] at rb'
          subst ha ha'
          have hq : Hid (∀ u, Below wr.heap.size wr u → Calls Tryz.prog 87 #[.agg #[.int .i64 (at1 l k).pos, .slice (at1 l k).ad (at1 l k).n (at1 l k).cp], .agg #[.int .i64 (at1 l k).pos, .slice (at1 l' k).ad (at1 l k).n (at1 l' k).cp]] u fun e w' => e = .returned (.bool true) ∧ Below u.heap.size u w') := fun u hu => eq1 _ _ _ _ _ _ _ u (rb.later hu) (rb'.later hu) s4
          have hb' : Hid (Below w.heap.size w wr) := hb
          clear hb hc hc' rb rb' s1 s2 s3 s4
          generalize (at1 l k).n = bn at *
          generalize (at1 l k).pos = y0 at *
          generalize (at1 l k).ad = y2 at *
          generalize (at1 l k).cp = y3 at *
          generalize (at1 l' k).ad = y4 at *
          generalize (at1 l' k).cp = y5 at *
          go_wp2_with fail
          go_region_held (fun w' => w'.cell? ⟨b, off + k * 2, none⟩ = some (.int .i64 y0) ∧ w'.cell? ⟨b, off + k * 2 + 1, none⟩ = some (.slice y2 bn y3) ∧ w'.cell? ⟨b', off' + k * 2, none⟩ = some (.int .i64 y0) ∧ w'.cell? ⟨b', off' + k * 2 + 1, none⟩ = some (.slice y4 bn y5)) (go_keep)
            (first | (go_at_call 87; refine (hq.out _ (Below.refl _ _).drew).mono ?_; rintro e w2 ⟨rfl, b2⟩; obtain ⟨t0, t1, t2, t3⟩ := MemSig.keep b2 c0 c1 d0 d1))
          go_wp2_with fail
          go_roundw
          case rel => exact ⟨k + 1, by omega, by go_num, hb'.out.drew.trans (b2.mono hb'.out.size)⟩
          case measure => simp [intOf]; omega
    · obtain rfl : k = l.length := by omega
      have hb' : Hid (Below w.heap.size w wr) := hb
      clear hb
      go_wp2_with fail
      go_ret
      exact ⟨rfl, hb'.out⟩
end Go.Proofs.YtdaffcbamnpjfaaGreatDoor.MemData
