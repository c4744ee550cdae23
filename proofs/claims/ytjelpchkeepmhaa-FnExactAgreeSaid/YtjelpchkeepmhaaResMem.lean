/-
  Results in memory: a box of six cells; copies, sizes, comparisons.
-/
import Derived.Test.YtjelpchkeepmhaaNumMem2
namespace Go.Proofs.Ytjelpchkeepmhaa.ResMem
open Go.RowKit PlainNum NumCalls ByteMem NumMem2

def R6 (v0 v1 v2 v3 v4 v5 : Value) (j : Nat) : Value := if j = 0 then v0 else if j = 1 then v1 else if j = 2 then v2 else if j = 3 then v3 else if j = 4 then v4 else v5
theorem r6_made (w : World) (v0 v1 v2 v3 v4 v5 : Value) (t : TypeId) : (w.alloc (.cells #[v0, v1, v2, v3, v4, v5] t)).rowIs w.heap.size t 6 (R6 v0 v1 v2 v3 v4 v5) :=
  World.rowIs_alloc w #[v0, v1, v2, v3, v4, v5] t _ (fun i hi => by
    match i, hi with
    | 0, _ => rfl
    | 1, _ => rfl
    | 2, _ => rfl
    | 3, _ => rfl
    | 4, _ => rfl
    | 5, _ => rfl)
theorem r6 {w : World} {b : Nat} {t : TypeId} {v0 v1 v2 v3 v4 v5 : Value} (h : w.rowIs b t 6 (R6 v0 v1 v2 v3 v4 v5)) :
    w.cell? ⟨b, 0, none⟩ = some v0 ∧ w.cell? ⟨b, 1, none⟩ = some v1 ∧ w.cell? ⟨b, 2, none⟩ = some v2 ∧ w.cell? ⟨b, 3, none⟩ = some v3 ∧ w.cell? ⟨b, 4, none⟩ = some v4 ∧ w.cell? ⟨b, 5, none⟩ = some v5 :=
  ⟨h.cell (by omega), h.cell (by omega), h.cell (by omega), h.cell (by omega), h.cell (by omega), h.cell (by omega)⟩
theorem r6_set0 {w : World} {b : Nat} {t : TypeId} {v0 v1 v2 v3 v4 v5 : Value} (h : w.rowIs b t 6 (R6 v0 v1 v2 v3 v4 v5)) (x : Value) : (w.setCell ⟨b, 0, none⟩ x).rowIs b t 6 (R6 x v1 v2 v3 v4 v5) :=
  (h.set 0 x).congr (fun j hj => by
    match j, hj with
    | 0, _ => rfl
    | 1, _ => rfl
    | 2, _ => rfl
    | 3, _ => rfl
    | 4, _ => rfl
    | 5, _ => rfl)
theorem r6_set1 {w : World} {b : Nat} {t : TypeId} {v0 v1 v2 v3 v4 v5 : Value} (h : w.rowIs b t 6 (R6 v0 v1 v2 v3 v4 v5)) (x : Value) : (w.setCell ⟨b, 1, none⟩ x).rowIs b t 6 (R6 v0 x v2 v3 v4 v5) :=
  (h.set 1 x).congr (fun j hj => by
    match j, hj with
    | 0, _ => rfl
    | 1, _ => rfl
    | 2, _ => rfl
    | 3, _ => rfl
    | 4, _ => rfl
    | 5, _ => rfl)
theorem r6_set2 {w : World} {b : Nat} {t : TypeId} {v0 v1 v2 v3 v4 v5 : Value} (h : w.rowIs b t 6 (R6 v0 v1 v2 v3 v4 v5)) (x : Value) : (w.setCell ⟨b, 2, none⟩ x).rowIs b t 6 (R6 v0 v1 x v3 v4 v5) :=
  (h.set 2 x).congr (fun j hj => by
    match j, hj with
    | 0, _ => rfl
    | 1, _ => rfl
    | 2, _ => rfl
    | 3, _ => rfl
    | 4, _ => rfl
    | 5, _ => rfl)
theorem r6_set3 {w : World} {b : Nat} {t : TypeId} {v0 v1 v2 v3 v4 v5 : Value} (h : w.rowIs b t 6 (R6 v0 v1 v2 v3 v4 v5)) (x : Value) : (w.setCell ⟨b, 3, none⟩ x).rowIs b t 6 (R6 v0 v1 v2 x v4 v5) :=
  (h.set 3 x).congr (fun j hj => by
    match j, hj with
    | 0, _ => rfl
    | 1, _ => rfl
    | 2, _ => rfl
    | 3, _ => rfl
    | 4, _ => rfl
    | 5, _ => rfl)
theorem r6_set4 {w : World} {b : Nat} {t : TypeId} {v0 v1 v2 v3 v4 v5 : Value} (h : w.rowIs b t 6 (R6 v0 v1 v2 v3 v4 v5)) (x : Value) : (w.setCell ⟨b, 4, none⟩ x).rowIs b t 6 (R6 v0 v1 v2 v3 x v5) :=
  (h.set 4 x).congr (fun j hj => by
    match j, hj with
    | 0, _ => rfl
    | 1, _ => rfl
    | 2, _ => rfl
    | 3, _ => rfl
    | 4, _ => rfl
    | 5, _ => rfl)
theorem r6_set5 {w : World} {b : Nat} {t : TypeId} {v0 v1 v2 v3 v4 v5 : Value} (h : w.rowIs b t 6 (R6 v0 v1 v2 v3 v4 v5)) (x : Value) : (w.setCell ⟨b, 5, none⟩ x).rowIs b t 6 (R6 v0 v1 v2 v3 v4 x) :=
  (h.set 5 x).congr (fun j hj => by
    match j, hj with
    | 0, _ => rfl
    | 1, _ => rfl
    | 2, _ => rfl
    | 3, _ => rfl
    | 4, _ => rfl
    | 5, _ => rfl)
theorem row_later {w w' : World} {b : Nat} {t : TypeId} {n : Nat} {f : Nat → Value} (h : w.rowIs b t n f) (hb : Below w.heap.size w w') : w'.rowIs b t n f := h.of_block (hb.block b h.lt)
/-- A result: what it holds. -/
structure Rs where
  fin : Int
  why : Int
  num : Int
  outs : List Int
  steps : Int
  gls : List Int
/-- The value of a result whose lists lie at p and q. -/
def val (r : Rs) (p q : Option Addr) (c d : Nat) : Value := .agg #[.int .i64 r.fin, .int .i64 r.why, .int .i64 r.num, .slice p r.outs.length c, .int .i64 r.steps, .slice q r.gls.length d]
/-- Its lists can be read there. -/
structure Rd (w : World) (r : Rs) (p q : Option Addr) : Prop where
  outs : RdN w p r.outs.length (fun j => r.outs.getD j 0)
  gls : RdN w q r.gls.length (fun j => r.gls.getD j 0)
theorem Rd.later {w w' : World} {r : Rs} {p q : Option Addr} (h : Rd w r p q) (hb : Below w.heap.size w w') : Rd w' r p q := ⟨h.outs.later hb, h.gls.later hb⟩
theorem below_dn (w : World) (m : Nat) : Below w.heap.size w (w.drewN m) := ⟨rfl, rfl, rfl, Nat.le_refl _, fun _ _ => rfl⟩
theorem szIntS (w : World) (a : Option Addr) (n cap : Nat) (l : Int) (hn : n ≤ 9223372036854775807) (l0 : 0 ≤ l) (l1 : l ≤ 1048576) :
    Calls Try.prog 9 #[.slice a n cap, .int .i64 l] w fun e w' => e = .returned (.int .i64 (if l - n < 0 then -1 else l - n)) ∧ w = w' := by
  go_enter Try.func9, Try.ntmps9
  go_wp2_with fail
  · go_ret
    exact ⟨rfl, rfl⟩
  · go_ret
    exact ⟨rfl, rfl⟩
theorem info3 : (Try.prog.info? 3).map (fun i => (i.zero, i.size, i.bytes)) = some (some (.int .i64 0), 1, 8) := by kernel_rfl
theorem toIntS (w : World) (a : Option Addr) (n cap : Nat) (Z : Nat → Int) (h : RdN w a n Z) (hn : n ≤ 1048576) :
    Calls Try.prog 12 #[.slice a n cap] w fun e w' => ∃ b, e = .returned (.slice (some ⟨b, 0, none⟩) n n) ∧ w.heap.size ≤ b ∧ w'.rowIs b 3 n (fun j => .int .i64 (Z j)) ∧ Below w.heap.size w w' := by
  have hmk := run_make_row' (P := Try.prog) 22 3 (.int .i64 0) 8 Try.underlying22 info3 rfl .i64 .i64 n (by omega) (by omega)
  have h' : Hid (RdN w a n Z) := h
  clear h
  go_enter Try.func12, Try.ntmps12
  go_wp2_with fail
  clear hmk
  go_loopw [4] (fun i wr => ∃ k : Nat, k ≤ n ∧ i = .int .i64 k ∧ wr.rowIs w.heap.size 3 n (fun j => if j < k then .int .i64 (Z j) else .int .i64 0) ∧ Below w.heap.size w wr) (fun i _ => n - (intOf i).toNat)
  case atStart => exact ⟨0, Nat.zero_le _, rfl, (World.rowIs_made w (.int .i64 0) n 3).congr (fun i hi => by simp), (Below.refl _ _).alloc (Nat.le_refl _) _⟩
  case round =>
    obtain ⟨k, hk, rfl, hrow, hbel⟩ := hrel
    by_cases hlt : k < n
    · have hlt' : (k : Int) < (n : Int) := by omega
      rcases h'.out with h0 | ⟨b, off, ha, hc⟩
      · omega
      · have hbb : b < w.heap.size := World.block_lt_of_cell? w _ (hc k hlt)
        have hc1 : wr.cell? ⟨b, off + k, none⟩ = some (.int .i64 (Z k)) := by rw [hbel.cell hbb]; exact hc k hlt
        have hc2 : wr.cell? ⟨w.heap.size, k, none⟩ = some (.int .i64 0) := by rw [hrow.cell hlt]; simp
        have hf2 : wr.frozen? ⟨w.heap.size, k, none⟩ = false := hrow.frozen k
        have hrow' : Hid ((wr.setCell ⟨w.heap.size, k, none⟩ (.int .i64 (Z k))).rowIs w.heap.size 3 n (fun j => if j < k + 1 then .int .i64 (Z j) else .int .i64 0)) :=
          (hrow.set k (.int .i64 (Z k))).congr (fun j hj => by
            by_cases e1 : j = k
            · subst e1; simp
            · by_cases e2 : j < k
              · simp [e1, e2, show j < k + 1 by omega]
              · simp [e1, e2, show ¬ j < k + 1 by omega])
        have hbel' : Hid (Below w.heap.size w (wr.setCell ⟨w.heap.size, k, none⟩ (.int .i64 (Z k)))) := hbel.setCell (Nat.le_refl _) _
        subst ha
        clear hrow hbel hc
        generalize Z k = z at *
        go_wp2_with fail
        go_roundw
        case rel => exact ⟨k + 1, by omega, by go_num, hrow'.out, hbel'.out⟩
        case measure => simp [intOf]; omega
    · obtain rfl : k = n := by omega
      have hrow' : Hid (wr.rowIs w.heap.size 3 k (fun j => .int .i64 (Z j))) := hrow.congr (fun j hj => by simp [hj])
      have hbel' : Hid (Below w.heap.size w wr) := hbel
      clear hrow hbel
      go_wp2_with fail
      go_ret
      exact ⟨_, rfl, Nat.le_refl _, hrow'.out, hbel'.out⟩
theorem rd_row {w : World} {b n : Nat} {Z : Nat → Int} (h : w.rowIs b 3 n (fun j => .int .i64 (Z j))) : RdN w (some ⟨b, 0, none⟩) n Z := .inr ⟨b, 0, rfl, fun j hj => by rw [Nat.zero_add]; exact h.cell hj⟩
/-- Box b holds the six, and what lay there lies there still. -/
structure TB (w u : World) (b : Nat) (t : TypeId) (v0 v1 v2 v3 v4 v5 : Value) : Prop where
  ra : u.rowIs b t 6 (R6 v0 v1 v2 v3 v4 v5)
  bl : Below w.heap.size w u
theorem TB.call {w u u' : World} {b : Nat} {t : TypeId} {v0 v1 v2 v3 v4 v5 : Value} (h : TB w u b t v0 v1 v2 v3 v4 v5) (hb : Below u.heap.size u u') : TB w u' b t v0 v1 v2 v3 v4 v5 := ⟨row_later h.ra hb, h.bl.trans (hb.mono h.bl.size)⟩
set_option maxHeartbeats 1000000 in
theorem szRes0 (w : World) (x0 x1 x2 x4 : Int) (p q : Option Addr) (n1 c n2 d : Nat) (l : Int) (h1 : n1 ≤ 9223372036854775807) (h2 : n2 ≤ 9223372036854775807) (l0 : 0 ≤ l) (l1 : l ≤ 1048576) :
    Calls Try.prog 4 #[.agg #[.int .i64 x0, .int .i64 x1, .int .i64 x2, .slice p n1 c, .int .i64 x4, .slice q n2 d], .int .i64 l] w fun e w' => ∃ z : Int, e = .returned (.int .i64 z) ∧ z ≤ l ∧ -1 ≤ z ∧ (0 ≤ z → n1 ≤ 1048576 ∧ n2 ≤ 1048576) ∧ Below w.heap.size w w' := by
  have k : Hid (∀ (u : World) (a : Option Addr) (n cap : Nat) (l : Int), n ≤ 9223372036854775807 → 0 ≤ l → l ≤ 1048576 → Calls Try.prog 9 #[.slice a n cap, .int .i64 l] u fun e w' => e = .returned (.int .i64 (if l - n < 0 then -1 else l - n)) ∧ u = w') := szIntS
  have T0 : Hid (TB w (w.alloc (.cells #[.int .i64 x0, .int .i64 x1, .int .i64 x2, .slice p n1 c, .int .i64 x4, .slice q n2 d] 24)) w.heap.size 24 (.int .i64 x0) (.int .i64 x1) (.int .i64 x2) (.slice p n1 c) (.int .i64 x4) (.slice q n2 d)) := ⟨r6_made w _ _ _ _ _ _ _, (Below.refl _ _).alloc (Nat.le_refl _) _⟩
  go_enter Try.func4, Try.ntmps4
  go_wp2_with (go_at_call 9; refine (k.out _ _ _ _ _ (by assumption) (by omega) (by omega)).mono ?_; rintro e w1 ⟨rfl, rfl⟩)
  · go_ret
    exact ⟨_, rfl, by omega, by omega, fun h => by omega, T0.out.bl⟩
  · go_ret
    exact ⟨_, rfl, by omega, by omega, fun h => by omega, T0.out.bl⟩
  · go_ret
    exact ⟨_, rfl, by omega, by omega, fun _ => by omega, T0.out.bl⟩
structure TM (w u : World) (x0 x1 x2 x3 x4 x5 y0 y1 y2 y3 y4 y5 : Value) : Prop where
  ra : u.rowIs w.heap.size 24 6 (R6 x0 x1 x2 x3 x4 x5)
  rr : u.rowIs (w.heap.size + 1) 27 6 (R6 (.int .i64 0) (.int .i64 0) (.int .i64 0) (.slice none 0 0) (.int .i64 0) (.slice none 0 0))
  ro : u.rowIs (w.heap.size + 1 + 1) 27 6 (R6 y0 y1 y2 y3 y4 y5)
  bl : Below w.heap.size w u
theorem TM.call {w u u' : World} {x0 x1 x2 x3 x4 x5 y0 y1 y2 y3 y4 y5 : Value} (h : TM w u x0 x1 x2 x3 x4 x5 y0 y1 y2 y3 y4 y5) (q : Below u.heap.size u u') : TM w u' x0 x1 x2 x3 x4 x5 y0 y1 y2 y3 y4 y5 :=
  ⟨row_later h.ra q, row_later h.rr q, row_later h.ro q, h.bl.trans (q.mono h.bl.size)⟩
theorem TM.size {w u : World} {x0 x1 x2 x3 x4 x5 y0 y1 y2 y3 y4 y5 : Value} (h : TM w u x0 x1 x2 x3 x4 x5 y0 y1 y2 y3 y4 y5) : w.heap.size + 3 ≤ u.heap.size := h.ro.lt
theorem TM.set0 {w u : World} {x0 x1 x2 x3 x4 x5 y0 y1 y2 y3 y4 y5 : Value} (h : TM w u x0 x1 x2 x3 x4 x5 y0 y1 y2 y3 y4 y5) (v : Value) : TM w (u.setCell ⟨w.heap.size + 1 + 1, 0, none⟩ v) x0 x1 x2 x3 x4 x5 v y1 y2 y3 y4 y5 :=
  ⟨h.ra.setOther (a := ⟨w.heap.size + 1 + 1, 0, none⟩) (by simp; omega) v, h.rr.setOther (a := ⟨w.heap.size + 1 + 1, 0, none⟩) (by simp) v, r6_set0 h.ro v, h.bl.setCell (p := ⟨w.heap.size + 1 + 1, 0, none⟩) (by simp; omega) v⟩
theorem TM.set1 {w u : World} {x0 x1 x2 x3 x4 x5 y0 y1 y2 y3 y4 y5 : Value} (h : TM w u x0 x1 x2 x3 x4 x5 y0 y1 y2 y3 y4 y5) (v : Value) : TM w (u.setCell ⟨w.heap.size + 1 + 1, 1, none⟩ v) x0 x1 x2 x3 x4 x5 y0 v y2 y3 y4 y5 :=
  ⟨h.ra.setOther (a := ⟨w.heap.size + 1 + 1, 1, none⟩) (by simp; omega) v, h.rr.setOther (a := ⟨w.heap.size + 1 + 1, 1, none⟩) (by simp) v, r6_set1 h.ro v, h.bl.setCell (p := ⟨w.heap.size + 1 + 1, 1, none⟩) (by simp; omega) v⟩
theorem TM.set2 {w u : World} {x0 x1 x2 x3 x4 x5 y0 y1 y2 y3 y4 y5 : Value} (h : TM w u x0 x1 x2 x3 x4 x5 y0 y1 y2 y3 y4 y5) (v : Value) : TM w (u.setCell ⟨w.heap.size + 1 + 1, 2, none⟩ v) x0 x1 x2 x3 x4 x5 y0 y1 v y3 y4 y5 :=
  ⟨h.ra.setOther (a := ⟨w.heap.size + 1 + 1, 2, none⟩) (by simp; omega) v, h.rr.setOther (a := ⟨w.heap.size + 1 + 1, 2, none⟩) (by simp) v, r6_set2 h.ro v, h.bl.setCell (p := ⟨w.heap.size + 1 + 1, 2, none⟩) (by simp; omega) v⟩
theorem TM.set3 {w u : World} {x0 x1 x2 x3 x4 x5 y0 y1 y2 y3 y4 y5 : Value} (h : TM w u x0 x1 x2 x3 x4 x5 y0 y1 y2 y3 y4 y5) (v : Value) : TM w (u.setCell ⟨w.heap.size + 1 + 1, 3, none⟩ v) x0 x1 x2 x3 x4 x5 y0 y1 y2 v y4 y5 :=
  ⟨h.ra.setOther (a := ⟨w.heap.size + 1 + 1, 3, none⟩) (by simp; omega) v, h.rr.setOther (a := ⟨w.heap.size + 1 + 1, 3, none⟩) (by simp) v, r6_set3 h.ro v, h.bl.setCell (p := ⟨w.heap.size + 1 + 1, 3, none⟩) (by simp; omega) v⟩
theorem TM.set4 {w u : World} {x0 x1 x2 x3 x4 x5 y0 y1 y2 y3 y4 y5 : Value} (h : TM w u x0 x1 x2 x3 x4 x5 y0 y1 y2 y3 y4 y5) (v : Value) : TM w (u.setCell ⟨w.heap.size + 1 + 1, 4, none⟩ v) x0 x1 x2 x3 x4 x5 y0 y1 y2 y3 v y5 :=
  ⟨h.ra.setOther (a := ⟨w.heap.size + 1 + 1, 4, none⟩) (by simp; omega) v, h.rr.setOther (a := ⟨w.heap.size + 1 + 1, 4, none⟩) (by simp) v, r6_set4 h.ro v, h.bl.setCell (p := ⟨w.heap.size + 1 + 1, 4, none⟩) (by simp; omega) v⟩
theorem TM.set5 {w u : World} {x0 x1 x2 x3 x4 x5 y0 y1 y2 y3 y4 y5 : Value} (h : TM w u x0 x1 x2 x3 x4 x5 y0 y1 y2 y3 y4 y5) (v : Value) : TM w (u.setCell ⟨w.heap.size + 1 + 1, 5, none⟩ v) x0 x1 x2 x3 x4 x5 y0 y1 y2 y3 y4 v :=
  ⟨h.ra.setOther (a := ⟨w.heap.size + 1 + 1, 5, none⟩) (by simp; omega) v, h.rr.setOther (a := ⟨w.heap.size + 1 + 1, 5, none⟩) (by simp) v, r6_set5 h.ro v, h.bl.setCell (p := ⟨w.heap.size + 1 + 1, 5, none⟩) (by simp; omega) v⟩
end Go.Proofs.Ytjelpchkeepmhaa.ResMem
