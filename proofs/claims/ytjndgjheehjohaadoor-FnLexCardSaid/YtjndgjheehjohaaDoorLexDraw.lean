/-
  What the law of Lex draws: some text of a bounded length.
-/
import Derived.Test.YtjndgjheehjohaaDoorDrawKeep
import Derived.Test.YtjndgjheehjohaaDoorLexImpl
import Derived.Lib.ConvBytes
namespace Go.Proofs.YtjndgjheehjohaaDoor.LexDraw
open Go.RowKit InsMem PlainOps NameCalls WordCalls Draws DrawKeep

def okS : Value → Bool
  | .string s => decide (0 < s.size) && decide (s.size ≤ 300)
  | _ => false
/-- A row of texts, none empty, none long. -/
def Texts (w : World) (b n : Nat) : Prop := ∀ j, j < n → ∃ s, w.cell? ⟨b, j, none⟩ = some (.string s) ∧ 0 < s.size ∧ s.size ≤ 300
theorem texts_of {w : World} {b : Nat} {vs : List Value} (h : Holds w b vs) (ho : vs.all okS = true) : Texts w b vs.length := by
  intro j hj
  have hv := List.all_eq_true.1 ho (vs[j]) (List.getElem_mem hj)
  have hc := h j _ (List.getElem?_eq_getElem hj)
  cases hq : vs[j] with
  | string s =>
    rw [hq] at hv hc
    simp [okS] at hv
    exact ⟨s, hc, hv.1, hv.2⟩
  | _ => rw [hq] at hv; cases hv
theorem Texts.later {w w' : World} {b n : Nat} (h : Texts w b n) (hb : Below w.heap.size w w') : Texts w' b n := fun j hj => by
  obtain ⟨s, hc, h1⟩ := h j hj
  exact ⟨s, by rw [hb.cell (World.block_lt_of_cell? w _ hc)]; exact hc, h1⟩
theorem Texts.grown {w w' : World} {b n blk : Nat} (h : Texts w b n) (hg : w.grownBy w' (some blk)) (hne : b ≠ blk) : Texts w' b n := fun j hj => by
  obtain ⟨s, hc, h1⟩ := h j hj
  refine ⟨s, ?_, h1⟩
  rw [World.cell?_of_block (w := w) (hg.block b (World.block_lt_of_cell? w _ hc) (fun e => hne (Option.some.inj e)))]
  exact hc
theorem spec_programs (w : World) :
    Calls Tryd.prog 67 #[] w fun e w' => e = .returned (.slice (some ⟨w.heap.size, 0, none⟩) 14 14) ∧ Texts w' w.heap.size 14 ∧ Below w.heap.size w w' := by
  go_enter Tryd.func67, Tryd.ntmps67
  go_wp2_with fail
  go_ret
  exact ⟨rfl, texts_of (Holds.made w _ _) (by decide +kernel), (Below.refl _ _).alloc (Nat.le_refl _) _⟩
theorem base {B blk : Nat} {w0 w1 w : World} (h : StK B w0 blk w1 w) : StK B w0 blk w w := ⟨h.1, ⟨rfl, rfl, rfl, Nat.le_refl _, fun _ _ _ => rfl⟩⟩
theorem bytes_below (w : World) (s : ByteArray) : Below w.heap.size w (Lib.bytesWorld w 5 s) := ⟨rfl, rfl, rfl, by rw [Lib.bytesWorld_size]; omega, fun k hk => Lib.bytesWorld_at_old w 5 s k hk⟩
/-- A row that holds a text's bytes, and can be written. -/
def BRow (w : World) (b : Nat) (s : ByteArray) : Prop := ∀ j, j < s.size → w.cell? ⟨b, j, none⟩ = some (.int .u8 ((s.data.toList.getD j 0).toNat : Int)) ∧ w.frozen? ⟨b, j, none⟩ = false
theorem bytes_row (w : World) (s : ByteArray) : BRow (Lib.bytesWorld w 5 s) w.heap.size s := fun j hj => by
  refine ⟨Lib.bytesWorld_cell w 5 s j hj, ?_⟩
  have hz : s.size ≤ (Lib.bytesCells w 5 s).size := by unfold Lib.bytesCells; simp
  unfold World.frozen?
  rw [Lib.bytesWorld_at_new]
  simp
  omega
theorem BRow.grown {w w' : World} {b blk : Nat} {s : ByteArray} (h : BRow w b s) (hg : w.grownBy w' (some blk)) (hlt : b < w.heap.size) (hne : b ≠ blk) : BRow w' b s := fun j hj => by
  obtain ⟨hc, hf⟩ := h j hj
  have hb := hg.block b hlt (fun e => hne (Option.some.inj e))
  exact ⟨(World.cell?_of_block (w := w) (a := ⟨b, j, none⟩) hb).trans hc, (World.frozen?_of_block (w := w) (a := ⟨b, j, none⟩) hb).trans hf⟩
/-- The text with one byte changed. -/
theorem conv_set {w : World} {b n : Nat} {s : ByteArray} {z : Int} (h : BRow w b s) (hn : n < s.size) (z0 : 0 ≤ z) (z1 : z ≤ 255) (cap : Nat) :
    ∃ s' : ByteArray, s'.size = s.size ∧ (convert 40 9 (.slice (some ⟨b, 0, none⟩) s.size cap)).run Tryd.prog (w.setCell ⟨b, n, none⟩ (.int .u8 z)) = .ok (.string s') (w.setCell ⟨b, n, none⟩ (.int .u8 z)) := by
  have hl : (s.data.toList.set n (UInt8.ofNat z.toNat)).length = s.size := by rw [List.length_set]; rfl
  refine ⟨tx (s.data.toList.set n (UInt8.ofNat z.toNat)), by rw [size_list (tx_list _), hl], ?_⟩
  have := run_convert_bytes_back (P := Tryd.prog) (w.setCell ⟨b, n, none⟩ (.int .u8 z)) 40 9 5 ⟨b, 0, none⟩ cap (s.data.toList.set n (UInt8.ofNat z.toNat)) Tryd.underlying40 Tryd.underlying5 Tryd.underlying9 (fun j hj => by
    have hj' : j < s.size := by rw [← hl]; exact hj
    have e : (⟨b, 0, none⟩ : Addr).add j = ⟨b, j, none⟩ := by cases j <;> simp [Addr.add]
    rw [e]
    by_cases hjn : j = n
    · subst hjn
      rw [World.cell?_setCell_same _ _ _ (h j hj').1, List.getElem_set_self]
      have : (UInt8.ofNat z.toNat).toNat = z.toNat := by rw [UInt8.toNat_ofNat']; omega
      rw [this, Int.toNat_of_nonneg z0]
    · rw [World.cell?_setCell_other _ _ _ _ (fun e => hjn (by injection e with _ e2; exact e2.symm)), (h j hj').1, List.getElem_set_ne (fun e => hjn e.symm)]
      have hjl : j < s.data.toList.length := hj'
      rw [List.getD, List.getElem?_eq_getElem hjl]
      rfl)
  rw [hl] at this
  exact this
set_option maxRecDepth 20000 in
set_option maxHeartbeats 4000000 in
theorem textS {B blk : Nat} {w0 w : World} (h : St B w0 blk w) :
    Calls Tryd.prog 41 #[.pointer (some ⟨blk, 0, none⟩)] w fun e w' => ∃ s, e = .returned (.string s) ∧ s.size ≤ 1000 ∧ St B w0 blk w' := by
  have hlt : Hid (blk < w.heap.size) := cur_lt h.1
  have hB : Hid (B ≤ w.heap.size) := Nat.le_of_lt (Nat.lt_of_le_of_lt h.1.1 (cur_lt h.1))
  have h' : Hid (St B w0 blk w) := h
  have one : Hid (True) := trivial
  have two : Hid (True ∧ True) := ⟨trivial, trivial⟩
  clear h
  go_enter Tryd.func41, Tryd.ntmps41
  go_wp2_with (go_at_call 67; refine (spec_programs _).mono ?_; rintro e w1 ⟨rfl, t1, q1⟩; have T1 : Hid (Texts w1 w.heap.size 14) := t1; have K1 : Hid (StK B w0 blk w1 w1) := ⟨st_past h'.out q1 hB.out hlt.out, ⟨rfl, rfl, rfl, Nat.le_refl _, fun _ _ _ => rfl⟩⟩; have z1 := q1.size; clear t1 q1)
  go_wp2_with (go_at_call 42; refine (belowK 14 K1.out).mono ?_; rintro e w2 ⟨x, rfl, x0, x1, k2⟩; have hx := x1 (by decide); obtain ⟨n, rfl⟩ : ∃ n : Nat, x = n := ⟨x.toNat, by omega⟩; have K2 : Hid (StK B w0 blk w1 w2) := k2; obtain ⟨s, hs, s0, s1⟩ := (T1.out.grown k2.2 (by have := hlt.out; omega)) n (by omega); clear k2 x0 x1 one K1)
  (go_at_call 42; refine (belowK 10 K2.out).mono ?_; rintro e w3 ⟨k, rfl, k0, _, k3⟩)
  have K3 : Hid (StK B w0 blk w1 w3) := k3
  have z3 : w1.heap.size ≤ w3.heap.size := k3.2.size
  clear k3 two K2 hs T1 hx
  have hl3 : Hid (blk < w1.heap.size) := by have := hlt.out; show _ < _; omega
  have hcv : ∀ u : World, (convert 9 40 (.string s)).run Tryd.prog u = .ok (.slice (some ⟨u.heap.size, 0, none⟩) s.size (grownCap u s.size 0 5)) (Lib.bytesWorld u 5 s) := fun u => Lib.run_convert_string_bytes (P := Tryd.prog) u 9 40 5 s Tryd.underlying9 Tryd.underlying40 Tryd.underlying5
  by_cases h0 : k = 0
  · subst h0
    go_wp2_with fail
    have R0 : Hid (BRow (Lib.bytesWorld w3 5 s) w3.heap.size s) := bytes_row w3 s
    have b0 := bytes_below w3 s
    have K4 : Hid (StK B w0 blk (Lib.bytesWorld w3 5 s) (Lib.bytesWorld w3 5 s)) := base (stk_past K3.out hl3.out (b0.mono z3))
    have z4 : (Lib.bytesWorld w3 5 s).heap.size = w3.heap.size + 1 := Lib.bytesWorld_size w3 5 s
    have hne : w3.heap.size ≠ blk := by have := hl3.out; omega
    clear hcv b0
    go_wp2_with (go_at_call 42; refine (belowK (s.size : Int) K4.out).mono ?_; rintro e w4 ⟨x, rfl, x0, x1, k4⟩; have hx := x1 (by omega); obtain ⟨n1, rfl⟩ : ∃ n : Nat, x = n := ⟨x.toNat, by omega⟩; have K5 : Hid (StK B w0 blk (Lib.bytesWorld w3 5 s) w4) := k4; have R4 : Hid (BRow w4 w3.heap.size s) := R0.out.grown k4.2 (by omega) hne; have z5 := k4.2.size; clear k4 x1 K4 R0)
    have hx' : n1 < s.size := by omega
    obtain ⟨c5, f5⟩ := R4.out n1 hx'
    have K6 : Hid (StK B w0 blk (w4.alloc (.cells #[.int .u8 32, .int .u8 59, .int .u8 40, .int .u8 125, .int .u8 48, .int .u8 120, .int .u8 35, .int .u8 10] 5)) (w4.alloc (.cells #[.int .u8 32, .int .u8 59, .int .u8 40, .int .u8 125, .int .u8 48, .int .u8 120, .int .u8 35, .int .u8 10] 5))) := base (stk_past K5.out (by rw [z4]; have := hl3.out; omega) ((Below.refl _ _).alloc z5 _))
    have L6 : Hid (∀ j, j < 8 → ∃ c : Int, 0 ≤ c ∧ c ≤ 255 ∧ (w4.alloc (.cells #[.int .u8 32, .int .u8 59, .int .u8 40, .int .u8 125, .int .u8 48, .int .u8 120, .int .u8 35, .int .u8 10] 5)).cell? ⟨w4.heap.size, j, none⟩ = some (.int .u8 c)) := fun j hj => by
      match j, hj with
      | 0, _ => exact ⟨32, by omega, by omega, by simp⟩
      | 1, _ => exact ⟨59, by omega, by omega, by simp⟩
      | 2, _ => exact ⟨40, by omega, by omega, by simp⟩
      | 3, _ => exact ⟨125, by omega, by omega, by simp⟩
      | 4, _ => exact ⟨48, by omega, by omega, by simp⟩
      | 5, _ => exact ⟨120, by omega, by omega, by simp⟩
      | 6, _ => exact ⟨35, by omega, by omega, by simp⟩
      | 7, _ => exact ⟨10, by omega, by omega, by simp⟩
    have R6 : Hid (BRow (w4.alloc (.cells #[.int .u8 32, .int .u8 59, .int .u8 40, .int .u8 125, .int .u8 48, .int .u8 120, .int .u8 35, .int .u8 10] 5)) w3.heap.size s) := R4.out.grown (blk := blk) ⟨rfl, rfl, rfl, by simp, fun k hk _ => Deep.blk_alloc_lt _ _ _ hk⟩ (by omega) hne
    clear c5 f5
    (go_at_call 42; refine (belowK 8 K6.out).mono ?_; rintro e w5 ⟨x, rfl, y0, y1, k6⟩)
    have hy := y1 (by decide)
    obtain ⟨n2, rfl⟩ : ∃ n : Nat, x = n := ⟨x.toNat, by omega⟩
    obtain ⟨c, cl, ch, hc⟩ := L6.out n2 (by omega)
    have hc5 : w5.cell? ⟨w4.heap.size, n2, none⟩ = some (.int .u8 c) := (World.cell?_of_block (w := _) (k6.2.block w4.heap.size (by simp) (fun e => by have := Option.some.inj e; have := hl3.out; omega))).trans hc
    have R7 : BRow w5 w3.heap.size s := R6.out.grown k6.2 (by simp; omega) hne
    obtain ⟨c7, f7⟩ := R7 n1 hx'
    obtain ⟨s', hs', hcb⟩ := conv_set R7 hx' cl ch (grownCap w3 s.size 0 5)
    have St7 : Hid (St B w0 blk (w5.setCell ⟨w3.heap.size, n1, none⟩ (.int .u8 c))) := st_past (B' := w3.heap.size) k6.1 (Below.setCell (p := ⟨w3.heap.size, n1, none⟩) (Below.refl w3.heap.size w5) (Nat.le_refl _) _) (by have := hB.out; omega) (by have := hl3.out; omega)
    clear R7 R6 R4 L6 K6 K5 k6 hc y1
    go_wp2_with fail
    go_ret
    exact ⟨s', rfl, by omega, St7.out⟩
  · have h0' : (k == 0) = false := beq_false_of_ne h0
    clear hcv
    by_cases h1 : k = 1
    · subst h1
      go_wp2_with (go_at_call 42; refine (belowK (s.size : Int) K3.out).mono ?_; rintro e w4 ⟨x, rfl, x0, x1, k4⟩; have hx := x1 (by omega); obtain ⟨n1, rfl⟩ : ∃ n : Nat, x = n := ⟨x.toNat, by omega⟩; have K5 : Hid (StK B w0 blk w1 w4) := k4; clear k4 x1 K3)
      have hx' : n1 < s.size := by omega
      have hz : Hid (∀ t : ByteArray, t.size = 7 → ((s.extract 0 n1 ++ t) ++ s.extract n1 s.size).size ≤ 1000) := fun t ht => by
        rw [ByteArray.size_append, ByteArray.size_append, ByteArray.size_extract, ByteArray.size_extract]
        omega
      have st5 : Hid (St B w0 blk w4) := K5.out.1
      go_region
      go_wp2_with fail
      go_ret
      exact ⟨_, rfl, hz.out _ (by decide), st_past (B' := w4.heap.size) st5.out ((Below.refl _ _).drew) (by have := hB.out; have := K5.out.2.size; omega) (by have := K5.out.2.size; have := hl3.out; omega)⟩
    · have h1' : (k == 1) = false := beq_false_of_ne h1
      by_cases h2 : k = 2
      · subst h2
        go_wp2_with (go_at_call 42; refine (belowK 7 (base (stk_past K3.out hl3.out ((Below.refl _ _).alloc z3 _)))).mono ?_; rintro e w4 ⟨x, rfl, x0, x1, k4⟩; have hx := x1 (by decide); obtain ⟨n1, rfl⟩ : ∃ n : Nat, x = n := ⟨x.toNat, by omega⟩; have st5 : Hid (St B w0 blk w4) := k4.1; obtain ⟨t, ht, t0, t1⟩ := (Texts.grown (texts_of (Holds.made w3 _ _) (by decide +kernel)) k4.2 (by have := hl3.out; omega)) n1 (by show n1 < 7; omega); clear k4 x1 K3)
        go_ret
        exact ⟨_, rfl, by rw [ByteArray.size_append]; omega, st5.out⟩
      · have h2' : (k == 2) = false := beq_false_of_ne h2
        go_wp2_with fail
        go_ret
        exact ⟨s, rfl, by omega, K3.out.1⟩
set_option maxHeartbeats 4000000 in
theorem drawLex {cap len : Nat} {a : Option Addr} {w0 w : World} (hs : Src w0.heap.size w0 a len) (hb : Below w0.heap.size w0 w) :
    Calls Tryd.prog 23 #[.slice a len cap] w fun e w' => ∃ s, e = .returned (.string s) ∧ s.size ≤ 7000 ∧ Below w0.heap.size w0 w' := by
  go_enter Tryd.func23, Tryd.ntmps23
  go_wp2_with (first
    | (go_at_call 40; refine (newB hs (Nat.le_refl _) hb).mono ?_; rintro e w1 ⟨blk, rfl, h1⟩; have H1 : Hid (St w0.heap.size w0 blk w1) := h1; clear h1)
    | (go_at_call 41; refine (textS H1.out).mono ?_; rintro e w2 ⟨s, rfl, hs1, h2⟩; have H2 : Hid (St w0.heap.size w0 blk w2) := h2; clear h2 H1))
  (go_at_call 42; refine (belowS 40 H2.out).mono ?_; rintro e w3 ⟨x, rfl, x0, _, h3⟩)
  have H3 : Hid (St w0.heap.size w0 blk w3) := h3
  clear h3 H2 hs hb
  by_cases hx : x = 0
  · subst hx
    go_wp2_with fail
    go_loopw [4] (fun vs wr => ∃ t : ByteArray, vs = .string t ∧ t.size ≤ 6001 ∧ St w0.heap.size w0 blk wr) (fun vs _ => match vs with | .string t => 7000 - t.size | _ => 0)
    case atStart => exact ⟨s, rfl, by omega, H3.out⟩
    case round =>
      obtain ⟨t, rfl, ht, hst⟩ := hrel
      have H4 : Hid (St w0.heap.size w0 blk wr) := hst
      clear hst H3
      have hap : Hid ((t ++ ⟨#[32]⟩).size = t.size + 1) := by show _ = _; rw [ByteArray.size_append]; rfl
      go_wp2_with (go_at_call 42; refine (belowS 2 H4.out).mono ?_; rintro e w5 ⟨y, rfl, y0, y1, h5⟩; have H5 : Hid (St w0.heap.size w0 blk w5) := h5; have hy := y1 (by decide); clear h5 y1 H4)
      · go_roundw
        case rel => exact ⟨_, rfl, by rw [hap.out]; omega, H5.out⟩
        case measure =>
          show 7000 - (t ++ ⟨#[32]⟩).size < 7000 - t.size
          rw [hap.out]
          omega
      · go_ret
        exact ⟨t, rfl, by omega, H5.out.2⟩
  · have hx' : (x == 0) = false := beq_false_of_ne hx
    go_wp2_with fail
    go_ret
    exact ⟨s, rfl, by omega, H3.out.2⟩
end Go.Proofs.YtjndgjheehjohaaDoor.LexDraw
