/-
  The walk of the exact law of PutU, over a contract of the program's PutU: the same bytes, in new memory.
-/
import Derived.Test.YtffngjgjhialnaaGreatDoorPutU
namespace Go.Proofs.YtffngjgjhialnaaGreatDoor.PutULaw
open Go.RowKit PlainNum NumCalls ByteMem PutU

/-- Block g of W begins with the bytes bs (and may be longer). -/
def Blk (W : World) (g : Nat) (bs : List UInt8) : Prop := ∃ cur : Array Value, W.heap[g]? = some (.cells cur 5 (0, 0)) ∧ bs.length ≤ cur.size ∧ cur.toList.take bs.length = Lib.byteCells bs
theorem Blk.lt {W : World} {g : Nat} {bs : List UInt8} (h : Blk W g bs) : g < W.heap.size := by
  obtain ⟨c, hb, _, _⟩ := h
  exact (Array.getElem?_eq_some_iff.1 hb).1
theorem Blk.of {W W' : World} {g : Nat} {bs : List UInt8} (h : Blk W g bs) (e : W'.heap[g]? = W.heap[g]?) : Blk W' g bs := by
  obtain ⟨c, hb, hl, hc⟩ := h
  exact ⟨c, e.trans hb, hl, hc⟩
theorem Blk.cell {W : World} {g : Nat} {bs : List UInt8} (h : Blk W g bs) (j : Nat) (hj : j < bs.length) : W.cell? ⟨g, j, none⟩ = some (.int .u8 ((bs[j]?.getD 0).toNat : Int)) := by
  obtain ⟨c, hb, hl, hc⟩ := h
  have hx : (c.toList.take bs.length)[j]? = (Lib.byteCells bs)[j]? := by rw [hc]
  rw [List.getElem?_take] at hx
  simp [hj, Lib.byteCells] at hx
  simp [World.cell?, hb, hx, hj]
theorem Blk.frozen {W : World} {g : Nat} {bs : List UInt8} (h : Blk W g bs) (j : Nat) : W.frozen? ⟨g, j, none⟩ = false := by
  obtain ⟨c, hb, _, _⟩ := h
  simp [World.frozen?, hb]
theorem byte_bounds (bs : List UInt8) (j : Nat) : 0 ≤ ((bs[j]?.getD 0).toNat : Int) ∧ ((bs[j]?.getD 0).toNat : Int) ≤ 255 := by
  have := (bs[j]?.getD 0).toNat_lt
  omega
theorem Blk.rd {W : World} {g : Nat} {bs : List UInt8} (h : Blk W g bs) : RdB W (some ⟨g, 0, none⟩) bs :=
  ⟨fun j _ => byte_bounds bs j, .inr ⟨g, 0, rfl, fun j hj => by rw [Nat.zero_add]; exact h.cell j hj⟩⟩
theorem Blk.wt {W : World} {g : Nat} {bs : List UInt8} (h : Blk W g bs) : Wt W (some ⟨g, 0, none⟩) bs.length :=
  .inr ⟨g, 0, rfl, fun j hj => ⟨⟨_, by rw [Nat.zero_add]; exact h.cell j hj⟩, by rw [Nat.zero_add]; exact h.frozen j⟩⟩
theorem own_blk {B : Nat} {W : World} {v : Value} {bs : List UInt8} (h : Own B W v bs) (hne : bs ≠ []) : ∃ g cap, v = .slice (some ⟨g, 0, none⟩) bs.length cap ∧ B ≤ g ∧ Blk W g bs := by
  rcases h.2 with ⟨_, h0⟩ | ⟨g, cap, cur, hv, hg, hb, hn, _, hs, hc⟩
  · exact absurd (List.length_eq_zero_iff.1 h0) hne
  · exact ⟨g, cap, hv, hg, cur, hb, by omega, by simpa using hc⟩
theorem row_blk {W : World} {g : Nat} {bs : List UInt8} (h : W.rowIs g 5 bs.length (fun j => .int .u8 ((bs[j]?.getD 0).toNat : Int))) : Blk W g bs := by
  obtain ⟨c, hb, hn, hc⟩ := h
  refine ⟨c, hb, by omega, ?_⟩
  apply List.ext_getElem?
  intro j
  by_cases hj : j < bs.length
  · have := hc j hj
    rw [List.getElem?_take, if_pos hj]
    simp [Lib.byteCells, hj] at this ⊢
    exact this
  · rw [List.getElem?_eq_none (by simp; omega), List.getElem?_eq_none (by rw [Lib.byteCells_length]; omega)]
theorem copyB (w0 w : World) (a : Option Addr) (cap : Nat) (bs : List UInt8) (h : RdB w0 a bs) (hn : bs.length ≤ 1048576) (hb : Below w0.heap.size w0 w) :
    Calls Tryz.prog 124 #[.slice a bs.length cap] w fun e w' => ∃ g, e = .returned (.slice (some ⟨g, 0, none⟩) bs.length bs.length) ∧ w.heap.size ≤ g ∧ Blk w' g bs ∧ Below w.heap.size w w' ∧ Below w0.heap.size w0 w' :=
  (toByteS w a bs.length cap _ (Rd.later h hb) hn).mono fun _ _ ⟨g, he, hg, hr, hb'⟩ => ⟨g, he, hg, row_blk hr, hb', hb.trans (hb'.mono hb.size)⟩
theorem eqB (w : World) (g g' : Nat) (cap cap' : Nat) (bs : List UInt8) (h : Blk w g bs) (h' : Blk w g' bs) (hn : bs.length ≤ 2097152) :
    Calls Tryz.prog 9 #[.slice (some ⟨g, 0, none⟩) bs.length cap, .slice (some ⟨g', 0, none⟩) bs.length cap'] w fun e w' => e = .returned (.bool true) ∧ ∃ m, w' = w.drewN m :=
  eqByteS w _ _ bs.length cap cap' _ _ h.rd h'.rd (by omega) fun _ _ => rfl
theorem Blk.below {W W' : World} {g : Nat} {bs : List UInt8} (h : Blk W g bs) (hb : Below W.heap.size W W') : Blk W' g bs := h.of (hb.block g h.lt)
theorem Blk.draws {W : World} {g : Nat} {bs : List UInt8} (h : Blk W g bs) (m : Nat) : Blk (W.drewN m) g bs := h
theorem Blk.only {W W' : World} {g g' : Nat} {bs : List UInt8} (h : Blk W g bs) (ho : Only W W' (some ⟨g', 0, none⟩)) (hne : g ≠ g') : Blk W' g bs :=
  h.of (ho.1.block g h.lt (by simp; exact hne))
theorem below_only {B : Nat} {W0 W W' : World} {g' : Nat} (hb : Below B W0 W) (ho : Only W W' (some ⟨g', 0, none⟩)) (hB : B ≤ W.heap.size) (hg : B ≤ g') : Below B W0 W' :=
  hb.grown ho.1 hB (fun k hk => by simp at hk; omega)
end Go.Proofs.YtffngjgjhialnaaGreatDoor.PutULaw
