/-
  Bytes that a call has made, behind it: where they lie, read, marked.
-/
import Derived.Test.YtffngjgjhialnaaGreatDoorPutULaw
import Derived.Test.YtffngjgjhialnaaGreatDoorMarkIns
namespace Go.Proofs.YtffngjgjhialnaaGreatDoor.OwnBytes
open Go.RowKit PlainNum NumCalls ByteMem PutU PutULaw PlainShape InsMem MarkIns

/-- Bytes of one's own, from block B on, or nothing. -/
def OB (B : Nat) (W : World) (a : Option Addr) (bs : List UInt8) : Prop := (a = none ∧ bs = []) ∨ ∃ g, a = some ⟨g, 0, none⟩ ∧ B ≤ g ∧ Blk W g bs
theorem own_ob {B : Nat} {W : World} {v : Value} {bs : List UInt8} (h : PutU.Own B W v bs) : ∃ a cap, v = .slice a bs.length cap ∧ OB B W a bs := by
  rcases h.2 with ⟨hv, h0⟩ | ⟨g, cap, cur, hv, hg, hb, hn, _, hs, hc⟩
  · have h1 : bs = [] := List.length_eq_zero_iff.1 h0
    exact ⟨none, 0, by rw [hv, h1]; rfl, .inl ⟨rfl, h1⟩⟩
  · exact ⟨_, cap, hv, .inr ⟨g, rfl, hg, cur, hb, by omega, by simpa using hc⟩⟩
theorem OB.rd {B : Nat} {W : World} {a : Option Addr} {bs : List UInt8} (h : OB B W a bs) : RdB W a bs := by
  rcases h with ⟨_, h0⟩ | ⟨g, ha, _, hb⟩
  · exact ⟨fun j _ => byte_bounds bs j, .inl (by rw [h0]; rfl)⟩
  · rw [ha]; exact hb.rd
theorem OB.wt {B : Nat} {W : World} {a : Option Addr} {bs : List UInt8} (h : OB B W a bs) : Wt W a bs.length := by
  rcases h with ⟨_, h0⟩ | ⟨g, ha, _, hb⟩
  · exact .inl (by rw [h0]; rfl)
  · rw [ha]; exact hb.wt
theorem OB.below {B : Nat} {W W' : World} {a : Option Addr} {bs : List UInt8} (h : OB B W a bs) (hb : Below W.heap.size W W') : OB B W' a bs := by
  rcases h with h0 | ⟨g, ha, hg, hk⟩
  · exact .inl h0
  · exact .inr ⟨g, ha, hg, hk.below hb⟩
theorem OB.draws {B : Nat} {W : World} {a : Option Addr} {bs : List UInt8} (h : OB B W a bs) (m : Nat) : OB B (W.drewN m) a bs := h
theorem OB.lt {B : Nat} {W : World} {a : Option Addr} {bs : List UInt8} (h : OB B W a bs) : ∀ p, a = some p → B ≤ p.block ∧ p.block < W.heap.size := by
  intro p hp
  rcases h with ⟨h0, _⟩ | ⟨g, ha, hg, hk⟩
  · rw [h0] at hp; cases hp
  · rw [ha] at hp
    cases hp
    exact ⟨hg, hk.lt⟩
theorem OB.only {B : Nat} {W W' : World} {a a' : Option Addr} {bs : List UInt8} (h : OB B W a bs) (ho : Only W W' a') (hne : ∀ p p', a = some p → a' = some p' → p.block ≠ p'.block) : OB B W' a bs := by
  rcases h with h0 | ⟨g, ha, hg, hk⟩
  · exact .inl h0
  · refine .inr ⟨g, ha, hg, hk.of (ho.1.block g hk.lt fun e => ?_)⟩
    cases ha' : a' with
    | none => rw [ha'] at e; cases e
    | some p' =>
      rw [ha'] at e
      have := hne ⟨g, 0, none⟩ p' ha ha'
      simp at e
      exact this e
theorem below_only' {B : Nat} {W0 W W' : World} {a' : Option Addr} (hb : Below B W0 W) (ho : Only W W' a') (hB : B ≤ W.heap.size) (hg : ∀ p, a' = some p → B ≤ p.block) : Below B W0 W' :=
  hb.grown ho.1 hB (fun k hk => by
    cases ha : a' with
    | none => rw [ha] at hk; cases hk
    | some p =>
      rw [ha] at hk
      simp at hk
      have := hg p ha
      omega)
theorem eqOB {B B' : Nat} (w : World) (a a' : Option Addr) (cap cap' : Nat) (bs : List UInt8) (h : OB B w a bs) (h' : OB B' w a' bs) (hn : bs.length ≤ 9223372036854775806) :
    Calls Tryz.prog 9 #[.slice a bs.length cap, .slice a' bs.length cap'] w fun e w' => e = .returned (.bool true) ∧ ∃ m, w' = w.drewN m :=
  eqByteS w _ _ bs.length cap cap' _ _ h.rd h'.rd hn fun _ _ => rfl
/-- Instructions in a block of their own. -/
def RowI (W : World) (g : Nat) (l : List I3) : Prop := W.rowIs g 174 (l.length * 3) (fun j => .int .i64 (cv l j))
theorem RowI.rd {W : World} {g : Nat} {l : List I3} (h : RowI W g l) : RdI W (some ⟨g, 0, none⟩) l := rdI_of_row h
theorem RowI.wt {W : World} {g : Nat} {l : List I3} (h : RowI W g l) : WtI W (some ⟨g, 0, none⟩) l.length :=
  .inr ⟨g, 0, rfl, fun j hj => ⟨⟨_, by rw [Nat.zero_add]; exact World.rowIs.cell h hj⟩, World.rowIs.frozen h _⟩⟩
theorem RowI.below {W W' : World} {g : Nat} {l : List I3} (h : RowI W g l) (hb : Below W.heap.size W W') : RowI W' g l := row_later h hb
theorem RowI.lt {W : World} {g : Nat} {l : List I3} (h : RowI W g l) : g < W.heap.size := World.rowIs.lt h
theorem copyR (w0 w : World) (a : Option Addr) (cap : Nat) (l : List I3) (h : RdI w0 a l) (hn : l.length ≤ 1048576) (hb : Below w0.heap.size w0 w) :
    Calls Tryz.prog 123 #[.slice a l.length cap] w fun e w' => ∃ g, e = .returned (.slice (some ⟨g, 0, none⟩) l.length l.length) ∧ w.heap.size ≤ g ∧ RowI w' g l ∧ Below w.heap.size w w' ∧ Below w0.heap.size w0 w' :=
  (toInsS w a cap l (h.later hb) hn).mono fun _ _ ⟨g, he, hg, hr, hb'⟩ => ⟨g, he, hg, hr, hb', hb.trans (hb'.mono hb.size)⟩
end Go.Proofs.YtffngjgjhialnaaGreatDoor.OwnBytes
