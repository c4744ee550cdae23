/-
  Slices of Tok in memory, and what the laws' own helpers on them do. (Written by my modgen.py.)
-/
import Derived.Test.YtjndgjheehjohaaInsMem
namespace Go.Proofs.Ytjndgjheehjohaa.MemTok
open Go.RowKit InsMem

abbrev E := Int × Int × ByteArray × Int
def f0At (l : List E) (k : Nat) : Int := (l.getD k (0, 0, (⟨#[]⟩ : ByteArray), 0)).1
def f1At (l : List E) (k : Nat) : Int := (l.getD k (0, 0, (⟨#[]⟩ : ByteArray), 0)).2.1
def f2At (l : List E) (k : Nat) : ByteArray := (l.getD k (0, 0, (⟨#[]⟩ : ByteArray), 0)).2.2.1
def f3At (l : List E) (k : Nat) : Int := (l.getD k (0, 0, (⟨#[]⟩ : ByteArray), 0)).2.2.2
/-- A slice of them that can be read. -/
def Rd (w : World) (a : Option Addr) (l : List E) : Prop :=
  l.length = 0 ∨ ∃ b off, a = some ⟨b, off, none⟩ ∧ ∀ j, j < l.length → w.cell? ⟨b, off + j * 4, none⟩ = some (.int .i64 (f0At l j)) ∧ w.cell? ⟨b, off + j * 4 + 1, none⟩ = some (.int .i64 (f1At l j)) ∧ w.cell? ⟨b, off + j * 4 + 2, none⟩ = some (.string (f2At l j)) ∧ w.cell? ⟨b, off + j * 4 + 3, none⟩ = some (.int .i64 (f3At l j))
theorem Rd.later {w w' : World} {a : Option Addr} {l : List E} (h : Rd w a l) (hb : Below w.heap.size w w') : Rd w' a l := by
  rcases h with h | ⟨b, off, ha, hc⟩
  · exact .inl h
  · refine .inr ⟨b, off, ha, fun j hj => ?_⟩
    obtain ⟨c0, c1, c2, c3⟩ := hc j hj
    have hs : b < w.heap.size := World.block_lt_of_cell? w _ c0
    exact ⟨by rw [hb.cell hs]; exact c0, by rw [hb.cell hs]; exact c1, by rw [hb.cell hs]; exact c2, by rw [hb.cell hs]; exact c3⟩
theorem to1 (x0 : Int) (x1 : Int) (x2 : ByteArray) (x3 : Int) (w : World) :
    Calls Try.prog 6 #[.agg #[.int .i64 (x0), .int .i64 (x1), .string (x2), .int .i64 (x3)]] w fun e w' => e = .returned (.agg #[.int .i64 (x0), .int .i64 (x1), .string (x2), .int .i64 (x3)]) ∧ Below w.heap.size w w' := by
  go_enter Try.func6, Try.ntmps6
  go_wp2_with fail
  refine bodyPost_ret ?_ rfl ⟨rfl, ?_⟩
  · simp [results, go_sem]
  · exact (((Below.refl _ _).alloc (Nat.le_refl _) _).alloc (by simp) _).alloc (by simp; omega) _
theorem keep {w w' : World} {g i g' i' : Nat} {p0 p1 p2 p3 r0 r1 r2 r3 : Value} (h : Below w.heap.size w w') (c0 : w.cell? ⟨g, i, none⟩ = some p0) (c1 : w.cell? ⟨g, i + 1, none⟩ = some p1) (c2 : w.cell? ⟨g, i + 2, none⟩ = some p2) (c3 : w.cell? ⟨g, i + 3, none⟩ = some p3) (d0 : w.cell? ⟨g', i', none⟩ = some r0) (d1 : w.cell? ⟨g', i' + 1, none⟩ = some r1) (d2 : w.cell? ⟨g', i' + 2, none⟩ = some r2) (d3 : w.cell? ⟨g', i' + 3, none⟩ = some r3) :
    w'.cell? ⟨g, i, none⟩ = some p0 ∧ w'.cell? ⟨g, i + 1, none⟩ = some p1 ∧ w'.cell? ⟨g, i + 2, none⟩ = some p2 ∧ w'.cell? ⟨g, i + 3, none⟩ = some p3 ∧ w'.cell? ⟨g', i', none⟩ = some r0 ∧ w'.cell? ⟨g', i' + 1, none⟩ = some r1 ∧ w'.cell? ⟨g', i' + 2, none⟩ = some r2 ∧ w'.cell? ⟨g', i' + 3, none⟩ = some r3 := by
  have hs : g < w.heap.size := World.block_lt_of_cell? w _ c0
  have hs' : g' < w.heap.size := World.block_lt_of_cell? w _ d0
  exact ⟨by rw [h.cell hs]; exact c0, by rw [h.cell hs]; exact c1, by rw [h.cell hs]; exact c2, by rw [h.cell hs]; exact c3, by rw [h.cell hs']; exact d0, by rw [h.cell hs']; exact d1, by rw [h.cell hs']; exact d2, by rw [h.cell hs']; exact d3⟩
end Go.Proofs.Ytjndgjheehjohaa.MemTok
