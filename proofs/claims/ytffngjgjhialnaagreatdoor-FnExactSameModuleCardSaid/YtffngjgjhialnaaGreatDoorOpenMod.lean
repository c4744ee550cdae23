/-
  A module that came in, opened: its parts can be read. (Written by my modopen.py.)
-/
import Derived.Test.YtffngjgjhialnaaGreatDoorModMem
import Derived.Test.YtffngjgjhialnaaGreatDoorOpenIns
import Derived.Lib.SmallJoins
import Derived.Deep.Slices
import Derived.Deep.Strs
import Derived.ChangeArms
import Derived.OpenShut
namespace Go.Proofs.YtffngjgjhialnaaGreatDoor.OpenMod
open Go.RowKit PlainShape InsMem Go.Deep ModMem Go.ChangeShapes Go.WideShapes

theorem cells4 : Tryz.prog.cellsOf 4 = 1 := by kernel_rfl
theorem cells9 : Tryz.prog.cellsOf 9 = 1 := by kernel_rfl
theorem cellsB : Tryz.prog.cellsOf 31 = 1 := by kernel_rfl
theorem cellsIS : Tryz.prog.cellsOf 122 = 1 := by kernel_rfl
theorem ea (b off j : Nat) : (⟨b, off, none⟩ : Addr).add j = ⟨b, off + j, none⟩ := by cases j <;> simp [Addr.add]
theorem open_insV {H : Type} {enc : TypeId × Value → H} {W : World} {base : Nat} {spare : Nat → Bool} {held : Bool} {fuel : Nat} {v : Value} {x : DataW H × List MemPlace} (h : DataW.trod enc Tryz.prog W base spare held fuel 122 [v] = some x) :
    ∃ (a : Option Addr) (c : Nat) (l : List I3), v = .slice a l.length c ∧ RdI W a l ∧ l.length ≤ 9223372036854775807 := by
  have h' := h
  rcases open_slice Tryz.underlying122 h with ⟨h0, _⟩ | ⟨a, len', cap', m, n, D, Pl, hcs, _⟩
  · simp at h0
    subst h0
    exact ⟨none, 0, [], rfl, .inl rfl, by simp⟩
  · simp only [List.cons.injEq, and_true] at hcs
    subst hcs
    obtain ⟨l, rfl, hr, hm⟩ := OpenIns.open_ins h'
    exact ⟨_, _, l, rfl, hr, hm⟩
theorem open_bytesV {H : Type} {enc : TypeId × Value → H} {W : World} {base : Nat} {spare : Nat → Bool} {held : Bool} {fuel : Nat} {v : Value} {x : DataW H × List MemPlace} (h : DataW.trod enc Tryz.prog W base spare held fuel 31 [v] = some x) :
    ∃ (a : Option Addr) (c n : Nat) (Z : Nat → Int), v = .slice a n c ∧ ByteMem.Rd W a n Z ∧ n ≤ 9223372036854775807 := by
  rcases open_ints Tryz.underlying31 Tryz.underlying5 (by kernel_rfl) h with ⟨hcs, _⟩ | ⟨x, l, c, zs, hcs, _, hl, hm, hz, _, hcell, hwz⟩
  · simp only [List.cons.injEq, and_true] at hcs
    subst hcs
    exact ⟨none, 0, 0, fun _ => 0, rfl, ⟨fun j hj => by omega, .inl rfl⟩, by omega⟩
  · simp only [List.cons.injEq, and_true] at hcs
    subst hcs
    unfold maxLen at hm
    have hzl : l ≤ zs.length := by rw [hz]; split <;> omega
    refine ⟨_, _, _, fun j => zs.getD j 0, rfl, ⟨fun j hj => bounds_u8 (hwz (zs.getD j 0) (by simp [List.getD, show j < zs.length by omega])), ?_⟩, by omega⟩
    by_cases h0 : l = 0
    · exact .inl h0
    · obtain ⟨b, off, spot⟩ := x
      have hc := hcell 0 (by omega)
      have hspot : spot = none := by simpa [Addr.add] using World.cell?_spot hc
      subst hspot
      exact .inr ⟨b, off, rfl, fun j hj => by rw [← ea]; exact hcell j (by omega)⟩
theorem cellsSig : Tryz.prog.cellsOf 135 = 2 := by kernel_rfl
theorem getSig {n : Nat} (q : Nat → MemSig.E) (j : Nat) (hj : j < n) : ((List.range n).map q).getD j (0, 0) = q j := by simp [List.getD, hj]
set_option maxRecDepth 100000 in
theorem openSig {H : Type} {enc : TypeId × Value → H} {W : World} {base : Nat} {spare : Nat → Bool} {held : Bool} {fuel : Nat} {v : Value} {x : DataW H × List MemPlace} (h : DataW.trod enc Tryz.prog W base spare held fuel 22 [v] = some x) :
    ∃ (a : Option Addr) (c : Nat) (l : List MemSig.E), v = .slice a l.length c ∧ MemSig.Rd W a l ∧ l.length ≤ 9223372036854775807 ∧ True := by
  rcases open_slice Tryz.underlying22 h with ⟨h0, _⟩ | ⟨a, len, cap, m, n, D, Pl, hcs, hb, hl, hm, hmm, _, hx⟩
  · simp at h0
    subst h0
    exact ⟨none, 0, [], rfl, .inl rfl, by simp, by simp⟩
  · simp only [List.cons.injEq, and_true] at hcs
    subst hcs
    unfold maxLen at hm
    have hlm : len ≤ m := by rw [hmm]; split <;> omega
    have each : ∀ i, i < len → ∃ q : MemSig.E, W.cell? (a.add (i * 2)) = some (.int .i64 q.1) ∧ W.cell? (a.add (i * 2 + 1)) = some (.int .i64 q.2) := by
      intro i hi
      obtain ⟨cs', h1, h2⟩ := hx i (by omega)
      rw [cellsSig] at h1
      obtain ⟨_, hlen, hcell⟩ := World.cells?_some h1
      obtain ⟨y0, y1, k, _, _, g0, g1⟩ := trod_struct2 Tryz.underlying135 h2
      match cs', hlen with
      | [v0, v1], _ =>
        simp [OpenIns.cells3] at g0 g1
        obtain ⟨z0, hz0, _, _⟩ := DataW.trod_int Tryz.underlying3 g0
        obtain ⟨z1, hz1, _, _⟩ := DataW.trod_int Tryz.underlying3 g1
        simp at hz0 hz1
        subst hz0 hz1
        have e0 := hcell 0 (by omega)
        have e1 := hcell 1 (by omega)
        rw [add_add] at e0 e1
        exact ⟨(z0, z1), by simpa using e0, by simpa using e1⟩
    obtain ⟨q, hq⟩ := choose_lt each
    refine ⟨some a, cap, (List.range len).map q, by simp, ?_, by simp; omega, ?_⟩
    · by_cases h0 : len = 0
      · exact .inl (by simp [h0])
      · obtain ⟨b, off, spot⟩ := a
        obtain ⟨c0, _⟩ := hq 0 (by omega)
        have hspot : spot = none := by simpa [Addr.add] using World.cell?_spot c0
        subst hspot
        refine .inr ⟨b, off, rfl, fun j hj => ?_⟩
        have hj' : j < len := by simpa using hj
        obtain ⟨c0, c1⟩ := hq j hj'
        rw [ea] at c0 c1
        unfold MemSig.f0At MemSig.f1At
        rw [getSig q j hj']
        exact ⟨c0, by rw [Nat.add_assoc]; exact c1⟩
    · trivial
theorem cellsImport : Tryz.prog.cellsOf 120 = 3 := by kernel_rfl
theorem getImport {n : Nat} (q : Nat → MemImport.E) (j : Nat) (hj : j < n) : ((List.range n).map q).getD j ((⟨#[]⟩ : ByteArray), (⟨#[]⟩ : ByteArray), 0) = q j := by simp [List.getD, hj]
set_option maxRecDepth 100000 in
theorem openImport {H : Type} {enc : TypeId × Value → H} {W : World} {base : Nat} {spare : Nat → Bool} {held : Bool} {fuel : Nat} {v : Value} {x : DataW H × List MemPlace} (h : DataW.trod enc Tryz.prog W base spare held fuel 23 [v] = some x) :
    ∃ (a : Option Addr) (c : Nat) (l : List MemImport.E), v = .slice a l.length c ∧ MemImport.Rd W a l ∧ l.length ≤ 9223372036854775807 ∧ ∀ j, j < l.length → (MemImport.f0At l j).size ≤ 9223372036854775807 ∧ (MemImport.f1At l j).size ≤ 9223372036854775807 := by
  rcases open_slice Tryz.underlying23 h with ⟨h0, _⟩ | ⟨a, len, cap, m, n, D, Pl, hcs, hb, hl, hm, hmm, _, hx⟩
  · simp at h0
    subst h0
    exact ⟨none, 0, [], rfl, .inl rfl, by simp, by simp⟩
  · simp only [List.cons.injEq, and_true] at hcs
    subst hcs
    unfold maxLen at hm
    have hlm : len ≤ m := by rw [hmm]; split <;> omega
    have each : ∀ i, i < len → ∃ q : MemImport.E, W.cell? (a.add (i * 3)) = some (.string q.1) ∧ W.cell? (a.add (i * 3 + 1)) = some (.string q.2.1) ∧ W.cell? (a.add (i * 3 + 2)) = some (.int .i64 q.2.2) ∧ q.1.size ≤ 9223372036854775807 ∧ q.2.1.size ≤ 9223372036854775807 := by
      intro i hi
      obtain ⟨cs', h1, h2⟩ := hx i (by omega)
      rw [cellsImport] at h1
      obtain ⟨_, hlen, hcell⟩ := World.cells?_some h1
      obtain ⟨y0, y1, y2, k, _, _, g0, g1, g2⟩ := trod_struct3 Tryz.underlying120 h2
      match cs', hlen with
      | [v0, v1, v2], _ =>
        simp [OpenIns.cells3, cells9] at g0 g1 g2
        obtain ⟨z0, hz0, _, hs0⟩ := DataW.trod_string Tryz.underlying9 g0
        unfold maxLen at hs0
        obtain ⟨z1, hz1, _, hs1⟩ := DataW.trod_string Tryz.underlying9 g1
        unfold maxLen at hs1
        obtain ⟨z2, hz2, _, _⟩ := DataW.trod_int Tryz.underlying3 g2
        simp at hz0 hz1 hz2
        subst hz0 hz1 hz2
        have e0 := hcell 0 (by omega)
        have e1 := hcell 1 (by omega)
        have e2 := hcell 2 (by omega)
        rw [add_add] at e0 e1 e2
        exact ⟨(z0, z1, z2), by simpa using e0, by simpa using e1, by simpa using e2, by show z0.size ≤ _; omega, by show z1.size ≤ _; omega⟩
    obtain ⟨q, hq⟩ := choose_lt each
    refine ⟨some a, cap, (List.range len).map q, by simp, ?_, by simp; omega, ?_⟩
    · by_cases h0 : len = 0
      · exact .inl (by simp [h0])
      · obtain ⟨b, off, spot⟩ := a
        obtain ⟨c0, _⟩ := hq 0 (by omega)
        have hspot : spot = none := by simpa [Addr.add] using World.cell?_spot c0
        subst hspot
        refine .inr ⟨b, off, rfl, fun j hj => ?_⟩
        have hj' : j < len := by simpa using hj
        obtain ⟨c0, c1, c2, _, _⟩ := hq j hj'
        rw [ea] at c0 c1 c2
        unfold MemImport.f0At MemImport.f1At MemImport.f2At
        rw [getImport q j hj']
        exact ⟨c0, by rw [Nat.add_assoc]; exact c1, by rw [Nat.add_assoc]; exact c2⟩
    · intro j hj
      have hj' : j < len := by simpa using hj
      obtain ⟨_, _, _, s0, s1⟩ := hq j hj'
      unfold MemImport.f0At MemImport.f1At
      rw [getImport q j hj']
      exact ⟨s0, s1⟩
theorem cellsGlobal : Tryz.prog.cellsOf 139 = 2 := by kernel_rfl
theorem getGlobal {n : Nat} (q : Nat → MemGlobal.E) (j : Nat) (hj : j < n) : ((List.range n).map q).getD j (false, 0) = q j := by simp [List.getD, hj]
set_option maxRecDepth 100000 in
theorem openGlobal {H : Type} {enc : TypeId × Value → H} {W : World} {base : Nat} {spare : Nat → Bool} {held : Bool} {fuel : Nat} {v : Value} {x : DataW H × List MemPlace} (h : DataW.trod enc Tryz.prog W base spare held fuel 25 [v] = some x) :
    ∃ (a : Option Addr) (c : Nat) (l : List MemGlobal.E), v = .slice a l.length c ∧ MemGlobal.Rd W a l ∧ l.length ≤ 9223372036854775807 ∧ True := by
  rcases open_slice Tryz.underlying25 h with ⟨h0, _⟩ | ⟨a, len, cap, m, n, D, Pl, hcs, hb, hl, hm, hmm, _, hx⟩
  · simp at h0
    subst h0
    exact ⟨none, 0, [], rfl, .inl rfl, by simp, by simp⟩
  · simp only [List.cons.injEq, and_true] at hcs
    subst hcs
    unfold maxLen at hm
    have hlm : len ≤ m := by rw [hmm]; split <;> omega
    have each : ∀ i, i < len → ∃ q : MemGlobal.E, W.cell? (a.add (i * 2)) = some (.bool q.1) ∧ W.cell? (a.add (i * 2 + 1)) = some (.int .i64 q.2) := by
      intro i hi
      obtain ⟨cs', h1, h2⟩ := hx i (by omega)
      rw [cellsGlobal] at h1
      obtain ⟨_, hlen, hcell⟩ := World.cells?_some h1
      obtain ⟨y0, y1, k, _, _, g0, g1⟩ := trod_struct2 Tryz.underlying139 h2
      match cs', hlen with
      | [v0, v1], _ =>
        simp [OpenIns.cells3, cells4] at g0 g1
        obtain ⟨z0, hz0, _⟩ := DataW.trod_bool Tryz.underlying4 g0
        obtain ⟨z1, hz1, _, _⟩ := DataW.trod_int Tryz.underlying3 g1
        simp at hz0 hz1
        subst hz0 hz1
        have e0 := hcell 0 (by omega)
        have e1 := hcell 1 (by omega)
        rw [add_add] at e0 e1
        exact ⟨(z0, z1), by simpa using e0, by simpa using e1⟩
    obtain ⟨q, hq⟩ := choose_lt each
    refine ⟨some a, cap, (List.range len).map q, by simp, ?_, by simp; omega, ?_⟩
    · by_cases h0 : len = 0
      · exact .inl (by simp [h0])
      · obtain ⟨b, off, spot⟩ := a
        obtain ⟨c0, _⟩ := hq 0 (by omega)
        have hspot : spot = none := by simpa [Addr.add] using World.cell?_spot c0
        subst hspot
        refine .inr ⟨b, off, rfl, fun j hj => ?_⟩
        have hj' : j < len := by simpa using hj
        obtain ⟨c0, c1⟩ := hq j hj'
        rw [ea] at c0 c1
        unfold MemGlobal.f0At MemGlobal.f1At
        rw [getGlobal q j hj']
        exact ⟨c0, by rw [Nat.add_assoc]; exact c1⟩
    · trivial
theorem cellsExport : Tryz.prog.cellsOf 126 = 3 := by kernel_rfl
theorem getExport {n : Nat} (q : Nat → MemExport.E) (j : Nat) (hj : j < n) : ((List.range n).map q).getD j ((⟨#[]⟩ : ByteArray), 0, 0) = q j := by simp [List.getD, hj]
set_option maxRecDepth 100000 in
theorem openExport {H : Type} {enc : TypeId × Value → H} {W : World} {base : Nat} {spare : Nat → Bool} {held : Bool} {fuel : Nat} {v : Value} {x : DataW H × List MemPlace} (h : DataW.trod enc Tryz.prog W base spare held fuel 26 [v] = some x) :
    ∃ (a : Option Addr) (c : Nat) (l : List MemExport.E), v = .slice a l.length c ∧ MemExport.Rd W a l ∧ l.length ≤ 9223372036854775807 ∧ ∀ j, j < l.length → (MemExport.f0At l j).size ≤ 9223372036854775807 := by
  rcases open_slice Tryz.underlying26 h with ⟨h0, _⟩ | ⟨a, len, cap, m, n, D, Pl, hcs, hb, hl, hm, hmm, _, hx⟩
  · simp at h0
    subst h0
    exact ⟨none, 0, [], rfl, .inl rfl, by simp, by simp⟩
  · simp only [List.cons.injEq, and_true] at hcs
    subst hcs
    unfold maxLen at hm
    have hlm : len ≤ m := by rw [hmm]; split <;> omega
    have each : ∀ i, i < len → ∃ q : MemExport.E, W.cell? (a.add (i * 3)) = some (.string q.1) ∧ W.cell? (a.add (i * 3 + 1)) = some (.int .i64 q.2.1) ∧ W.cell? (a.add (i * 3 + 2)) = some (.int .i64 q.2.2) ∧ q.1.size ≤ 9223372036854775807 := by
      intro i hi
      obtain ⟨cs', h1, h2⟩ := hx i (by omega)
      rw [cellsExport] at h1
      obtain ⟨_, hlen, hcell⟩ := World.cells?_some h1
      obtain ⟨y0, y1, y2, k, _, _, g0, g1, g2⟩ := trod_struct3 Tryz.underlying126 h2
      match cs', hlen with
      | [v0, v1, v2], _ =>
        simp [OpenIns.cells3, cells9] at g0 g1 g2
        obtain ⟨z0, hz0, _, hs0⟩ := DataW.trod_string Tryz.underlying9 g0
        unfold maxLen at hs0
        obtain ⟨z1, hz1, _, _⟩ := DataW.trod_int Tryz.underlying3 g1
        obtain ⟨z2, hz2, _, _⟩ := DataW.trod_int Tryz.underlying3 g2
        simp at hz0 hz1 hz2
        subst hz0 hz1 hz2
        have e0 := hcell 0 (by omega)
        have e1 := hcell 1 (by omega)
        have e2 := hcell 2 (by omega)
        rw [add_add] at e0 e1 e2
        exact ⟨(z0, z1, z2), by simpa using e0, by simpa using e1, by simpa using e2, by show z0.size ≤ _; omega⟩
    obtain ⟨q, hq⟩ := choose_lt each
    refine ⟨some a, cap, (List.range len).map q, by simp, ?_, by simp; omega, ?_⟩
    · by_cases h0 : len = 0
      · exact .inl (by simp [h0])
      · obtain ⟨b, off, spot⟩ := a
        obtain ⟨c0, _⟩ := hq 0 (by omega)
        have hspot : spot = none := by simpa [Addr.add] using World.cell?_spot c0
        subst hspot
        refine .inr ⟨b, off, rfl, fun j hj => ?_⟩
        have hj' : j < len := by simpa using hj
        obtain ⟨c0, c1, c2, _⟩ := hq j hj'
        rw [ea] at c0 c1 c2
        unfold MemExport.f0At MemExport.f1At MemExport.f2At
        rw [getExport q j hj']
        exact ⟨c0, by rw [Nat.add_assoc]; exact c1, by rw [Nat.add_assoc]; exact c2⟩
    · intro j hj
      have hj' : j < len := by simpa using hj
      obtain ⟨_, _, _, s0⟩ := hq j hj'
      unfold MemExport.f0At
      rw [getExport q j hj']
      exact s0
theorem cellsFunc : Tryz.prog.cellsOf 124 = 3 := by kernel_rfl
theorem getFunc {n : Nat} (q : Nat → MemFunc.E) (j : Nat) (hj : j < n) : ((List.range n).map q).getD j MemFunc.dE = q j := by simp [List.getD, hj]
set_option maxRecDepth 100000 in
theorem openFunc {H : Type} {enc : TypeId × Value → H} {W : World} {base : Nat} {spare : Nat → Bool} {held : Bool} {fuel : Nat} {v : Value} {x : DataW H × List MemPlace} (h : DataW.trod enc Tryz.prog W base spare held fuel 24 [v] = some x) :
    ∃ (a : Option Addr) (c : Nat) (l : List MemFunc.E), v = .slice a l.length c ∧ MemFunc.Rd W a l ∧ l.length ≤ 9223372036854775807 ∧ ∀ j, j < l.length → (MemFunc.at1 l j).body.length ≤ 9223372036854775807 := by
  rcases open_slice Tryz.underlying24 h with ⟨h0, _⟩ | ⟨a, len, cap, m, n, D, Pl, hcs, hb, hl, hm, hmm, _, hx⟩
  · simp at h0
    subst h0
    exact ⟨none, 0, [], rfl, .inl rfl, by simp, by simp⟩
  · simp only [List.cons.injEq, and_true] at hcs
    subst hcs
    unfold maxLen at hm
    have hlm : len ≤ m := by rw [hmm]; split <;> omega
    have each : ∀ i, i < len → ∃ q : MemFunc.E, W.cell? (a.add (i * 3)) = some (.int .i64 q.sig) ∧ W.cell? (a.add (i * 3 + 1)) = some (.int .i64 q.loc) ∧ W.cell? (a.add (i * 3 + 2)) = some (.slice q.ad q.body.length q.cp) ∧ RdI W q.ad q.body ∧ q.body.length ≤ 9223372036854775807 := by
      intro i hi
      obtain ⟨cs', h1, h2⟩ := hx i (by omega)
      rw [cellsFunc] at h1
      obtain ⟨_, hlen, hcell⟩ := World.cells?_some h1
      obtain ⟨y0, y1, y2, k, _, _, g0, g1, g2⟩ := trod_struct3 Tryz.underlying124 h2
      match cs', hlen with
      | [v0, v1, v2], _ =>
        simp [OpenIns.cells3, cellsIS] at g0 g1 g2
        obtain ⟨z0, hz0, _, _⟩ := DataW.trod_int Tryz.underlying3 g0
        obtain ⟨z1, hz1, _, _⟩ := DataW.trod_int Tryz.underlying3 g1
        obtain ⟨ad, cp, lb, hz2, hrb, hlb⟩ := open_insV g2
        simp at hz0 hz1
        subst hz0 hz1 hz2
        have e0 := hcell 0 (by omega)
        have e1 := hcell 1 (by omega)
        have e2 := hcell 2 (by omega)
        rw [add_add] at e0 e1 e2
        exact ⟨⟨z0, z1, ad, cp, lb⟩, by simpa using e0, by simpa using e1, by simpa using e2, hrb, hlb⟩
    haveI : Inhabited MemFunc.E := ⟨MemFunc.dE⟩
    obtain ⟨q, hq⟩ := choose_lt each
    refine ⟨some a, cap, (List.range len).map q, by simp, ?_, by simp; omega, ?_⟩
    · by_cases h0 : len = 0
      · exact .inl (by simp [h0])
      · obtain ⟨b, off, spot⟩ := a
        obtain ⟨c0, _⟩ := hq 0 (by omega)
        have hspot : spot = none := by simpa [Addr.add] using World.cell?_spot c0
        subst hspot
        refine .inr ⟨b, off, rfl, fun j hj => ?_⟩
        have hj' : j < len := by simpa using hj
        obtain ⟨c0, c1, c2, rb, _⟩ := hq j hj'
        rw [ea] at c0 c1 c2
        unfold MemFunc.at1
        rw [getFunc q j hj']
        exact ⟨c0, by rw [Nat.add_assoc]; exact c1, by rw [Nat.add_assoc]; exact c2, rb⟩
    · intro j hj
      have hj' : j < len := by simpa using hj
      obtain ⟨_, _, _, _, sb⟩ := hq j hj'
      unfold MemFunc.at1
      rw [getFunc q j hj']
      exact sb
theorem cellsData : Tryz.prog.cellsOf 128 = 2 := by kernel_rfl
theorem getData {n : Nat} (q : Nat → MemData.E) (j : Nat) (hj : j < n) : ((List.range n).map q).getD j MemData.dE = q j := by simp [List.getD, hj]
set_option maxRecDepth 100000 in
theorem openData {H : Type} {enc : TypeId × Value → H} {W : World} {base : Nat} {spare : Nat → Bool} {held : Bool} {fuel : Nat} {v : Value} {x : DataW H × List MemPlace} (h : DataW.trod enc Tryz.prog W base spare held fuel 27 [v] = some x) :
    ∃ (a : Option Addr) (c : Nat) (l : List MemData.E), v = .slice a l.length c ∧ MemData.Rd W a l ∧ l.length ≤ 9223372036854775807 ∧ ∀ j, j < l.length → (MemData.at1 l j).n ≤ 9223372036854775807 := by
  rcases open_slice Tryz.underlying27 h with ⟨h0, _⟩ | ⟨a, len, cap, m, n, D, Pl, hcs, hb, hl, hm, hmm, _, hx⟩
  · simp at h0
    subst h0
    exact ⟨none, 0, [], rfl, .inl rfl, by simp, by simp⟩
  · simp only [List.cons.injEq, and_true] at hcs
    subst hcs
    unfold maxLen at hm
    have hlm : len ≤ m := by rw [hmm]; split <;> omega
    have each : ∀ i, i < len → ∃ q : MemData.E, W.cell? (a.add (i * 2)) = some (.int .i64 q.pos) ∧ W.cell? (a.add (i * 2 + 1)) = some (.slice q.ad q.n q.cp) ∧ ByteMem.Rd W q.ad q.n q.Z ∧ q.n ≤ 9223372036854775807 := by
      intro i hi
      obtain ⟨cs', h1, h2⟩ := hx i (by omega)
      rw [cellsData] at h1
      obtain ⟨_, hlen, hcell⟩ := World.cells?_some h1
      obtain ⟨y0, y1, k, _, _, g0, g1⟩ := trod_struct2 Tryz.underlying128 h2
      match cs', hlen with
      | [v0, v1], _ =>
        simp [OpenIns.cells3, cellsB] at g0 g1
        obtain ⟨z0, hz0, _, _⟩ := DataW.trod_int Tryz.underlying3 g0
        obtain ⟨ad, cp, nb, Zb, hz1, hrb, hlb⟩ := open_bytesV g1
        simp at hz0
        subst hz0 hz1
        have e0 := hcell 0 (by omega)
        have e1 := hcell 1 (by omega)
        rw [add_add] at e0 e1
        exact ⟨⟨z0, ad, cp, nb, Zb⟩, by simpa using e0, by simpa using e1, hrb, hlb⟩
    haveI : Inhabited MemData.E := ⟨MemData.dE⟩
    obtain ⟨q, hq⟩ := choose_lt each
    refine ⟨some a, cap, (List.range len).map q, by simp, ?_, by simp; omega, ?_⟩
    · by_cases h0 : len = 0
      · exact .inl (by simp [h0])
      · obtain ⟨b, off, spot⟩ := a
        obtain ⟨c0, _⟩ := hq 0 (by omega)
        have hspot : spot = none := by simpa [Addr.add] using World.cell?_spot c0
        subst hspot
        refine .inr ⟨b, off, rfl, fun j hj => ?_⟩
        have hj' : j < len := by simpa using hj
        obtain ⟨c0, c1, rb, _⟩ := hq j hj'
        rw [ea] at c0 c1
        unfold MemData.at1
        rw [getData q j hj']
        exact ⟨c0, by rw [Nat.add_assoc]; exact c1, rb⟩
    · intro j hj
      have hj' : j < len := by simpa using hj
      obtain ⟨_, _, _, sb⟩ := hq j hj'
      unfold MemData.at1
      rw [getData q j hj']
      exact sb
theorem cellsM : Tryz.prog.cellsOf 29 = 8 := by kernel_rfl
theorem array8 {cs : Array Value} (h : cs.size = 8) : ∃ v0 v1 v2 v3 v4 v5 v6 v7, cs = #[v0, v1, v2, v3, v4, v5, v6, v7] := by
  obtain ⟨l⟩ := cs
  match l, h with
  | [v0, v1, v2, v3, v4, v5, v6, v7], _ => exact ⟨v0, v1, v2, v3, v4, v5, v6, v7, rfl⟩
theorem list8 {α : Type} {xs : List α} (h : xs.length = 8) : ∃ v0 v1 v2 v3 v4 v5 v6 v7, xs = [v0, v1, v2, v3, v4, v5, v6, v7] := by
  match xs, h with
  | [v0, v1, v2, v3, v4, v5, v6, v7], _ => exact ⟨v0, v1, v2, v3, v4, v5, v6, v7, rfl⟩
theorem cellsSSig : Tryz.prog.cellsOf 22 = 1 := by kernel_rfl
theorem cellsSImport : Tryz.prog.cellsOf 23 = 1 := by kernel_rfl
theorem cellsSGlobal : Tryz.prog.cellsOf 25 = 1 := by kernel_rfl
theorem cellsSExport : Tryz.prog.cellsOf 26 = 1 := by kernel_rfl
theorem cellsSFunc : Tryz.prog.cellsOf 24 = 1 := by kernel_rfl
theorem cellsSData : Tryz.prog.cellsOf 27 = 1 := by kernel_rfl
set_option maxRecDepth 100000 in
/-- A module that came in: its parts can be read, and are of sizes that Go allows. -/
theorem open_mod {H : Type} {enc : TypeId × Value → H} {W : World} {base b0 : Nat} {spare : Nat → Bool} {held : Bool} {r : Reach} {v : Value} {d : DataW H} {pl : List MemPlace}
    (hv : Value.okWide Tryz.prog W r b0 29 v) (h : DataW.Trod enc Tryz.prog W base spare held 29 v d pl) : ∃ (p : P) (m : M), v = val p m ∧ Rd W p m ∧ Wide m := by
  obtain ⟨cs, rfl, hsz⟩ := okWide_struct Tryz.underlying29 hv
  obtain ⟨v0, v1, v2, v3, v4, v5, v6, v7, rfl⟩ := array8 (hsz.trans cellsM)
  obtain ⟨fuel, hf⟩ := h
  obtain ⟨xs, n, _, _, _, hlen, hfl⟩ := DataW.trod_struct Tryz.underlying29 hf
  obtain ⟨x0, x1, x2, x3, x4, x5, x6, x7, rfl⟩ := list8 hlen
  have g0 := hfl 0 _ rfl
  have g1 := hfl 1 _ rfl
  have g2 := hfl 2 _ rfl
  have g3 := hfl 3 _ rfl
  have g4 := hfl 4 _ rfl
  have g5 := hfl 5 _ rfl
  have g6 := hfl 6 _ rfl
  have g7 := hfl 7 _ rfl
  simp [Value.cells, cellsSSig, cellsSImport, cellsSGlobal, cellsSExport, cellsSFunc, cellsSData, OpenIns.cells3] at g0 g1 g2 g3 g4 g5 g6 g7
  obtain ⟨a0, c0, l0, rfl, r0, n0, z0⟩ := openSig g0
  obtain ⟨a1, c1, l1, rfl, r1, n1, z1⟩ := openImport g1
  obtain ⟨a2, c2, l2, rfl, r2, n2, z2⟩ := openFunc g2
  obtain ⟨z3, hz3, _, _⟩ := DataW.trod_int Tryz.underlying3 g3
  simp at hz3
  subst hz3
  obtain ⟨z4, hz4, _, _⟩ := DataW.trod_int Tryz.underlying3 g4
  simp at hz4
  subst hz4
  obtain ⟨a5, c5, l5, rfl, r5, n5, z5⟩ := openGlobal g5
  obtain ⟨a6, c6, l6, rfl, r6, n6, z6⟩ := openExport g6
  obtain ⟨a7, c7, l7, rfl, r7, n7, z7⟩ := openData g7
  exact ⟨⟨a0, c0, a1, c1, a2, c2, a5, c5, a6, c6, a7, c7⟩, ⟨l0, l1, l2, z3, z4, l5, l6, l7⟩, rfl, ⟨r0, r1, r2, r5, r6, r7⟩, ⟨n0, n1, z1, n2, z2, n5, n6, z6, n7, z7⟩⟩
end Go.Proofs.YtffngjgjhialnaaGreatDoor.OpenMod
