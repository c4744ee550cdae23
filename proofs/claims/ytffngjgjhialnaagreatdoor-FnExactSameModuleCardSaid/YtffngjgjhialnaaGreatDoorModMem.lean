/-
  Modules in memory, and what the laws' own helpers on them do. (Written by my modmemgen.py.)
-/
import Derived.Test.YtffngjgjhialnaaGreatDoorModParts
namespace Go.Proofs.YtffngjgjhialnaaGreatDoor.ModMem
open Go.RowKit PlainShape InsMem

structure M where
  sigs : List MemSig.E
  imps : List MemImport.E
  fns : List MemFunc.E
  pages : Int
  most : Int
  gls : List MemGlobal.E
  exs : List MemExport.E
  dat : List MemData.E
structure P where
  a0 : Option Addr
  c0 : Nat
  a1 : Option Addr
  c1 : Nat
  a2 : Option Addr
  c2 : Nat
  a3 : Option Addr
  c3 : Nat
  a4 : Option Addr
  c4 : Nat
  a5 : Option Addr
  c5 : Nat
def val (p : P) (m : M) : Value := .agg #[.slice p.a0 m.sigs.length p.c0, .slice p.a1 m.imps.length p.c1, .slice p.a2 m.fns.length p.c2, .int .i64 m.pages, .int .i64 m.most, .slice p.a3 m.gls.length p.c3, .slice p.a4 m.exs.length p.c4, .slice p.a5 m.dat.length p.c5]
/-- A module that can be read. -/
def Rd (w : World) (p : P) (m : M) : Prop := MemSig.Rd w p.a0 m.sigs ∧ MemImport.Rd w p.a1 m.imps ∧ MemFunc.Rd w p.a2 m.fns ∧ MemGlobal.Rd w p.a3 m.gls ∧ MemExport.Rd w p.a4 m.exs ∧ MemData.Rd w p.a5 m.dat
theorem Rd.later {w w' : World} {p : P} {m : M} (h : Rd w p m) (hb : Below w.heap.size w w') : Rd w' p m := by
  obtain ⟨h0, h1, h2, h3, h4, h5⟩ := h
  exact ⟨h0.later hb, h1.later hb, h2.later hb, h3.later hb, h4.later hb, h5.later hb⟩
structure Wide (m : M) : Prop where
  n0 : m.sigs.length ≤ 9223372036854775807
  n1 : m.imps.length ≤ 9223372036854775807
  z1 : ∀ j, j < m.imps.length → (MemImport.f0At m.imps j).size ≤ 9223372036854775807 ∧ (MemImport.f1At m.imps j).size ≤ 9223372036854775807
  n2 : m.fns.length ≤ 9223372036854775807
  z2 : ∀ j, j < m.fns.length → (MemFunc.at1 m.fns j).body.length ≤ 9223372036854775807
  n3 : m.gls.length ≤ 9223372036854775807
  n4 : m.exs.length ≤ 9223372036854775807
  z4 : ∀ j, j < m.exs.length → (MemExport.f0At m.exs j).size ≤ 9223372036854775807
  n5 : m.dat.length ≤ 9223372036854775807
  z5 : ∀ j, j < m.dat.length → (MemData.at1 m.dat j).n ≤ 9223372036854775807
structure Small (m : M) : Prop where
  n0 : m.sigs.length ≤ 1048576
  n1 : m.imps.length ≤ 1048576
  z1 : ∀ j, j < m.imps.length → (MemImport.f0At m.imps j).size ≤ 1048576 ∧ (MemImport.f1At m.imps j).size ≤ 1048576
  n2 : m.fns.length ≤ 1048576
  z2 : ∀ j, j < m.fns.length → (MemFunc.at1 m.fns j).body.length ≤ 1048576
  n3 : m.gls.length ≤ 1048576
  n4 : m.exs.length ≤ 1048576
  z4 : ∀ j, j < m.exs.length → (MemExport.f0At m.exs j).size ≤ 1048576
  n5 : m.dat.length ≤ 1048576
  z5 : ∀ j, j < m.dat.length → (MemData.at1 m.dat j).n ≤ 1048576
/-- Two modules that hold the same. -/
structure Same (m m' : M) : Prop where
  s0 : m'.sigs = m.sigs
  s1 : m'.imps = m.imps
  n2 : m'.fns.length = m.fns.length
  s2 : ∀ j, j < m.fns.length → (MemFunc.at1 m'.fns j).sig = (MemFunc.at1 m.fns j).sig ∧ (MemFunc.at1 m'.fns j).loc = (MemFunc.at1 m.fns j).loc ∧ (MemFunc.at1 m'.fns j).body = (MemFunc.at1 m.fns j).body
  sp : m'.pages = m.pages
  sm : m'.most = m.most
  s3 : m'.gls = m.gls
  s4 : m'.exs = m.exs
  n5 : m'.dat.length = m.dat.length
  s5 : ∀ j, j < m.dat.length → (MemData.at1 m'.dat j).pos = (MemData.at1 m.dat j).pos ∧ (MemData.at1 m'.dat j).n = (MemData.at1 m.dat j).n ∧ (MemData.at1 m'.dat j).Z = (MemData.at1 m.dat j).Z
theorem Same.refl (m : M) : Same m m := ⟨rfl, rfl, rfl, fun _ _ => ⟨rfl, rfl, rfl⟩, rfl, rfl, rfl, rfl, rfl, fun _ _ => ⟨rfl, rfl, rfl⟩⟩
theorem Same.symm {m m' : M} (h : Same m m') : Same m' m :=
  ⟨h.s0.symm, h.s1.symm, h.n2.symm, fun j hj => have ⟨a, b, c⟩ := h.s2 j (h.n2 ▸ hj); ⟨a.symm, b.symm, c.symm⟩, h.sp.symm, h.sm.symm, h.s3.symm, h.s4.symm, h.n5.symm, fun j hj => have ⟨a, b, c⟩ := h.s5 j (h.n5 ▸ hj); ⟨a.symm, b.symm, c.symm⟩⟩
theorem Same.trans {m m' m'' : M} (h : Same m m') (g : Same m' m'') : Same m m'' :=
  ⟨g.s0.trans h.s0, g.s1.trans h.s1, g.n2.trans h.n2, fun j hj => have ⟨a, b, c⟩ := h.s2 j hj; have ⟨d, e, f⟩ := g.s2 j (by rw [h.n2]; exact hj); ⟨d.trans a, e.trans b, f.trans c⟩, g.sp.trans h.sp, g.sm.trans h.sm, g.s3.trans h.s3, g.s4.trans h.s4, g.n5.trans h.n5, fun j hj => have ⟨a, b, c⟩ := h.s5 j hj; have ⟨d, e, f⟩ := g.s5 j (by rw [h.n5]; exact hj); ⟨d.trans a, e.trans b, f.trans c⟩⟩
theorem Small.same {m m' : M} (h : Small m) (s : Same m m') : Small m' :=
  ⟨by rw [s.s0]; exact h.n0, by rw [s.s1]; exact h.n1, by rw [s.s1]; exact h.z1, by rw [s.n2]; exact h.n2, fun j hj => by rw [(s.s2 j (s.n2 ▸ hj)).2.2]; exact h.z2 j (s.n2 ▸ hj), by rw [s.s3]; exact h.n3, by rw [s.s4]; exact h.n4, by rw [s.s4]; exact h.z4, by rw [s.n5]; exact h.n5, fun j hj => by rw [(s.s5 j (s.n5 ▸ hj)).2.1]; exact h.z5 j (s.n5 ▸ hj)⟩
def R8 (v0 v1 v2 v3 v4 v5 v6 v7 : Value) (j : Nat) : Value := if j = 0 then v0 else if j = 1 then v1 else if j = 2 then v2 else if j = 3 then v3 else if j = 4 then v4 else if j = 5 then v5 else if j = 6 then v6 else v7
theorem r8_made (w : World) (v0 v1 v2 v3 v4 v5 v6 v7 : Value) (t : TypeId) : (w.alloc (.cells #[v0, v1, v2, v3, v4, v5, v6, v7] t)).rowIs w.heap.size t 8 (R8 v0 v1 v2 v3 v4 v5 v6 v7) :=
  World.rowIs_alloc w #[v0, v1, v2, v3, v4, v5, v6, v7] t _ (fun i hi => by
    match i, hi with
    | 0, _ => rfl
    | 1, _ => rfl
    | 2, _ => rfl
    | 3, _ => rfl
    | 4, _ => rfl
    | 5, _ => rfl
    | 6, _ => rfl
    | 7, _ => rfl)
theorem r8 {w : World} {b : Nat} {t : TypeId} {v0 v1 v2 v3 v4 v5 v6 v7 : Value} (h : w.rowIs b t 8 (R8 v0 v1 v2 v3 v4 v5 v6 v7)) :
    w.cell? ⟨b, 0, none⟩ = some v0 ∧ w.cell? ⟨b, 1, none⟩ = some v1 ∧ w.cell? ⟨b, 2, none⟩ = some v2 ∧ w.cell? ⟨b, 3, none⟩ = some v3 ∧ w.cell? ⟨b, 4, none⟩ = some v4 ∧ w.cell? ⟨b, 5, none⟩ = some v5 ∧ w.cell? ⟨b, 6, none⟩ = some v6 ∧ w.cell? ⟨b, 7, none⟩ = some v7 :=
  ⟨h.cell (by omega), h.cell (by omega), h.cell (by omega), h.cell (by omega), h.cell (by omega), h.cell (by omega), h.cell (by omega), h.cell (by omega)⟩
theorem r8_set0 {w : World} {b : Nat} {t : TypeId} {v0 v1 v2 v3 v4 v5 v6 v7 : Value} (h : w.rowIs b t 8 (R8 v0 v1 v2 v3 v4 v5 v6 v7)) (x : Value) : (w.setCell ⟨b, 0, none⟩ x).rowIs b t 8 (R8 x v1 v2 v3 v4 v5 v6 v7) :=
  (h.set 0 x).congr (fun j hj => by
    match j, hj with
    | 0, _ => rfl
    | 1, _ => rfl
    | 2, _ => rfl
    | 3, _ => rfl
    | 4, _ => rfl
    | 5, _ => rfl
    | 6, _ => rfl
    | 7, _ => rfl)
theorem r8_set1 {w : World} {b : Nat} {t : TypeId} {v0 v1 v2 v3 v4 v5 v6 v7 : Value} (h : w.rowIs b t 8 (R8 v0 v1 v2 v3 v4 v5 v6 v7)) (x : Value) : (w.setCell ⟨b, 1, none⟩ x).rowIs b t 8 (R8 v0 x v2 v3 v4 v5 v6 v7) :=
  (h.set 1 x).congr (fun j hj => by
    match j, hj with
    | 0, _ => rfl
    | 1, _ => rfl
    | 2, _ => rfl
    | 3, _ => rfl
    | 4, _ => rfl
    | 5, _ => rfl
    | 6, _ => rfl
    | 7, _ => rfl)
theorem r8_set2 {w : World} {b : Nat} {t : TypeId} {v0 v1 v2 v3 v4 v5 v6 v7 : Value} (h : w.rowIs b t 8 (R8 v0 v1 v2 v3 v4 v5 v6 v7)) (x : Value) : (w.setCell ⟨b, 2, none⟩ x).rowIs b t 8 (R8 v0 v1 x v3 v4 v5 v6 v7) :=
  (h.set 2 x).congr (fun j hj => by
    match j, hj with
    | 0, _ => rfl
    | 1, _ => rfl
    | 2, _ => rfl
    | 3, _ => rfl
    | 4, _ => rfl
    | 5, _ => rfl
    | 6, _ => rfl
    | 7, _ => rfl)
theorem r8_set3 {w : World} {b : Nat} {t : TypeId} {v0 v1 v2 v3 v4 v5 v6 v7 : Value} (h : w.rowIs b t 8 (R8 v0 v1 v2 v3 v4 v5 v6 v7)) (x : Value) : (w.setCell ⟨b, 3, none⟩ x).rowIs b t 8 (R8 v0 v1 v2 x v4 v5 v6 v7) :=
  (h.set 3 x).congr (fun j hj => by
    match j, hj with
    | 0, _ => rfl
    | 1, _ => rfl
    | 2, _ => rfl
    | 3, _ => rfl
    | 4, _ => rfl
    | 5, _ => rfl
    | 6, _ => rfl
    | 7, _ => rfl)
theorem r8_set4 {w : World} {b : Nat} {t : TypeId} {v0 v1 v2 v3 v4 v5 v6 v7 : Value} (h : w.rowIs b t 8 (R8 v0 v1 v2 v3 v4 v5 v6 v7)) (x : Value) : (w.setCell ⟨b, 4, none⟩ x).rowIs b t 8 (R8 v0 v1 v2 v3 x v5 v6 v7) :=
  (h.set 4 x).congr (fun j hj => by
    match j, hj with
    | 0, _ => rfl
    | 1, _ => rfl
    | 2, _ => rfl
    | 3, _ => rfl
    | 4, _ => rfl
    | 5, _ => rfl
    | 6, _ => rfl
    | 7, _ => rfl)
theorem r8_set5 {w : World} {b : Nat} {t : TypeId} {v0 v1 v2 v3 v4 v5 v6 v7 : Value} (h : w.rowIs b t 8 (R8 v0 v1 v2 v3 v4 v5 v6 v7)) (x : Value) : (w.setCell ⟨b, 5, none⟩ x).rowIs b t 8 (R8 v0 v1 v2 v3 v4 x v6 v7) :=
  (h.set 5 x).congr (fun j hj => by
    match j, hj with
    | 0, _ => rfl
    | 1, _ => rfl
    | 2, _ => rfl
    | 3, _ => rfl
    | 4, _ => rfl
    | 5, _ => rfl
    | 6, _ => rfl
    | 7, _ => rfl)
theorem r8_set6 {w : World} {b : Nat} {t : TypeId} {v0 v1 v2 v3 v4 v5 v6 v7 : Value} (h : w.rowIs b t 8 (R8 v0 v1 v2 v3 v4 v5 v6 v7)) (x : Value) : (w.setCell ⟨b, 6, none⟩ x).rowIs b t 8 (R8 v0 v1 v2 v3 v4 v5 x v7) :=
  (h.set 6 x).congr (fun j hj => by
    match j, hj with
    | 0, _ => rfl
    | 1, _ => rfl
    | 2, _ => rfl
    | 3, _ => rfl
    | 4, _ => rfl
    | 5, _ => rfl
    | 6, _ => rfl
    | 7, _ => rfl)
theorem r8_set7 {w : World} {b : Nat} {t : TypeId} {v0 v1 v2 v3 v4 v5 v6 v7 : Value} (h : w.rowIs b t 8 (R8 v0 v1 v2 v3 v4 v5 v6 v7)) (x : Value) : (w.setCell ⟨b, 7, none⟩ x).rowIs b t 8 (R8 v0 v1 v2 v3 v4 v5 v6 x) :=
  (h.set 7 x).congr (fun j hj => by
    match j, hj with
    | 0, _ => rfl
    | 1, _ => rfl
    | 2, _ => rfl
    | 3, _ => rfl
    | 4, _ => rfl
    | 5, _ => rfl
    | 6, _ => rfl
    | 7, _ => rfl)
/-- All blocks from B + 3 on that were there are as they were. -/
structure Nr (B : Nat) (u u' : World) : Prop where
  one : u.heap.size ≤ u'.heap.size
  two : ∀ k, k < u.heap.size → B + 3 ≤ k → u'.heap[k]? = u.heap[k]?
theorem Nr.trans {B : Nat} {a b c : World} (h : Nr B a b) (k : Nr B b c) : Nr B a c := ⟨Nat.le_trans h.one k.one, fun i hi hB => (k.two i (Nat.lt_of_lt_of_le hi h.one) hB).trans (h.two i hi hB)⟩
theorem Nr.call {B : Nat} {u u' : World} (h : Below u.heap.size u u') : Nr B u u' := ⟨h.size, fun k hk _ => h.block k hk⟩
theorem Nr.set {B : Nat} {u : World} {p : Addr} (hp : p.block < B + 3) (v : Value) : Nr B u (u.setCell p v) := ⟨by simp, fun k _ hB => Below.heap_setCell u p v k (by omega)⟩
theorem Nr.row {B : Nat} {u u' : World} (h : Nr B u u') {g n : Nat} {t : TypeId} {f : Nat → Value} (hr : u.rowIs g t n f) (hg : B + 3 ≤ g) : u'.rowIs g t n f := hr.of_block (h.two g hr.lt hg)
theorem Nr.cell {B : Nat} {u u' : World} (h : Nr B u u') {g j : Nat} {v : Value} (hc : u.cell? ⟨g, j, none⟩ = some v) (hg : B + 3 ≤ g) : u'.cell? ⟨g, j, none⟩ = some v := by
  rw [World.cell?_of_block (w := u) (h.two g (World.block_lt_of_cell? u _ hc) hg)]
  exact hc
theorem Nr.body {B : Nat} {u u' : World} (h : Nr B u u') {g : Nat} {l : List I3} (hr' : MemFunc.RdIF u g l) (hg : B + 3 ≤ g) : MemFunc.RdIF u' g l := by
  refine ⟨?_, hr'.2.block h.one (h.two g hr'.2.1 hg)⟩
  have hr := hr'.1
  rcases hr with h0 | ⟨b, off, ha, hc⟩
  · exact .inl h0
  · simp only [Option.some.injEq, Addr.mk.injEq, and_true] at ha
    obtain ⟨rfl, rfl⟩ := ha
    refine .inr ⟨g, 0, rfl, fun j hj => ?_⟩
    obtain ⟨c0, c1, c2⟩ := hc j hj
    exact ⟨h.cell c0 hg, h.cell c1 hg, h.cell c2 hg⟩
theorem Nr.bytes {B : Nat} {u u' : World} (h : Nr B u u') {g n : Nat} {Z : Nat → Int} (hr' : MemData.RdDF u g n Z) (hg : B + 3 ≤ g) : MemData.RdDF u' g n Z := by
  refine ⟨?_, hr'.2.block h.one (h.two g hr'.2.1 hg)⟩
  have hr := hr'.1
  refine ⟨hr.1, ?_⟩
  rcases hr.2 with h0 | ⟨b, off, ha, hc⟩
  · exact .inl h0
  · simp only [Option.some.injEq, Addr.mk.injEq, and_true] at ha
    obtain ⟨rfl, rfl⟩ := ha
    exact .inr ⟨g, 0, rfl, fun j hj => h.cell (hc j hj) hg⟩
/-- The rows of a module that was made anew. -/
structure Made (B : Nat) (w : World) (m : M) (g0 g1 g2 g3 g4 g5 : Nat) (G D : Nat → Nat) : Prop where
  b0 : B ≤ g0
  b1 : B ≤ g1
  b2 : B ≤ g2
  b3 : B ≤ g3
  b4 : B ≤ g4
  b5 : B ≤ g5
  r0 : w.rowIs g0 77 (m.sigs.length * 2) (MemSig.cv m.sigs)
  r1 : w.rowIs g1 82 (m.imps.length * 3) (MemImport.cv m.imps)
  r2 : w.rowIs g2 87 (m.fns.length * 3) (MemFunc.cvF G m.fns)
  r3 : w.rowIs g3 97 (m.gls.length * 2) (MemGlobal.cv m.gls)
  r4 : w.rowIs g4 101 (m.exs.length * 3) (MemExport.cv m.exs)
  r5 : w.rowIs g5 105 (m.dat.length * 2) (MemData.cvD D m.dat)
  q2 : ∀ j, j < m.fns.length → B ≤ G j ∧ MemFunc.RdIF w (G j) (MemFunc.at1 m.fns j).body
  q5 : ∀ j, j < m.dat.length → B ≤ D j ∧ MemData.RdDF w (D j) (MemData.at1 m.dat j).n (MemData.at1 m.dat j).Z
def newF (G : Nat → Nat) (l : List MemFunc.E) : List MemFunc.E := (List.range l.length).map fun j => ⟨(MemFunc.at1 l j).sig, (MemFunc.at1 l j).loc, some ⟨G j, 0, none⟩, (MemFunc.at1 l j).body.length, (MemFunc.at1 l j).body⟩
def newD (D : Nat → Nat) (l : List MemData.E) : List MemData.E := (List.range l.length).map fun j => ⟨(MemData.at1 l j).pos, some ⟨D j, 0, none⟩, (MemData.at1 l j).n, (MemData.at1 l j).n, (MemData.at1 l j).Z⟩
theorem newF_len (G : Nat → Nat) (l : List MemFunc.E) : (newF G l).length = l.length := by simp [newF]
theorem newD_len (D : Nat → Nat) (l : List MemData.E) : (newD D l).length = l.length := by simp [newD]
theorem newF_at (G : Nat → Nat) (l : List MemFunc.E) (j : Nat) (hj : j < l.length) : MemFunc.at1 (newF G l) j = ⟨(MemFunc.at1 l j).sig, (MemFunc.at1 l j).loc, some ⟨G j, 0, none⟩, (MemFunc.at1 l j).body.length, (MemFunc.at1 l j).body⟩ := by
  simp [newF, MemFunc.at1, List.getD, hj]
theorem newD_at (D : Nat → Nat) (l : List MemData.E) (j : Nat) (hj : j < l.length) : MemData.at1 (newD D l) j = ⟨(MemData.at1 l j).pos, some ⟨D j, 0, none⟩, (MemData.at1 l j).n, (MemData.at1 l j).n, (MemData.at1 l j).Z⟩ := by
  simp [newD, MemData.at1, List.getD, hj]
def newP (m : M) (g0 g1 g2 g3 g4 g5 : Nat) : P := ⟨some ⟨g0, 0, none⟩, m.sigs.length, some ⟨g1, 0, none⟩, m.imps.length, some ⟨g2, 0, none⟩, m.fns.length, some ⟨g3, 0, none⟩, m.gls.length, some ⟨g4, 0, none⟩, m.exs.length, some ⟨g5, 0, none⟩, m.dat.length⟩
def newM (G D : Nat → Nat) (m : M) : M := ⟨m.sigs, m.imps, newF G m.fns, m.pages, m.most, m.gls, m.exs, newD D m.dat⟩
theorem newM_same (G D : Nat → Nat) (m : M) : Same m (newM G D m) :=
  ⟨rfl, rfl, newF_len _ _, fun j hj => by simp only [newM, newF_at G m.fns j hj]; exact ⟨trivial, trivial, trivial⟩, rfl, rfl, rfl, rfl, newD_len _ _, fun j hj => by simp only [newM, newD_at D m.dat j hj]; exact ⟨trivial, trivial, trivial⟩⟩
theorem Made.rd {B : Nat} {w : World} {m : M} {g0 g1 g2 g3 g4 g5 : Nat} {G D : Nat → Nat} (h : Made B w m g0 g1 g2 g3 g4 g5 G D) : Rd w (newP m g0 g1 g2 g3 g4 g5) (newM G D m) := by
  refine ⟨MemSig.rd_of_row h.r0, MemImport.rd_of_row h.r1, .inr ⟨g2, 0, rfl, fun j hj => ?_⟩, MemGlobal.rd_of_row h.r3, MemExport.rd_of_row h.r4, .inr ⟨g5, 0, rfl, fun j hj => ?_⟩⟩
  · have hj' : j < m.fns.length := by rw [← newF_len G m.fns]; exact hj
    simp only [newM, newF_at G m.fns j hj']
    refine ⟨?_, ?_, ?_, (h.q2 j hj').2.1⟩
    · rw [Nat.zero_add, h.r2.cell (by omega), MemFunc.cvF0]
    · rw [Nat.zero_add, h.r2.cell (by omega), MemFunc.cvF1]
    · rw [Nat.zero_add, h.r2.cell (by omega), MemFunc.cvF2]
  · have hj' : j < m.dat.length := by rw [← newD_len D m.dat]; exact hj
    simp only [newM, newD_at D m.dat j hj']
    refine ⟨?_, ?_, (h.q5 j hj').2.1⟩
    · rw [Nat.zero_add, h.r5.cell (by omega), MemData.cvD0]
    · rw [Nat.zero_add, h.r5.cell (by omega), MemData.cvD1]
structure TM (w u : World) (x0 x1 x2 x3 x4 x5 x6 x7 y0 y1 y2 y3 y4 y5 y6 y7 : Value) : Prop where
  ra : u.rowIs w.heap.size 29 8 (R8 x0 x1 x2 x3 x4 x5 x6 x7)
  rr : u.rowIs (w.heap.size + 1) 41 8 (R8 (.slice none 0 0) (.slice none 0 0) (.slice none 0 0) (.int .i64 0) (.int .i64 0) (.slice none 0 0) (.slice none 0 0) (.slice none 0 0))
  ro : u.rowIs (w.heap.size + 1 + 1) 41 8 (R8 y0 y1 y2 y3 y4 y5 y6 y7)
  bl : Below w.heap.size w u
theorem TM.call {w u u' : World} {x0 x1 x2 x3 x4 x5 x6 x7 y0 y1 y2 y3 y4 y5 y6 y7 : Value} (h : TM w u x0 x1 x2 x3 x4 x5 x6 x7 y0 y1 y2 y3 y4 y5 y6 y7) (q : Below u.heap.size u u') : TM w u' x0 x1 x2 x3 x4 x5 x6 x7 y0 y1 y2 y3 y4 y5 y6 y7 :=
  ⟨row_later h.ra q, row_later h.rr q, row_later h.ro q, h.bl.trans (q.mono h.bl.size)⟩
theorem TM.size {w u : World} {x0 x1 x2 x3 x4 x5 x6 x7 y0 y1 y2 y3 y4 y5 y6 y7 : Value} (h : TM w u x0 x1 x2 x3 x4 x5 x6 x7 y0 y1 y2 y3 y4 y5 y6 y7) : w.heap.size + 3 ≤ u.heap.size := h.ro.lt
theorem TM.set0 {w u : World} {x0 x1 x2 x3 x4 x5 x6 x7 y0 y1 y2 y3 y4 y5 y6 y7 : Value} (h : TM w u x0 x1 x2 x3 x4 x5 x6 x7 y0 y1 y2 y3 y4 y5 y6 y7) (v : Value) : TM w (u.setCell ⟨w.heap.size + 1 + 1, 0, none⟩ v) x0 x1 x2 x3 x4 x5 x6 x7 v y1 y2 y3 y4 y5 y6 y7 :=
  ⟨h.ra.setOther (a := ⟨w.heap.size + 1 + 1, 0, none⟩) (by simp; omega) v, h.rr.setOther (a := ⟨w.heap.size + 1 + 1, 0, none⟩) (by simp) v, r8_set0 h.ro v, h.bl.setCell (p := ⟨w.heap.size + 1 + 1, 0, none⟩) (by simp; omega) v⟩
theorem TM.set1 {w u : World} {x0 x1 x2 x3 x4 x5 x6 x7 y0 y1 y2 y3 y4 y5 y6 y7 : Value} (h : TM w u x0 x1 x2 x3 x4 x5 x6 x7 y0 y1 y2 y3 y4 y5 y6 y7) (v : Value) : TM w (u.setCell ⟨w.heap.size + 1 + 1, 1, none⟩ v) x0 x1 x2 x3 x4 x5 x6 x7 y0 v y2 y3 y4 y5 y6 y7 :=
  ⟨h.ra.setOther (a := ⟨w.heap.size + 1 + 1, 1, none⟩) (by simp; omega) v, h.rr.setOther (a := ⟨w.heap.size + 1 + 1, 1, none⟩) (by simp) v, r8_set1 h.ro v, h.bl.setCell (p := ⟨w.heap.size + 1 + 1, 1, none⟩) (by simp; omega) v⟩
theorem TM.set2 {w u : World} {x0 x1 x2 x3 x4 x5 x6 x7 y0 y1 y2 y3 y4 y5 y6 y7 : Value} (h : TM w u x0 x1 x2 x3 x4 x5 x6 x7 y0 y1 y2 y3 y4 y5 y6 y7) (v : Value) : TM w (u.setCell ⟨w.heap.size + 1 + 1, 2, none⟩ v) x0 x1 x2 x3 x4 x5 x6 x7 y0 y1 v y3 y4 y5 y6 y7 :=
  ⟨h.ra.setOther (a := ⟨w.heap.size + 1 + 1, 2, none⟩) (by simp; omega) v, h.rr.setOther (a := ⟨w.heap.size + 1 + 1, 2, none⟩) (by simp) v, r8_set2 h.ro v, h.bl.setCell (p := ⟨w.heap.size + 1 + 1, 2, none⟩) (by simp; omega) v⟩
theorem TM.set3 {w u : World} {x0 x1 x2 x3 x4 x5 x6 x7 y0 y1 y2 y3 y4 y5 y6 y7 : Value} (h : TM w u x0 x1 x2 x3 x4 x5 x6 x7 y0 y1 y2 y3 y4 y5 y6 y7) (v : Value) : TM w (u.setCell ⟨w.heap.size + 1 + 1, 3, none⟩ v) x0 x1 x2 x3 x4 x5 x6 x7 y0 y1 y2 v y4 y5 y6 y7 :=
  ⟨h.ra.setOther (a := ⟨w.heap.size + 1 + 1, 3, none⟩) (by simp; omega) v, h.rr.setOther (a := ⟨w.heap.size + 1 + 1, 3, none⟩) (by simp) v, r8_set3 h.ro v, h.bl.setCell (p := ⟨w.heap.size + 1 + 1, 3, none⟩) (by simp; omega) v⟩
theorem TM.set4 {w u : World} {x0 x1 x2 x3 x4 x5 x6 x7 y0 y1 y2 y3 y4 y5 y6 y7 : Value} (h : TM w u x0 x1 x2 x3 x4 x5 x6 x7 y0 y1 y2 y3 y4 y5 y6 y7) (v : Value) : TM w (u.setCell ⟨w.heap.size + 1 + 1, 4, none⟩ v) x0 x1 x2 x3 x4 x5 x6 x7 y0 y1 y2 y3 v y5 y6 y7 :=
  ⟨h.ra.setOther (a := ⟨w.heap.size + 1 + 1, 4, none⟩) (by simp; omega) v, h.rr.setOther (a := ⟨w.heap.size + 1 + 1, 4, none⟩) (by simp) v, r8_set4 h.ro v, h.bl.setCell (p := ⟨w.heap.size + 1 + 1, 4, none⟩) (by simp; omega) v⟩
theorem TM.set5 {w u : World} {x0 x1 x2 x3 x4 x5 x6 x7 y0 y1 y2 y3 y4 y5 y6 y7 : Value} (h : TM w u x0 x1 x2 x3 x4 x5 x6 x7 y0 y1 y2 y3 y4 y5 y6 y7) (v : Value) : TM w (u.setCell ⟨w.heap.size + 1 + 1, 5, none⟩ v) x0 x1 x2 x3 x4 x5 x6 x7 y0 y1 y2 y3 y4 v y6 y7 :=
  ⟨h.ra.setOther (a := ⟨w.heap.size + 1 + 1, 5, none⟩) (by simp; omega) v, h.rr.setOther (a := ⟨w.heap.size + 1 + 1, 5, none⟩) (by simp) v, r8_set5 h.ro v, h.bl.setCell (p := ⟨w.heap.size + 1 + 1, 5, none⟩) (by simp; omega) v⟩
theorem TM.set6 {w u : World} {x0 x1 x2 x3 x4 x5 x6 x7 y0 y1 y2 y3 y4 y5 y6 y7 : Value} (h : TM w u x0 x1 x2 x3 x4 x5 x6 x7 y0 y1 y2 y3 y4 y5 y6 y7) (v : Value) : TM w (u.setCell ⟨w.heap.size + 1 + 1, 6, none⟩ v) x0 x1 x2 x3 x4 x5 x6 x7 y0 y1 y2 y3 y4 y5 v y7 :=
  ⟨h.ra.setOther (a := ⟨w.heap.size + 1 + 1, 6, none⟩) (by simp; omega) v, h.rr.setOther (a := ⟨w.heap.size + 1 + 1, 6, none⟩) (by simp) v, r8_set6 h.ro v, h.bl.setCell (p := ⟨w.heap.size + 1 + 1, 6, none⟩) (by simp; omega) v⟩
theorem TM.set7 {w u : World} {x0 x1 x2 x3 x4 x5 x6 x7 y0 y1 y2 y3 y4 y5 y6 y7 : Value} (h : TM w u x0 x1 x2 x3 x4 x5 x6 x7 y0 y1 y2 y3 y4 y5 y6 y7) (v : Value) : TM w (u.setCell ⟨w.heap.size + 1 + 1, 7, none⟩ v) x0 x1 x2 x3 x4 x5 x6 x7 y0 y1 y2 y3 y4 y5 y6 v :=
  ⟨h.ra.setOther (a := ⟨w.heap.size + 1 + 1, 7, none⟩) (by simp; omega) v, h.rr.setOther (a := ⟨w.heap.size + 1 + 1, 7, none⟩) (by simp) v, r8_set7 h.ro v, h.bl.setCell (p := ⟨w.heap.size + 1 + 1, 7, none⟩) (by simp; omega) v⟩
set_option maxRecDepth 20000 in
set_option maxHeartbeats 16000000 in
theorem toM (w : World) (p : P) (m : M) (h : Rd w p m) (hs : Small m) :
    Calls Tryz.prog 7 #[val p m] w fun e w' => ∃ (g0 g1 g2 g3 g4 g5 : Nat) (G D : Nat → Nat), e = .returned (val (newP m g0 g1 g2 g3 g4 g5) (newM G D m)) ∧ Made w.heap.size w' m g0 g1 g2 g3 g4 g5 G D ∧ Below w.heap.size w w' := by
  obtain ⟨a0, c0, a1, c1, a2, c2, a3, c3, a4, c4, a5, c5⟩ := p
  obtain ⟨sigs, imps, fns, pages, most, gls, exs, dat⟩ := m
  obtain ⟨h0, h1, h2, h3, h4, h5⟩ := h
  obtain ⟨n0, n1, _, n2, z2, n3, n4, _, n5, z5⟩ := hs
  simp only [val] at *
  have T0 : Hid (TM w (((w.alloc (.cells #[.slice a0 sigs.length c0, .slice a1 imps.length c1, .slice a2 fns.length c2, .int .i64 pages, .int .i64 most, .slice a3 gls.length c3, .slice a4 exs.length c4, .slice a5 dat.length c5] 29)).alloc (.cells #[.slice none 0 0, .slice none 0 0, .slice none 0 0, .int .i64 0, .int .i64 0, .slice none 0 0, .slice none 0 0, .slice none 0 0] 41)).alloc (.cells #[.slice none 0 0, .slice none 0 0, .slice none 0 0, .int .i64 0, .int .i64 0, .slice none 0 0, .slice none 0 0, .slice none 0 0] 41)) (.slice a0 sigs.length c0) (.slice a1 imps.length c1) (.slice a2 fns.length c2) (.int .i64 pages) (.int .i64 most) (.slice a3 gls.length c3) (.slice a4 exs.length c4) (.slice a5 dat.length c5) (.slice none 0 0) (.slice none 0 0) (.slice none 0 0) (.int .i64 0) (.int .i64 0) (.slice none 0 0) (.slice none 0 0) (.slice none 0 0)) := ⟨by
    have := ((r8_made w (.slice a0 sigs.length c0) (.slice a1 imps.length c1) (.slice a2 fns.length c2) (.int .i64 pages) (.int .i64 most) (.slice a3 gls.length c3) (.slice a4 exs.length c4) (.slice a5 dat.length c5) 29).alloc (.cells #[.slice none 0 0, .slice none 0 0, .slice none 0 0, .int .i64 0, .int .i64 0, .slice none 0 0, .slice none 0 0, .slice none 0 0] 41)).alloc (.cells #[.slice none 0 0, .slice none 0 0, .slice none 0 0, .int .i64 0, .int .i64 0, .slice none 0 0, .slice none 0 0, .slice none 0 0] 41)
    exact this, by
    have := (r8_made (w.alloc (.cells #[.slice a0 sigs.length c0, .slice a1 imps.length c1, .slice a2 fns.length c2, .int .i64 pages, .int .i64 most, .slice a3 gls.length c3, .slice a4 exs.length c4, .slice a5 dat.length c5] 29)) (.slice none 0 0) (.slice none 0 0) (.slice none 0 0) (.int .i64 0) (.int .i64 0) (.slice none 0 0) (.slice none 0 0) (.slice none 0 0) 41).alloc (.cells #[.slice none 0 0, .slice none 0 0, .slice none 0 0, .int .i64 0, .int .i64 0, .slice none 0 0, .slice none 0 0, .slice none 0 0] 41)
    simp only [World.size_alloc] at this
    exact this, by
    have := r8_made ((w.alloc (.cells #[.slice a0 sigs.length c0, .slice a1 imps.length c1, .slice a2 fns.length c2, .int .i64 pages, .int .i64 most, .slice a3 gls.length c3, .slice a4 exs.length c4, .slice a5 dat.length c5] 29)).alloc (.cells #[.slice none 0 0, .slice none 0 0, .slice none 0 0, .int .i64 0, .int .i64 0, .slice none 0 0, .slice none 0 0, .slice none 0 0] 41)) (.slice none 0 0) (.slice none 0 0) (.slice none 0 0) (.int .i64 0) (.int .i64 0) (.slice none 0 0) (.slice none 0 0) (.slice none 0 0) 41
    simp only [World.size_alloc] at this
    exact this, (((Below.refl _ _).alloc (Nat.le_refl _) _).alloc (by simp) _).alloc (by simp; omega) _⟩
  have k0 : Hid (∀ u, Below w.heap.size w u → _) := fun u hu => MemSig.toS u a0 c0 sigs (h0.later hu) n0
  have k1 : Hid (∀ u, Below w.heap.size w u → _) := fun u hu => MemImport.toS u a1 c1 imps (h1.later hu) n1
  have k2 : Hid (∀ u, Below w.heap.size w u → _) := fun u hu => MemFunc.toS u a2 c2 fns (h2.later hu) n2 z2
  have k3 : Hid (∀ u, Below w.heap.size w u → _) := fun u hu => MemGlobal.toS u a3 c3 gls (h3.later hu) n3
  have k4 : Hid (∀ u, Below w.heap.size w u → _) := fun u hu => MemExport.toS u a4 c4 exs (h4.later hu) n4
  have k5 : Hid (∀ u, Below w.heap.size w u → _) := fun u hu => MemData.toS u a5 c5 dat (h5.later hu) n5 z5
  clear h0 h1 h2 h3 h4 h5 n0 n1 n2 n3 n4 n5 z2 z5
  go_enter Tryz.func7, Tryz.ntmps7
  go_wp2_with (go_at_call 32; refine (k0.out _ (T0.out).bl).mono ?_; rintro e w1 ⟨g0, rfl, hg0, hr0, q0⟩; have T1 : Hid _ := (T0.out).call q0; obtain ⟨_, _, _, _, _, _, _, _⟩ := r8 T1.out.ro; have fz1 := T1.out.ro.frozen 0; obtain ⟨_, _, _, _, _, _, _, _⟩ := r8 (T1.out.set0 (.slice (some ⟨g0, 0, none⟩) sigs.length sigs.length)).ra)
  go_wp2_with (go_at_call 33; refine (k1.out _ (T1.out.set0 (.slice (some ⟨g0, 0, none⟩) sigs.length sigs.length)).bl).mono ?_; rintro e w2 ⟨g1, rfl, hg1, hr1, q1⟩; have T2 : Hid _ := (T1.out.set0 (.slice (some ⟨g0, 0, none⟩) sigs.length sigs.length)).call q1; obtain ⟨_, _, _, _, _, _, _, _⟩ := r8 T2.out.ro; have fz2 := T2.out.ro.frozen 1; obtain ⟨_, _, _, _, _, _, _, _⟩ := r8 (T2.out.set1 (.slice (some ⟨g1, 0, none⟩) imps.length imps.length)).ra)
  go_wp2_with (go_at_call 34; refine (k2.out _ (T2.out.set1 (.slice (some ⟨g1, 0, none⟩) imps.length imps.length)).bl).mono ?_; rintro e w3 ⟨g2, G, rfl, hg2, hr2, hG, q2⟩; have T3 : Hid _ := (T2.out.set1 (.slice (some ⟨g1, 0, none⟩) imps.length imps.length)).call q2; obtain ⟨_, _, _, _, _, _, _, _⟩ := r8 T3.out.ro; have fz3 := T3.out.ro.frozen 2; obtain ⟨_, _, _, _, _, _, _, _⟩ := r8 (T3.out.set2 (.slice (some ⟨g2, 0, none⟩) fns.length fns.length)).ra; have fy := (T3.out.set2 (.slice (some ⟨g2, 0, none⟩) fns.length fns.length)).ro.frozen 3; have fx := ((T3.out.set2 (.slice (some ⟨g2, 0, none⟩) fns.length fns.length)).set3 (.int .i64 pages)).ro.frozen 4; obtain ⟨_, _, _, _, _, _, _, _⟩ := r8 ((T3.out.set2 (.slice (some ⟨g2, 0, none⟩) fns.length fns.length)).set3 (.int .i64 pages)).ra; obtain ⟨_, _, _, _, _, _, _, _⟩ := r8 (((T3.out.set2 (.slice (some ⟨g2, 0, none⟩) fns.length fns.length)).set3 (.int .i64 pages)).set4 (.int .i64 most)).ra; obtain ⟨_, _, _, _, _, _, _, _⟩ := r8 (T3.out.set2 (.slice (some ⟨g2, 0, none⟩) fns.length fns.length)).ro; obtain ⟨_, _, _, _, _, _, _, _⟩ := r8 ((T3.out.set2 (.slice (some ⟨g2, 0, none⟩) fns.length fns.length)).set3 (.int .i64 pages)).ro)
  go_wp2_with (go_at_call 35; refine (k3.out _ (((T3.out.set2 (.slice (some ⟨g2, 0, none⟩) fns.length fns.length)).set3 (.int .i64 pages)).set4 (.int .i64 most)).bl).mono ?_; rintro e w4 ⟨g3, rfl, hg3, hr3, q3⟩; have T4 : Hid _ := (((T3.out.set2 (.slice (some ⟨g2, 0, none⟩) fns.length fns.length)).set3 (.int .i64 pages)).set4 (.int .i64 most)).call q3; obtain ⟨_, _, _, _, _, _, _, _⟩ := r8 T4.out.ro; have fz4 := T4.out.ro.frozen 5; obtain ⟨_, _, _, _, _, _, _, _⟩ := r8 (T4.out.set5 (.slice (some ⟨g3, 0, none⟩) gls.length gls.length)).ra)
  go_wp2_with (go_at_call 36; refine (k4.out _ (T4.out.set5 (.slice (some ⟨g3, 0, none⟩) gls.length gls.length)).bl).mono ?_; rintro e w5 ⟨g4, rfl, hg4, hr4, q4⟩; have T5 : Hid _ := (T4.out.set5 (.slice (some ⟨g3, 0, none⟩) gls.length gls.length)).call q4; obtain ⟨_, _, _, _, _, _, _, _⟩ := r8 T5.out.ro; have fz5 := T5.out.ro.frozen 6; obtain ⟨_, _, _, _, _, _, _, _⟩ := r8 (T5.out.set6 (.slice (some ⟨g4, 0, none⟩) exs.length exs.length)).ra)
  go_wp2_with (go_at_call 37; refine (k5.out _ (T5.out.set6 (.slice (some ⟨g4, 0, none⟩) exs.length exs.length)).bl).mono ?_; rintro e w6 ⟨g5, D, rfl, hg5, hr5, hD, q5⟩; have T6 : Hid _ := (T5.out.set6 (.slice (some ⟨g4, 0, none⟩) exs.length exs.length)).call q5; obtain ⟨_, _, _, _, _, _, _, _⟩ := r8 T6.out.ro; have fz6 := T6.out.ro.frozen 7; obtain ⟨_, _, _, _, _, _, _, _⟩ := r8 (T6.out.set7 (.slice (some ⟨g5, 0, none⟩) dat.length dat.length)).ra; obtain ⟨_, _, _, _, _, _, _, _⟩ := r8 (T6.out.set7 (.slice (some ⟨g5, 0, none⟩) dat.length dat.length)).rr; obtain ⟨_, _, _, _, _, _, _, _⟩ := r8 (T6.out.set7 (.slice (some ⟨g5, 0, none⟩) dat.length dat.length)).ro; have zf0 := (T6.out.set7 (.slice (some ⟨g5, 0, none⟩) dat.length dat.length)).rr.frozen 0; have zf1 := (T6.out.set7 (.slice (some ⟨g5, 0, none⟩) dat.length dat.length)).rr.frozen 1; have zf2 := (T6.out.set7 (.slice (some ⟨g5, 0, none⟩) dat.length dat.length)).rr.frozen 2; have zf3 := (T6.out.set7 (.slice (some ⟨g5, 0, none⟩) dat.length dat.length)).rr.frozen 3; have zf4 := (T6.out.set7 (.slice (some ⟨g5, 0, none⟩) dat.length dat.length)).rr.frozen 4; have zf5 := (T6.out.set7 (.slice (some ⟨g5, 0, none⟩) dat.length dat.length)).rr.frozen 5; have zf6 := (T6.out.set7 (.slice (some ⟨g5, 0, none⟩) dat.length dat.length)).rr.frozen 6; have zf7 := (T6.out.set7 (.slice (some ⟨g5, 0, none⟩) dat.length dat.length)).rr.frozen 7)
  have T7 : Hid _ := T6.out.set7 (.slice (some ⟨g5, 0, none⟩) dat.length dat.length)
  have RR : Hid _ := r8_set7 (r8_set6 (r8_set5 (r8_set4 (r8_set3 (r8_set2 (r8_set1 (r8_set0 (T7.out.rr) (.slice (some ⟨g0, 0, none⟩) sigs.length sigs.length)) (.slice (some ⟨g1, 0, none⟩) imps.length imps.length)) (.slice (some ⟨g2, 0, none⟩) fns.length fns.length)) (.int .i64 pages)) (.int .i64 most)) (.slice (some ⟨g3, 0, none⟩) gls.length gls.length)) (.slice (some ⟨g4, 0, none⟩) exs.length exs.length)) (.slice (some ⟨g5, 0, none⟩) dat.length dat.length)
  obtain ⟨e0, e1, e2, e3, e4, e5, e6, e7⟩ := r8 RR.out
  have m6 : Hid _ := (((((((((Nr.set (B := w.heap.size) (u := w6) (p := ⟨w.heap.size + 1 + 1, 7, none⟩) (by simp) (.slice (some ⟨g5, 0, none⟩) dat.length dat.length))).trans (Nr.set (B := w.heap.size) (p := ⟨w.heap.size + 1, 0, none⟩) (by simp) (.slice (some ⟨g0, 0, none⟩) sigs.length sigs.length))).trans (Nr.set (B := w.heap.size) (p := ⟨w.heap.size + 1, 1, none⟩) (by simp) (.slice (some ⟨g1, 0, none⟩) imps.length imps.length))).trans (Nr.set (B := w.heap.size) (p := ⟨w.heap.size + 1, 2, none⟩) (by simp) (.slice (some ⟨g2, 0, none⟩) fns.length fns.length))).trans (Nr.set (B := w.heap.size) (p := ⟨w.heap.size + 1, 3, none⟩) (by simp) (.int .i64 pages))).trans (Nr.set (B := w.heap.size) (p := ⟨w.heap.size + 1, 4, none⟩) (by simp) (.int .i64 most))).trans (Nr.set (B := w.heap.size) (p := ⟨w.heap.size + 1, 5, none⟩) (by simp) (.slice (some ⟨g3, 0, none⟩) gls.length gls.length))).trans (Nr.set (B := w.heap.size) (p := ⟨w.heap.size + 1, 6, none⟩) (by simp) (.slice (some ⟨g4, 0, none⟩) exs.length exs.length))).trans (Nr.set (B := w.heap.size) (p := ⟨w.heap.size + 1, 7, none⟩) (by simp) (.slice (some ⟨g5, 0, none⟩) dat.length dat.length))
  have m5 : Hid _ := (((Nr.set (B := w.heap.size) (u := w5) (p := ⟨w.heap.size + 1 + 1, 6, none⟩) (by simp) (.slice (some ⟨g4, 0, none⟩) exs.length exs.length))).trans (Nr.call q5)).trans m6.out
  have m4 : Hid _ := (((Nr.set (B := w.heap.size) (u := w4) (p := ⟨w.heap.size + 1 + 1, 5, none⟩) (by simp) (.slice (some ⟨g3, 0, none⟩) gls.length gls.length))).trans (Nr.call q4)).trans m5.out
  have m3 : Hid _ := (((((Nr.set (B := w.heap.size) (u := w3) (p := ⟨w.heap.size + 1 + 1, 2, none⟩) (by simp) (.slice (some ⟨g2, 0, none⟩) fns.length fns.length))).trans (Nr.set (B := w.heap.size) (p := ⟨w.heap.size + 1 + 1, 3, none⟩) (by simp) (.int .i64 pages))).trans (Nr.set (B := w.heap.size) (p := ⟨w.heap.size + 1 + 1, 4, none⟩) (by simp) (.int .i64 most))).trans (Nr.call q3)).trans m4.out
  have m2 : Hid _ := (((Nr.set (B := w.heap.size) (u := w2) (p := ⟨w.heap.size + 1 + 1, 1, none⟩) (by simp) (.slice (some ⟨g1, 0, none⟩) imps.length imps.length))).trans (Nr.call q2)).trans m3.out
  have m1 : Hid _ := (((Nr.set (B := w.heap.size) (u := w1) (p := ⟨w.heap.size + 1 + 1, 0, none⟩) (by simp) (.slice (some ⟨g0, 0, none⟩) sigs.length sigs.length))).trans (Nr.call q1)).trans m2.out
  have G0 : w.heap.size + 3 ≤ g0 := Nat.le_trans (T0.out).size hg0
  have G1 : w.heap.size + 3 ≤ g1 := Nat.le_trans (T1.out.set0 (.slice (some ⟨g0, 0, none⟩) sigs.length sigs.length)).size hg1
  have G2 : w.heap.size + 3 ≤ g2 := Nat.le_trans (T2.out.set1 (.slice (some ⟨g1, 0, none⟩) imps.length imps.length)).size hg2
  have G3 : w.heap.size + 3 ≤ g3 := Nat.le_trans (((T3.out.set2 (.slice (some ⟨g2, 0, none⟩) fns.length fns.length)).set3 (.int .i64 pages)).set4 (.int .i64 most)).size hg3
  have G4 : w.heap.size + 3 ≤ g4 := Nat.le_trans (T4.out.set5 (.slice (some ⟨g3, 0, none⟩) gls.length gls.length)).size hg4
  have G5 : w.heap.size + 3 ≤ g5 := Nat.le_trans (T5.out.set6 (.slice (some ⟨g4, 0, none⟩) exs.length exs.length)).size hg5
  refine bodyPost_ret ?_ rfl ⟨g0, g1, g2, g3, g4, g5, G, D, rfl, ?_, ?_⟩
  · simp [results, go_sem, newP, newM, newF_len, newD_len, e0, e1, e2, e3, e4, e5, e6, e7]
  · refine ⟨by omega, by omega, by omega, by omega, by omega, by omega, m1.out.row hr0 G0, m2.out.row hr1 G1, m3.out.row hr2 G2, m4.out.row hr3 G3, m5.out.row hr4 G4, m6.out.row hr5 G5, fun j hj => ?_, fun j hj => ?_⟩
    · obtain ⟨x1, x2⟩ := hG j hj
      have x3 : w.heap.size + 3 ≤ G j := Nat.le_trans (T2.out.set1 (.slice (some ⟨g1, 0, none⟩) imps.length imps.length)).size (Nat.le_of_lt x1)
      exact ⟨by omega, m3.out.body x2 x3⟩
    · obtain ⟨x1, x2⟩ := hD j hj
      have x3 : w.heap.size + 3 ≤ D j := Nat.le_trans (T5.out.set6 (.slice (some ⟨g4, 0, none⟩) exs.length exs.length)).size (Nat.le_of_lt x1)
      exact ⟨by omega, m6.out.bytes x2 x3⟩
  · exact ((((((((T7.out.bl).setCell (p := ⟨w.heap.size + 1, 0, none⟩) (by simp) _).setCell (p := ⟨w.heap.size + 1, 1, none⟩) (by simp) _).setCell (p := ⟨w.heap.size + 1, 2, none⟩) (by simp) _).setCell (p := ⟨w.heap.size + 1, 3, none⟩) (by simp) _).setCell (p := ⟨w.heap.size + 1, 4, none⟩) (by simp) _).setCell (p := ⟨w.heap.size + 1, 5, none⟩) (by simp) _).setCell (p := ⟨w.heap.size + 1, 6, none⟩) (by simp) _).setCell (p := ⟨w.heap.size + 1, 7, none⟩) (by simp) _
structure TE (w u : World) (x0 x1 x2 x3 x4 x5 x6 x7 y0 y1 y2 y3 y4 y5 y6 y7 : Value) : Prop where
  ra : u.rowIs w.heap.size 41 8 (R8 x0 x1 x2 x3 x4 x5 x6 x7)
  rb : u.rowIs (w.heap.size + 1) 41 8 (R8 y0 y1 y2 y3 y4 y5 y6 y7)
  bl : Below w.heap.size w u
theorem TE.call {w u u' : World} {x0 x1 x2 x3 x4 x5 x6 x7 y0 y1 y2 y3 y4 y5 y6 y7 : Value} (h : TE w u x0 x1 x2 x3 x4 x5 x6 x7 y0 y1 y2 y3 y4 y5 y6 y7) (q : Below u.heap.size u u') : TE w u' x0 x1 x2 x3 x4 x5 x6 x7 y0 y1 y2 y3 y4 y5 y6 y7 :=
  ⟨row_later h.ra q, row_later h.rb q, h.bl.trans (q.mono h.bl.size)⟩
set_option maxRecDepth 20000 in
set_option maxHeartbeats 16000000 in
theorem eqM (w : World) (p p' : P) (m m' : M) (h : Rd w p m) (h' : Rd w p' m') (s : Same m m') (hs : Small m) :
    Calls Tryz.prog 10 #[val p m, val p' m'] w fun e w' => e = .returned (.bool true) ∧ Below w.heap.size w w' := by
  obtain ⟨a0, c0, a1, c1, a2, c2, a3, c3, a4, c4, a5, c5⟩ := p
  obtain ⟨b0, d0, b1, d1, b2, d2, b3, d3, b4, d4, b5, d5⟩ := p'
  obtain ⟨sigs, imps, fns, pages, most, gls, exs, dat⟩ := m
  obtain ⟨sigs', imps', fns', pages', most', gls', exs', dat'⟩ := m'
  obtain ⟨h0, h1, h2, h3, h4, h5⟩ := h
  obtain ⟨e0, e1, e2, e3, e4, e5⟩ := h'
  obtain ⟨n0, n1, _, n2, z2, n3, n4, _, n5, z5⟩ := hs
  obtain ⟨s0, s1, t2, s2, sp, sm, s3, s4, t5, s5⟩ := s
  dsimp only at *
  subst s0 s1 sp sm s3 s4
  simp only [val, t2, t5]
  have T0 : Hid (TE w ((w.alloc (.cells #[.slice a0 sigs'.length c0, .slice a1 imps'.length c1, .slice a2 fns.length c2, .int .i64 pages', .int .i64 most', .slice a3 gls'.length c3, .slice a4 exs'.length c4, .slice a5 dat.length c5] 41)).alloc (.cells #[.slice b0 sigs'.length d0, .slice b1 imps'.length d1, .slice b2 fns.length d2, .int .i64 pages', .int .i64 most', .slice b3 gls'.length d3, .slice b4 exs'.length d4, .slice b5 dat.length d5] 41)) (.slice a0 sigs'.length c0) (.slice a1 imps'.length c1) (.slice a2 fns.length c2) (.int .i64 pages') (.int .i64 most') (.slice a3 gls'.length c3) (.slice a4 exs'.length c4) (.slice a5 dat.length c5) (.slice b0 sigs'.length d0) (.slice b1 imps'.length d1) (.slice b2 fns.length d2) (.int .i64 pages') (.int .i64 most') (.slice b3 gls'.length d3) (.slice b4 exs'.length d4) (.slice b5 dat.length d5)) := ⟨(r8_made w (.slice a0 sigs'.length c0) (.slice a1 imps'.length c1) (.slice a2 fns.length c2) (.int .i64 pages') (.int .i64 most') (.slice a3 gls'.length c3) (.slice a4 exs'.length c4) (.slice a5 dat.length c5) 41).alloc (.cells #[.slice b0 sigs'.length d0, .slice b1 imps'.length d1, .slice b2 fns.length d2, .int .i64 pages', .int .i64 most', .slice b3 gls'.length d3, .slice b4 exs'.length d4, .slice b5 dat.length d5] 41), by
    have := r8_made (w.alloc (.cells #[.slice a0 sigs'.length c0, .slice a1 imps'.length c1, .slice a2 fns.length c2, .int .i64 pages', .int .i64 most', .slice a3 gls'.length c3, .slice a4 exs'.length c4, .slice a5 dat.length c5] 41)) (.slice b0 sigs'.length d0) (.slice b1 imps'.length d1) (.slice b2 fns.length d2) (.int .i64 pages') (.int .i64 most') (.slice b3 gls'.length d3) (.slice b4 exs'.length d4) (.slice b5 dat.length d5) 41
    simp only [World.size_alloc] at this
    exact this, ((Below.refl _ _).alloc (Nat.le_refl _) _).alloc (by simp) _⟩
  have k0 : Hid (∀ u, Below w.heap.size w u → _) := fun u hu => MemSig.eqS u a0 b0 c0 d0 sigs' (h0.later hu) (e0.later hu) (by omega)
  have k1 : Hid (∀ u, Below w.heap.size w u → _) := fun u hu => MemImport.eqS u a1 b1 c1 d1 imps' (h1.later hu) (e1.later hu) (by omega)
  have k2 : Hid (∀ u, Below w.heap.size w u → _) := fun u hu => MemFunc.eqS u a2 b2 c2 d2 fns fns' (h2.later hu) (e2.later hu) t2 (by omega) (fun j hj => have ⟨x, y, z⟩ := s2 j hj; ⟨x, y, z, by have := z2 j hj; omega⟩)
  have k3 : Hid (∀ u, Below w.heap.size w u → _) := fun u hu => MemGlobal.eqS u a3 b3 c3 d3 gls' (h3.later hu) (e3.later hu) (by omega)
  have k4 : Hid (∀ u, Below w.heap.size w u → _) := fun u hu => MemExport.eqS u a4 b4 c4 d4 exs' (h4.later hu) (e4.later hu) (by omega)
  have k5 : Hid (∀ u, Below w.heap.size w u → _) := fun u hu => MemData.eqS u a5 b5 c5 d5 dat dat' (h5.later hu) (e5.later hu) t5 (by omega) (fun j hj => have ⟨x, y, z⟩ := s5 j hj; ⟨x, y, z, by have := z5 j hj; omega⟩)
  clear h0 h1 h2 h3 h4 h5 e0 e1 e2 e3 e4 e5 n0 n1 n2 n3 n4 n5 z2 z5 s2 s5 t2 t5
  go_enter Tryz.func10, Tryz.ntmps10
  go_wp2_with (go_at_call 56; refine (k0.out _ T0.out.bl).mono ?_; rintro e w1 ⟨rfl, q0⟩; have T1 : Hid _ := T0.out.call q0; obtain ⟨_, _, _, _, _, _, _, _⟩ := r8 T1.out.ra; obtain ⟨_, _, _, _, _, _, _, _⟩ := r8 T1.out.rb)
  go_wp2_with (go_at_call 57; refine (k1.out _ T1.out.bl).mono ?_; rintro e w2 ⟨rfl, q1⟩; have T2 : Hid _ := T1.out.call q1; obtain ⟨_, _, _, _, _, _, _, _⟩ := r8 T2.out.ra; obtain ⟨_, _, _, _, _, _, _, _⟩ := r8 T2.out.rb)
  go_wp2_with (go_at_call 58; refine (k2.out _ T2.out.bl).mono ?_; rintro e w3 ⟨rfl, q2⟩; have T3 : Hid _ := T2.out.call q2; obtain ⟨_, _, _, _, _, _, _, _⟩ := r8 T3.out.ra; obtain ⟨_, _, _, _, _, _, _, _⟩ := r8 T3.out.rb)
  go_wp2_with (go_at_call 59; refine (k3.out _ T3.out.bl).mono ?_; rintro e w4 ⟨rfl, q3⟩; have T4 : Hid _ := T3.out.call q3; obtain ⟨_, _, _, _, _, _, _, _⟩ := r8 T4.out.ra; obtain ⟨_, _, _, _, _, _, _, _⟩ := r8 T4.out.rb)
  go_wp2_with (go_at_call 60; refine (k4.out _ T4.out.bl).mono ?_; rintro e w5 ⟨rfl, q4⟩; have T5 : Hid _ := T4.out.call q4; obtain ⟨_, _, _, _, _, _, _, _⟩ := r8 T5.out.ra; obtain ⟨_, _, _, _, _, _, _, _⟩ := r8 T5.out.rb)
  go_wp2_with (go_at_call 61; refine (k5.out _ T5.out.bl).mono ?_; rintro e w6 ⟨rfl, q5⟩; have T6 : Hid _ := T5.out.call q5; obtain ⟨_, _, _, _, _, _, _, _⟩ := r8 T6.out.ra; obtain ⟨_, _, _, _, _, _, _, _⟩ := r8 T6.out.rb)
  go_ret
  exact ⟨rfl, T6.out.bl⟩
structure TS (w u : World) (x0 x1 x2 x3 x4 x5 x6 x7 : Value) : Prop where
  ra : u.rowIs w.heap.size 29 8 (R8 x0 x1 x2 x3 x4 x5 x6 x7)
  bl : Below w.heap.size w u
theorem TS.call {w u u' : World} {x0 x1 x2 x3 x4 x5 x6 x7 : Value} (h : TS w u x0 x1 x2 x3 x4 x5 x6 x7) (q : Below u.heap.size u u') : TS w u' x0 x1 x2 x3 x4 x5 x6 x7 := ⟨row_later h.ra q, h.bl.trans (q.mono h.bl.size)⟩
theorem szFlat {f : FuncId} {a : Option Addr} {n cap : Nat} {left : Int} (h : ∀ u, Calls Tryz.prog f #[.slice a n cap, .int .i64 left] u fun e w' => e = .returned (.int .i64 (if (n : Int) ≤ left then left - (n : Int) else -1)) ∧ u = w') (h0 : 0 ≤ left) (u : World) :
    Calls Tryz.prog f #[.slice a n cap, .int .i64 left] u fun e w' => ∃ r : Int, e = .returned (.int .i64 r) ∧ r ≤ left ∧ -1 ≤ r ∧ (0 ≤ r → (n : Int) ≤ left) ∧ Below u.heap.size u w' := by
  refine (h u).mono fun e w' ⟨he, hw⟩ => ⟨_, he, ?_, ?_, ?_, hw ▸ Below.refl _ _⟩ <;> split <;> omega
set_option maxRecDepth 20000 in
set_option maxHeartbeats 16000000 in
theorem szM (w : World) (p : P) (m : M) (left : Int) (h : Rd w p m) (hs : Wide m) (l0 : 0 ≤ left) (l1 : left ≤ 1048576) :
    Calls Tryz.prog 5 #[val p m, .int .i64 left] w fun e w' => ∃ r : Int, e = .returned (.int .i64 r) ∧ r ≤ left ∧ -1 ≤ r ∧ (0 ≤ r → Small m) ∧ Below w.heap.size w w' := by
  obtain ⟨a0, c0, a1, c1, a2, c2, a3, c3, a4, c4, a5, c5⟩ := p
  obtain ⟨sigs, imps, fns, pages, most, gls, exs, dat⟩ := m
  obtain ⟨h0, h1, h2, h3, h4, h5⟩ := h
  obtain ⟨n0, n1, z1, n2, z2, n3, n4, z4, n5, z5⟩ := hs
  simp only [val] at *
  have T0 : Hid (TS w (w.alloc (.cells #[.slice a0 sigs.length c0, .slice a1 imps.length c1, .slice a2 fns.length c2, .int .i64 pages, .int .i64 most, .slice a3 gls.length c3, .slice a4 exs.length c4, .slice a5 dat.length c5] 29)) (.slice a0 sigs.length c0) (.slice a1 imps.length c1) (.slice a2 fns.length c2) (.int .i64 pages) (.int .i64 most) (.slice a3 gls.length c3) (.slice a4 exs.length c4) (.slice a5 dat.length c5)) := ⟨r8_made w (.slice a0 sigs.length c0) (.slice a1 imps.length c1) (.slice a2 fns.length c2) (.int .i64 pages) (.int .i64 most) (.slice a3 gls.length c3) (.slice a4 exs.length c4) (.slice a5 dat.length c5) 29, (Below.refl _ _).alloc (Nat.le_refl _) _⟩
  have k0 : Hid (∀ u (left : Int), Below w.heap.size w u → 0 ≤ left → left ≤ 1048576 → _) := fun u left _ x y => szFlat (fun u => ModSz.szSigS a0 sigs.length c0 left u n0 x y) x u
  have k1 : Hid (∀ u (left : Int), Below w.heap.size w u → 0 ≤ left → left ≤ 1048576 → _) := fun u left hu x y => ModSz.szImportS u a1 c1 imps left (h1.later hu) n1 z1 x y
  have k2 : Hid (∀ u (left : Int), Below w.heap.size w u → 0 ≤ left → left ≤ 1048576 → _) := fun u left hu x y => ModSz2.szFuncS u a2 c2 fns left (h2.later hu) n2 z2 x y
  have k3 : Hid (∀ u (left : Int), Below w.heap.size w u → 0 ≤ left → left ≤ 1048576 → _) := fun u left _ x y => szFlat (fun u => ModSz.szGlobalS a3 gls.length c3 left u n3 x y) x u
  have k4 : Hid (∀ u (left : Int), Below w.heap.size w u → 0 ≤ left → left ≤ 1048576 → _) := fun u left hu x y => ModSz.szExportS u a4 c4 exs left (h4.later hu) n4 z4 x y
  have k5 : Hid (∀ u (left : Int), Below w.heap.size w u → 0 ≤ left → left ≤ 1048576 → _) := fun u left hu x y => ModSz2.szDataS u a5 c5 dat left (h5.later hu) n5 z5 x y
  clear h0 h1 h2 h3 h4 h5 n0 n1 n2 n3 n4 n5 z1 z2 z4 z5
  go_enter Tryz.func5, Tryz.ntmps5
  go_wp2_with (go_at_call 16; refine (k0.out _ _ T0.out.bl (by omega) (by omega)).mono ?_; rintro e w1 ⟨r0, rfl, x0, y0, f0, q0⟩; have T1 : Hid _ := T0.out.call q0; have F0 : Hid _ := f0; clear f0; obtain ⟨_, _, _, _, _, _, _, _⟩ := r8 T1.out.ra)
  · go_ret
    exact ⟨-1, rfl, by omega, by omega, fun h => by omega, T1.out.bl⟩
  · skip
    go_wp2_with (go_at_call 17; refine (k1.out _ _ T1.out.bl (by omega) (by omega)).mono ?_; rintro e w2 ⟨r1, rfl, x1, y1, f1, q1⟩; have T2 : Hid _ := T1.out.call q1; have F1 : Hid _ := f1; clear f1; obtain ⟨_, _, _, _, _, _, _, _⟩ := r8 T2.out.ra)
    · go_ret
      exact ⟨-1, rfl, by omega, by omega, fun h => by omega, T2.out.bl⟩
    · skip
      go_wp2_with (go_at_call 18; refine (k2.out _ _ T2.out.bl (by omega) (by omega)).mono ?_; rintro e w3 ⟨r2, rfl, x2, y2, f2, q2⟩; have T3 : Hid _ := T2.out.call q2; have F2 : Hid _ := f2; clear f2; obtain ⟨_, _, _, _, _, _, _, _⟩ := r8 T3.out.ra)
      · go_ret
        exact ⟨-1, rfl, by omega, by omega, fun h => by omega, T3.out.bl⟩
      · skip
        go_wp2_with (go_at_call 19; refine (k3.out _ _ T3.out.bl (by omega) (by omega)).mono ?_; rintro e w4 ⟨r3, rfl, x3, y3, f3, q3⟩; have T4 : Hid _ := T3.out.call q3; have F3 : Hid _ := f3; clear f3; obtain ⟨_, _, _, _, _, _, _, _⟩ := r8 T4.out.ra)
        · go_ret
          exact ⟨-1, rfl, by omega, by omega, fun h => by omega, T4.out.bl⟩
        · skip
          go_wp2_with (go_at_call 20; refine (k4.out _ _ T4.out.bl (by omega) (by omega)).mono ?_; rintro e w5 ⟨r4, rfl, x4, y4, f4, q4⟩; have T5 : Hid _ := T4.out.call q4; have F4 : Hid _ := f4; clear f4; obtain ⟨_, _, _, _, _, _, _, _⟩ := r8 T5.out.ra)
          · go_ret
            exact ⟨-1, rfl, by omega, by omega, fun h => by omega, T5.out.bl⟩
          · skip
            go_wp2_with (go_at_call 21; refine (k5.out _ _ T5.out.bl (by omega) (by omega)).mono ?_; rintro e w6 ⟨r5, rfl, x5, y5, f5, q5⟩; have T6 : Hid _ := T5.out.call q5; have F5 : Hid _ := f5; clear f5; obtain ⟨_, _, _, _, _, _, _, _⟩ := r8 T6.out.ra)
            · go_ret
              exact ⟨-1, rfl, by omega, by omega, fun h => by omega, T6.out.bl⟩
            · go_ret
              exact ⟨r5, rfl, by omega, by omega, fun _ => ⟨by have := F0.out (by omega); dsimp only; omega, by have := (F1.out (by omega)).1; dsimp only; omega, fun j hj => by have := (F1.out (by omega)).2 j hj; dsimp only; omega, by have := (F2.out (by omega)).1; dsimp only; omega, fun j hj => by have := (F2.out (by omega)).2 j hj; dsimp only; omega, by have := F3.out (by omega); dsimp only; omega, by have := (F4.out (by omega)).1; dsimp only; omega, fun j hj => by have := (F4.out (by omega)).2 j hj; dsimp only; omega, by have := (F5.out (by omega)).1; dsimp only; omega, fun j hj => by have := (F5.out (by omega)).2 j hj; dsimp only; omega⟩, T6.out.bl⟩
end Go.Proofs.YtffngjgjhialnaaGreatDoor.ModMem
