/-
  The bytes of a module in plain words, and what a right form gives. (Written by my wrmodule.py.)
-/
import Derived.Test.YtffngjgjhialnaaGreatDoorWrAll
import Derived.Test.YtffngjgjhialnaaGreatDoorFormImpl
namespace Go.Proofs.YtffngjgjhialnaaGreatDoor.ModB
open Go.RowKit PlainOps NameCalls PlainNum PlainLeb NumCalls ByteMem PutU ImplPut ImplApp PlainBytes ByteWr InsCalls InsImpl PlainShape InsMem PlainAll EveryIns WrIns WrBody WrMod WrParts WrSec ModMem FormImpl

theorem allP_all {p : Nat → Bool} : ∀ (f k : Nat), FormCalls.allP p f k = true → ∀ j, k ≤ j → j < k + f → p j = true
  | 0, _, _, j, h1, h2 => by omega
  | f + 1, k, h, j, h1, h2 => by
    cases hk : p k with
    | false => rw [FormCalls.allP_no hk] at h; cases h
    | true =>
      rw [FormCalls.allP_yes hk] at h
      by_cases e : j = k
      · subst e; exact hk
      · exact allP_all f (k + 1) h j (by omega) (by omega)
/-- What a right form gives. -/
structure Good (m : M) : Prop where
  c0 : m.sigs.length ≤ 30
  c1 : m.imps.length ≤ 60
  c2 : m.fns.length ≤ 60
  c3 : m.gls.length ≤ 30
  c4 : m.exs.length ≤ 60
  c5 : m.dat.length ≤ 20
  mem : (m.most = -1 ∧ -1 ≤ m.pages ∧ m.pages ≤ 2) ∨ (m.most ≠ -1 ∧ 0 ≤ m.pages ∧ m.pages ≤ 2 ∧ m.pages ≤ m.most ∧ m.most ≤ 65536)
  g0 : ∀ k, k < m.sigs.length → 0 ≤ MemSig.f0At m.sigs k ∧ MemSig.f0At m.sigs k ≤ 60 ∧ 0 ≤ MemSig.f1At m.sigs k ∧ MemSig.f1At m.sigs k ≤ 1
  g1 : ∀ k, k < m.imps.length → (MemImport.f0At m.imps k).size ≤ 40 ∧ (MemImport.f1At m.imps k).size ≤ 40
  g2 : ∀ k, k < m.fns.length → (MemFunc.at1 m.fns k).body.length ≤ 1500 ∧ allF (MemFunc.at1 m.fns k).body (MemFunc.at1 m.fns k).body.length 0 = true ∧ 0 ≤ (MemFunc.at1 m.fns k).loc ∧ (MemFunc.at1 m.fns k).loc ≤ 60
  g4 : ∀ k, k < m.exs.length → (MemExport.f0At m.exs k).size ≤ 40
  g5 : ∀ k, k < m.dat.length → (MemData.at1 m.dat k).n ≤ 2000
theorem good_of {m : M} (h : formOk m = true) : Good m := by
  unfold formOk FormCalls.coOk at h
  simp only [Bool.and_eq_true, decide_eq_true_eq] at h
  obtain ⟨⟨c0, c12, c3, c4, c5⟩, hm, h0, h1, h2, _, h4, h5⟩ := h
  refine ⟨c0, by omega, by omega, c3, c4, c5, ?_, fun k hk => ?_, fun k hk => ?_, fun k hk => ?_, fun k hk => ?_, fun k hk => ?_⟩
  · unfold FormCalls.meOk FormCalls.wi at hm
    split at hm
    · left; simp at hm; omega
    · right; simp at hm; omega
  · have := allP_all _ _ h0 k (by omega) (by omega)
    simp [FormCalls.sgOk, FormCalls.wi] at this
    omega
  · have := allP_all _ _ h1 k (by omega) (by omega)
    simp [FormCalls.imOk, FormCalls.nmOk] at this
    omega
  · have := allP_all _ _ h2 k (by omega) (by omega)
    simp [FormCalls.fnOk, FormCalls.boOk, FormCalls.wi] at this
    obtain ⟨_, ⟨a, b⟩, c, d, _⟩ := this
    exact ⟨c, d, a, b⟩
  · have := allP_all _ _ h4 k (by omega) (by omega)
    simp [FormCalls.exOk, FormCalls.nmOk] at this
    omega
  · have := allP_all _ _ h5 k (by omega) (by omega)
    simp [FormCalls.daOk] at this
    omega
/-- The bytes of a Data. -/
def dB (e : MemData.E) : List UInt8 := (List.range e.n).map fun j => UInt8.ofNat (e.Z j).toNat
theorem dB_len (e : MemData.E) : (dB e).length = e.n := by simp [dB]
theorem dB_rd {w : World} {e : MemData.E} (h : ByteMem.Rd w e.ad e.n e.Z) : PutU.RdB w e.ad (dB e) := by
  have hz : ∀ j, j < e.n → (((dB e)[j]?.getD 0).toNat : Int) = e.Z j := fun j hj => by
    obtain ⟨z0, z1⟩ := h.1 j hj
    have hv : (UInt8.ofNat (e.Z j).toNat).toNat = (e.Z j).toNat := by
      rw [UInt8.toNat_ofNat']
      omega
    simp [dB, hj, hv]
    omega
  unfold PutU.RdB
  rw [dB_len]
  refine ⟨fun j hj => by dsimp only; rw [hz j hj]; exact h.1 j hj, ?_⟩
  rcases h.2 with h0 | ⟨b, off, ha, hc⟩
  · exact .inl h0
  · exact .inr ⟨b, off, ha, fun j hj => by dsimp only; rw [hz j hj]; exact hc j hj⟩
theorem data_at {w : World} {a : Option Addr} {l : List MemData.E} (h : MemData.Rd w a l) {k : Nat} (hk : k < l.length) : ByteMem.Rd w (MemData.at1 l k).ad (MemData.at1 l k).n (MemData.at1 l k).Z := by
  rcases h with h | ⟨b, off, _, hc⟩
  · omega
  · exact (hc k hk).2.2
theorem rdb_block {w : World} {g off : Nat} {bs : List UInt8} (h : PutU.RdB w (some ⟨g, off, none⟩) bs) (hne : bs ≠ []) : g < w.heap.size := by
  rcases h.2 with h0 | ⟨b, o, ha, hc⟩
  · exact absurd (List.length_eq_zero_iff.1 h0) hne
  · simp only [Option.some.injEq, Addr.mk.injEq, and_true] at ha
    obtain ⟨rfl, rfl⟩ := ha
    exact World.block_lt_of_cell? w _ (hc 0 (Nat.pos_of_ne_zero (fun e => hne (List.length_eq_zero_iff.1 e))))
theorem catP_len {F : Nat → List UInt8} {B : Nat} : ∀ (n : Nat), (∀ k, k < n → (F k).length ≤ B) → (catP F n).length ≤ n * B
  | 0, _ => by simp [catP]
  | n + 1, h => by
    have h1 := catP_len n (fun k hk => h k (by omega))
    have h2 := h n (by omega)
    simp only [catP, List.length_append, Nat.add_mul]
    omega
theorem catP_congr {F G : Nat → List UInt8} : ∀ (n : Nat), (∀ k, k < n → F k = G k) → catP F n = catP G n
  | 0, _ => rfl
  | n + 1, h => by rw [catP, catP, catP_congr n (fun k hk => h k (by omega)), h n (by omega)]
def headB : List UInt8 := [0, 97, 115, 109, 1, 0, 0, 0]
def FS (m : M) (k : Nat) : List UInt8 := sigB (MemSig.f0At m.sigs k).toNat (MemSig.f1At m.sigs k).toNat
def FI (m : M) (k : Nat) : List UInt8 := impB (MemImport.f0At m.imps k) (MemImport.f1At m.imps k) (MemImport.f2At m.imps k)
def FF (m : M) (k : Nat) : List UInt8 := uv (MemFunc.at1 m.fns k).sig
def FM (m : M) (_ : Nat) : List UInt8 := memB m.pages m.most
def FG (m : M) (k : Nat) : List UInt8 := glB (MemGlobal.f0At m.gls k) (MemGlobal.f1At m.gls k)
def FE (m : M) (k : Nat) : List UInt8 := exB (MemExport.f0At m.exs k) (MemExport.f1At m.exs k) (MemExport.f2At m.exs k)
def FB (m : M) (k : Nat) : List UInt8 := fbB (MemFunc.at1 m.fns k).loc (MemFunc.at1 m.fns k).body
def FD (m : M) (k : Nat) : List UInt8 := daB (MemData.at1 m.dat k).pos (dB (MemData.at1 m.dat k))
def mc (m : M) : Nat := if m.pages = -1 then 0 else 1
def secs (m : M) : Nat → List UInt8
  | 0 => secB 1 m.sigs.length (catP (FS m) m.sigs.length)
  | 1 => secB 2 m.imps.length (catP (FI m) m.imps.length)
  | 2 => secB 3 m.fns.length (catP (FF m) m.fns.length)
  | 3 => secB 5 (mc m) (catP (FM m) (mc m))
  | 4 => secB 6 m.gls.length (catP (FG m) m.gls.length)
  | 5 => secB 7 m.exs.length (catP (FE m) m.exs.length)
  | 6 => secB 10 m.fns.length (catP (FB m) m.fns.length)
  | _ => secB 11 m.dat.length (catP (FD m) m.dat.length)
/-- The bytes of a module of a right form. -/
def allB (m : M) : List UInt8 := headB ++ secs m 0 ++ secs m 1 ++ secs m 2 ++ secs m 3 ++ secs m 4 ++ secs m 5 ++ secs m 6 ++ secs m 7
def modB (m : M) : List UInt8 := if formOk m = true then allB m else []
theorem secB_len (id : UInt8) (n : Nat) (b : List UInt8) : (secB id n b).length ≤ 21 + b.length := by
  have h1 := uv_len ((uv (n : Int) ++ b).length : Int)
  have h2 := uv_len (n : Int)
  unfold secB
  split
  · simp
  · simp only [List.length_append, List.length_cons, List.length_nil] at *
    omega
theorem FS_len {m : M} (g : Good m) : (catP (FS m) m.sigs.length).length ≤ 3000 := by
  refine Nat.le_trans (catP_len (B := 100) _ fun k hk => ?_) (by have := g.c0; omega)
  obtain ⟨a, b, c, d⟩ := g.g0 k hk
  have h1 := vsB_len ((MemSig.f0At m.sigs k).toNat : Int) (MemSig.f0At m.sigs k).toNat
  have h2 := vsB_len ((MemSig.f1At m.sigs k).toNat : Int) (MemSig.f1At m.sigs k).toNat
  simp only [FS, sigB, List.length_append, List.length_cons, List.length_nil]
  omega
theorem FI_len {m : M} (g : Good m) : (catP (FI m) m.imps.length).length ≤ 12000 := by
  refine Nat.le_trans (catP_len (B := 200) _ fun k hk => ?_) (by have := g.c1; omega)
  obtain ⟨a, b⟩ := g.g1 k hk
  have h1 := nmB_len (MemImport.f0At m.imps k)
  have h2 := nmB_len (MemImport.f1At m.imps k)
  have h3 := uv_len (MemImport.f2At m.imps k)
  simp only [FI, impB, List.length_append, List.length_cons, List.length_nil]
  omega
theorem FF_len {m : M} (g : Good m) : (catP (FF m) m.fns.length).length ≤ 600 := by
  refine Nat.le_trans (catP_len (B := 10) _ fun k hk => ?_) (by have := g.c2; omega)
  exact uv_len _
theorem FM_len (m : M) : (catP (FM m) (mc m)).length ≤ 30 := by
  have h1 := uv_len m.pages
  have h2 := uv_len m.most
  refine Nat.le_trans (catP_len (B := 30) _ fun k hk => ?_) (by unfold mc; split <;> omega)
  unfold FM memB
  split <;> simp only [List.length_append, List.length_cons, List.length_nil] <;> omega
theorem FG_len {m : M} (g : Good m) : (catP (FG m) m.gls.length).length ≤ 600 := by
  refine Nat.le_trans (catP_len (B := 20) _ fun k hk => ?_) (by have := g.c3; omega)
  have h1 := sv_len (MemGlobal.f1At m.gls k)
  simp only [FG, glB, List.length_append, List.length_cons, List.length_nil]
  omega
theorem FE_len {m : M} (g : Good m) : (catP (FE m) m.exs.length).length ≤ 6000 := by
  refine Nat.le_trans (catP_len (B := 100) _ fun k hk => ?_) (by have := g.c4; omega)
  have h0 := g.g4 k hk
  have h1 := nmB_len (MemExport.f0At m.exs k)
  have h3 := uv_len (MemExport.f2At m.exs k)
  simp only [FE, exB, List.length_append, List.length_cons, List.length_nil]
  omega
theorem FB_len {m : M} (g : Good m) : (catP (FB m) m.fns.length).length ≤ 1893000 := by
  refine Nat.le_trans (catP_len (B := 31550) _ fun k hk => ?_) (by have := g.c2; omega)
  have h0 := (g.g2 k hk).1
  have h1 := inB_len (MemFunc.at1 m.fns k).loc (MemFunc.at1 m.fns k).body
  have h3 := uv_len ((inB (MemFunc.at1 m.fns k).loc (MemFunc.at1 m.fns k).body).length : Int)
  simp only [FB, fbB, List.length_append]
  omega
theorem FD_len {m : M} (g : Good m) : (catP (FD m) m.dat.length).length ≤ 42000 := by
  refine Nat.le_trans (catP_len (B := 2100) _ fun k hk => ?_) (by have := g.c5; omega)
  have h0 := g.g5 k hk
  have h1 := sv_len (MemData.at1 m.dat k).pos
  have h2 := dB_len (MemData.at1 m.dat k)
  have h3 := uv_len ((dB (MemData.at1 m.dat k)).length : Int)
  simp only [FD, daB, List.length_append, List.length_cons, List.length_nil]
  omega
theorem allB_len {m : M} (g : Good m) : (allB m).length ≤ 2000000 := by
  have h0 := secB_len 1 m.sigs.length (catP (FS m) m.sigs.length)
  have h1 := secB_len 2 m.imps.length (catP (FI m) m.imps.length)
  have h2 := secB_len 3 m.fns.length (catP (FF m) m.fns.length)
  have h3 := secB_len 5 (mc m) (catP (FM m) (mc m))
  have h4 := secB_len 6 m.gls.length (catP (FG m) m.gls.length)
  have h5 := secB_len 7 m.exs.length (catP (FE m) m.exs.length)
  have h6 := secB_len 10 m.fns.length (catP (FB m) m.fns.length)
  have h7 := secB_len 11 m.dat.length (catP (FD m) m.dat.length)
  have l0 := FS_len g
  have l1 := FI_len g
  have l2 := FF_len g
  have l3 := FM_len m
  have l4 := FG_len g
  have l5 := FE_len g
  have l6 := FB_len g
  have l7 := FD_len g
  simp only [allB, secs, headB, List.length_append, List.length_cons, List.length_nil]
  omega
end Go.Proofs.YtffngjgjhialnaaGreatDoor.ModB
