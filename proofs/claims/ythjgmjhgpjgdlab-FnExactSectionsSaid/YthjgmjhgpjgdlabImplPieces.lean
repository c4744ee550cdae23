/-
  What the program's piecesAt answers: what the bytes of the number at a place make together.
-/
import Derived.Test.YthjgmjhgpjgdlabImplGet
import Derived.Test.YthjgmjhgpjgdlabRoundRegion
import Derived.BigRegionIn
import Derived.BigRegion
import Derived.RegionTactic
namespace Go.Proofs.Ythjgmjhgpjgdlab.ImplPieces
open Go.RowKit Go.Shelf PlainNum PlainLeb PlainGet NumCalls ByteMem PutU ImplPut ImplGet
attribute [local go_sem] Oper.semAt_some

/-- Block B holds the cells arr. -/
def Held (W : World) (B : Nat) (arr : Array Value) (t : TypeId) : Prop := W.heap[B]? = some (.cells arr t (0, 0))
theorem Held.lt {W : World} {B : Nat} {arr : Array Value} {t : TypeId} (h : Held W B arr t) : B < W.heap.size := (Array.getElem?_eq_some_iff.1 h).1
theorem Held.cell {W : World} {B : Nat} {arr : Array Value} {t : TypeId} (h : Held W B arr t) (i : Nat) : W.cell? ⟨B, i, none⟩ = arr[i]? := by simp [World.cell?, show W.heap[B]? = _ from h]
theorem Held.frozen {W : World} {B : Nat} {arr : Array Value} {t : TypeId} (h : Held W B arr t) (i : Nat) : W.frozen? ⟨B, i, none⟩ = false := by simp [World.frozen?, show W.heap[B]? = _ from h]
theorem Held.new (W : World) (t : TypeId) (arr : Array Value) : Held (W.alloc (.cells arr t)) W.heap.size arr t := World.alloc_heap_new W _
theorem Held.kept {W W' : World} {row : Option Nat} {B : Nat} {arr : Array Value} {t : TypeId} (h : Held W B arr t) (hg : W.grownBy W' row) (hne : some B ≠ row) : Held W' B arr t := (hg.block B h.lt hne).trans h
theorem Held.alloc {W : World} {B : Nat} {arr : Array Value} {t : TypeId} (h : Held W B arr t) (o : Obj) : Held (W.alloc o) B arr t := h.kept (World.grownBy_alloc W o none) (by simp)
theorem Held.set {W : World} {B : Nat} {arr : Array Value} {t : TypeId} (h : Held W B arr t) (i : Nat) (v : Value) : Held (W.setCell ⟨B, i, none⟩ v) B (arr.setIfInBounds i v) t := by
  obtain ⟨hlt, hk⟩ := Array.getElem?_eq_some_iff.1 h
  show (W.heap.modify B _)[B]? = _
  rw [Array.getElem?_eq_getElem (by rw [Array.size_modify]; exact hlt), Array.getElem_modify_self, hk]
  rfl
theorem Held.other {W : World} {B B' : Nat} {arr : Array Value} {t : TypeId} (h : Held W B arr t) (hne : B ≠ B') (i : Nat) (v : Value) : Held (W.setCell ⟨B', i, none⟩ v) B arr t :=
  (Below.heap_setCell W ⟨B', i, none⟩ v B hne).trans h
theorem held_own {β : Type} (B : Nat) (t : TypeId) (f : β → Array Value) : Own (fun s W => Held W B (f s) t) := by
  rintro s X Y row h hg hrow
  refine h.kept hg (fun e => ?_)
  obtain ⟨o, ho, hc⟩ := hrow B e.symm
  rw [show X.heap[B]? = _ from h] at ho; cases ho; cases hc
theorem shift_or (pre : List UInt8) (u : UInt8) (hk : pre.length ≤ 4) : bits .or .u64 (val pre : Int) (IntKind.u64.wrap ((u.toNat : Int) % 128 * 2 ^ (7 * pre.length))) = (val (pre ++ [u]) : Int) := by
  have hv := val_lt pre
  have hu := u.toNat_lt
  have hs := val_snoc pre u
  have e1 : (128 : Nat) ^ pre.length = 2 ^ (7 * pre.length) := by rw [Nat.pow_mul]
  have e3 : 128 ^ pre.length ≤ 268435456 := Nat.le_trans (Nat.pow_le_pow_right (by decide) hk) (by decide)
  have e4 : u.toNat % 128 * 128 ^ pre.length ≤ 127 * 268435456 := Nat.mul_le_mul (by omega) e3
  have e5 := or_apart (V := val pre) (Z := u.toNat % 128) (C := 128 ^ pre.length) e1 hv (by rw [Nat.mul_comm]; omega)
  have e6 : (u.toNat : Int) % 128 * 2 ^ (7 * pre.length) = ((u.toNat % 128 : Nat) : Int) * ((128 ^ pre.length : Nat) : Int) := by rw [e1]; simp
  have e7 : ((u.toNat % 128 : Nat) : Int) * ((128 ^ pre.length : Nat) : Int) = ((u.toNat % 128 * 128 ^ pre.length : Nat) : Int) := by simp
  have e8 : IntKind.u64.wrap ((u.toNat : Int) % 128 * 2 ^ (7 * pre.length)) = ((u.toNat % 128 : Nat) : Int) * ((128 ^ pre.length : Nat) : Int) := by
    rw [e6, e7, IntKind.wrap_u64]; omega
  rw [e8, e5, hs]
  simp
set_option maxRecDepth 100000 in
set_option maxHeartbeats 4000000 in
theorem piecesAt_in (n : Nat) (hn : 3 ≤ n)
    (b off cap : Nat) (bs : List UInt8) (p : Int) (w : World) (hcap : bs.length ≤ cap) (hln : bs.length ≤ 4611686018427387904) (hb : b < w.heap.size)
    (hc : ∀ j, j < bs.length → w.cell? ⟨b, off + j, none⟩ = some (.int .u8 ((bs[j]?.getD 0).toNat : Int))) :
    CallsIn Fence.wide n Try.prog 30 #[.slice (some ⟨b, off, none⟩) bs.length cap, .int .i64 p] w fun e w' =>
      e = .returned (.tuple #[.agg #[.int .u64 (val (come bs p) : Int), .int .i64 ((come bs p).length : Int), .int .u8 (lst (come bs p) : Int)], .bool (decide (fin (come bs p)))]) ∧ Below w.heap.size w w' := by
  have hn1 : 1 ≤ n := by omega
  have hc' : Hid (∀ j, j < bs.length → w.cell? ⟨b, off + j, none⟩ = some (.int .u8 ((bs[j]?.getD 0).toNat : Int))) := hc
  clear hc
  refine callsIn_of_wp_marks Try.func30 rfl trivial ?_ rfl
  simp only [Try.ntmps30, List.size_toArray, List.length_cons, List.length_nil, Nat.reduceAdd, Nat.reduceSub, Array.replicate_succ, Array.replicate_zero, List.push_toArray, List.append_toArray, List.nil_append, List.cons_append]
  gi_wp2_with (refine ⟨trivial, ?_⟩; gi_at_call 32; refine (bytesAt Fence.wide (n - 1) trivial rfl _ _ _ _ _).mono ?_; rintro e w' ⟨rfl, rfl⟩)
  obtain ⟨W0, hW0⟩ : ∃ W0, ((((w.alloc (.cells #[.int .u64 0, .int .i64 0, .int .u8 0] 63)).alloc (.cells #[.int .u64 0, .int .i64 0, .int .u8 0] 63)).alloc (.cells #[.slice (some ⟨b, off, none⟩) bs.length cap] 22)).alloc (.cells #[.int .i64 p] 3)) = W0 := ⟨_, rfl⟩
  have hsz : W0.heap.size = w.heap.size + 1 + 1 + 1 + 1 := by rw [← hW0]; simp
  have hR : Held W0 w.heap.size #[.int .u64 0, .int .i64 0, .int .u8 0] 63 := by rw [← hW0]; exact (((Held.new w _ _).alloc _).alloc _).alloc _
  have hP : Held W0 (w.heap.size + 1) #[.int .u64 0, .int .i64 0, .int .u8 0] 63 := by
    rw [← hW0]
    have := ((Held.new (w.alloc (.cells #[.int .u64 0, .int .i64 0, .int .u8 0] 63)) 63 #[.int .u64 0, .int .i64 0, .int .u8 0]).alloc (.cells #[.slice (some ⟨b, off, none⟩) bs.length cap] 22)).alloc (.cells #[.int .i64 p] 3)
    rwa [World.size_alloc] at this
  have hXb : Held W0 (w.heap.size + 1 + 1) #[.slice (some ⟨b, off, none⟩) bs.length cap] 22 := by
    rw [← hW0]
    have := (Held.new ((w.alloc (.cells #[.int .u64 0, .int .i64 0, .int .u8 0] 63)).alloc (.cells #[.int .u64 0, .int .i64 0, .int .u8 0] 63)) 22 #[.slice (some ⟨b, off, none⟩) bs.length cap]).alloc (.cells #[.int .i64 p] 3)
    rwa [World.size_alloc, World.size_alloc] at this
  have hXa : Held W0 (w.heap.size + 1 + 1 + 1) #[.int .i64 p] 3 := by
    rw [← hW0]
    have := Held.new (((w.alloc (.cells #[.int .u64 0, .int .i64 0, .int .u8 0] 63)).alloc (.cells #[.int .u64 0, .int .i64 0, .int .u8 0] 63)).alloc (.cells #[.slice (some ⟨b, off, none⟩) bs.length cap] 22)) 3 #[.int .i64 p]
    rwa [World.size_alloc, World.size_alloc, World.size_alloc] at this
  have hB0 : Below w.heap.size w W0 := by rw [← hW0]; exact ((((Below.refl _ w).alloc (Nat.le_refl _) _).alloc (by simp) _).alloc (by simp; omega) _).alloc (by simp; omega) _
  have hcl : (come bs p).length ≤ 5 := by
    unfold come
    split
    · exact tk_length _ _
    · simp
  rw [hW0]
  clear hW0
  refine wpIn_rangeFunc_ownG (F := Fence.wide) rfl hn1 (gf := 33) (lb := #[.pointer (some ⟨w.heap.size + 1 + 1 + 1, 0, none⟩), .pointer (some ⟨w.heap.size + 1 + 1, 0, none⟩)]) rfl trivial (enters_of Try.func33 (by kernel_rfl) rfl)
    (bytesAt_stops Fence.wide (n - 1) trivial rfl (by omega) (w.heap.size + 1 + 1 + 1) (w.heap.size + 1 + 1) w.heap.size b off cap bs p hcap hln hb W0 hB0.size hXa.lt hXb.lt (hXa.cell 0) (hXb.cell 0) (fun j hj => (hB0.cell (p := ⟨b, off + j, none⟩) hb).trans (hc'.out j hj))) belowK_t (belowK_b hB0.size) (Below.refl _ _) (fun _ => rfl)
    (fun pre W => (Held W (w.heap.size + 1) #[.int .u64 (val pre : Int), .int .i64 (pre.length : Int), .int .u8 (lst pre : Int)] 63 ∧ Held W w.heap.size #[.int .u64 0, .int .i64 0, .int .u8 0] 63) ∧ Below w.heap.size w W)
    (fun _ _ _ => False)
    (OwnFrom.and (OwnFrom.and (Own.from (held_own _ _ (fun pre : List UInt8 => #[.int .u64 (val pre : Int), .int .i64 (pre.length : Int), .int .u8 (lst pre : Int)])) _) (Own.from (held_own _ _ (fun _ : List UInt8 => #[.int .u64 0, .int .i64 0, .int .u8 0])) _)) (ownFrom_below (Nat.le_refl _) hB0.size))
    (fun _ _ _ _ _ hs _ _ => hs)
    ⟨⟨hP, hR⟩, hB0⟩
    (fun u => { tmps := #[.slice (some ⟨b, off, none⟩) bs.length cap, .int .i64 p, undef, undef, .pointer (some ⟨w.heap.size, 0, none⟩), .bool false, .pointer (some ⟨w.heap.size + 1, 0, none⟩), .int .u8 (u.toNat : Int), .slice (some ⟨b, off, none⟩) bs.length cap, .int .i64 p, .func (.func 33) #[] #[.pointer (some ⟨w.heap.size + 1 + 1 + 1, 0, none⟩), .pointer (some ⟨w.heap.size + 1 + 1, 0, none⟩)], .int .u8 (u.toNat : Int), undef, undef, undef, undef, undef, undef, undef, undef, undef, undef, undef, undef, undef, undef, undef, undef, undef, undef, undef, undef, undef, undef, undef, undef, undef, undef], defers := [] }) ?assign ?body ?done ?stop
  case assign =>
    intro l u W K hK
    gi_wp2
    exact hK
  case body =>
    rintro l pre u W ⟨⟨hp, hr⟩, hBw⟩ hlt
    have c0 := hp.cell 0
    have c1 := hp.cell 1
    have c2 := hp.cell 2
    have f0 := hp.frozen 0
    have f1 := hp.frozen 1
    have f2 := hp.frozen 2
    simp at c0 c1 c2
    have hu := u.toNat_lt
    have han := andNot_byte u
    have hv := val_lt pre
    have hk : pre.length ≤ 4 := by omega
    have hmx : Try.prog.follows .mixedOrders = true := by kernel_rfl
    have hw1 : IntKind.u64.wrap ((u.toNat : Int) % 128) = (u.toNat : Int) % 128 := by rw [IntKind.wrap_u64]; omega
    have hw2 : IntKind.i64.wrap (7 * (pre.length : Int)) = 7 * (pre.length : Int) := by rw [IntKind.wrap_i64]; omega
    have hw3 : IntKind.i64.wrap ((pre.length : Int) + 1) = (pre.length : Int) + 1 := by rw [IntKind.wrap_i64]; omega
    have hor := shift_or pre u hk
    gi_wp2
    refine RoundRegion.region_round 10 hmx (by kernel_rfl) (by kernel_rfl) ?_
    simp only [List.take_succ_cons, List.take_zero, List.drop_succ_cons, List.drop_zero]
    repeat still_step
    refine wpStill_nil ?_
    gi_wp2
    have hb1 : Below w.heap.size W (((W.setCell ⟨w.heap.size + 1, 0, none⟩ (.int .u64 (val (pre ++ [u]) : Int))).setCell ⟨w.heap.size + 1, 1, none⟩ (.int .i64 ((pre.length : Int) + 1))).setCell ⟨w.heap.size + 1, 2, none⟩ (.int .u8 (u.toNat : Int))).drew :=
      ((((Below.refl _ W).setCell (p := ⟨w.heap.size + 1, 0, none⟩) (by simp) _).setCell (p := ⟨w.heap.size + 1, 1, none⟩) (by simp) _).setCell (p := ⟨w.heap.size + 1, 2, none⟩) (by simp) _).drew
    refine ⟨((((KeepsOthers.setCell _ _ _).trans (KeepsOthers.setCell _ _ _)).trans (KeepsOthers.setCell _ _ _)).trans (KeepsOthers.drew _)).from _, hb1, ⟨?_, ?_⟩, hBw.trans hb1⟩
    · have h3 := ((hp.set 0 (.int .u64 (val (pre ++ [u]) : Int))).set 1 (.int .i64 ((pre.length : Int) + 1))).set 2 (.int .u8 (u.toNat : Int))
      rw [lst_snoc, List.length_append, List.length_singleton]
      exact h3
    · exact ((hr.other (by omega) 0 _).other (by omega) 1 _).other (by omega) 2 _
  case done =>
    rintro D ys W hD rfl ⟨⟨hp, hr⟩, hBw⟩ hK
    have c0 := hp.cell 0
    have c1 := hp.cell 1
    have c2 := hp.cell 2
    simp at c0 c1 c2
    have d0 := hr.cell 0
    have d1 := hr.cell 1
    have d2 := hr.cell 2
    simp at d0 d1 d2
    have g0 := hr.frozen 0
    have g1 := hr.frozen 1
    have g2 := hr.frozen 2
    have hmx : Try.prog.follows .mixedOrders = true := by kernel_rfl
    by_cases h0 : 0 < (come bs p).length
    · have h0' : (0 : Int) < ((come bs p).length : Int) := by omega
      have hfin : Hid (decide (fin (come bs p)) = decide ((lst (come bs p) : Int) < 128)) := by
        show decide (fin (come bs p)) = decide ((lst (come bs p) : Int) < 128)
        simp only [decide_eq_decide]; constructor
        · intro h; have := h.2; omega
        · intro h; exact ⟨h0, by omega⟩
      gi_wp2
      gi_region
      obtain ⟨W', hW'⟩ : ∃ W', (((W.setCell ⟨w.heap.size, 0, none⟩ (.int .u64 (val (come bs p) : Int))).setCell ⟨w.heap.size, 1, none⟩ (.int .i64 ((come bs p).length : Int))).setCell ⟨w.heap.size, 2, none⟩ (.int .u8 (lst (come bs p) : Int))).drew = W' := ⟨_, rfl⟩
      have hK' : W'.heap[D]? = some (.deferred (some [])) := by rw [← hW']; exact ((((KeepsOthers.setCell _ _ _).trans (KeepsOthers.setCell _ _ _)).trans (KeepsOthers.setCell _ _ _)).trans (KeepsOthers.drew _)).same D _ hK rfl
      have hR' : Held W' w.heap.size #[.int .u64 (val (come bs p) : Int), .int .i64 ((come bs p).length : Int), .int .u8 (lst (come bs p) : Int)] 63 := by rw [← hW']; exact ((hr.set 0 _).set 1 _).set 2 _
      have hB' : Below w.heap.size w W' := by
        rw [← hW']
        exact (((hBw.setCell (p := ⟨w.heap.size, 0, none⟩) (Nat.le_refl _) _).setCell (p := ⟨w.heap.size, 1, none⟩) (Nat.le_refl _) _).setCell (p := ⟨w.heap.size, 2, none⟩) (Nat.le_refl _) _).drew
      have hne : some w.heap.size ≠ some D := fun e => by have := Option.some.inj e; omega
      have hR2 := hR'.kept (grownBy_putObj' W' D (.deferred none)) hne
      have q0 := hR2.cell 0
      have q1 := hR2.cell 1
      have q2 := hR2.cell 2
      simp at q0 q1 q2
      rw [hW']
      gi_wp2
      refine ⟨by simp, .inl ⟨_, _, rfl, run_takeDeferred hK', ?_⟩⟩
      refine ⟨.tuple #[.agg #[.int .u64 (val (come bs p) : Int), .int .i64 ((come bs p).length : Int), .int .u8 (lst (come bs p) : Int)], .bool (decide (fin (come bs p)))], ?_, rfl, hB'.trans (belowK_b (w := W0) hB0.size W' D _ _ hD hK' rfl rfl)⟩
      rw [hfin.out]
      simp [results, Try.results30, go_sem, q0, q1, q2]
    · have hn0 : come bs p = [] := List.length_eq_zero_iff.1 (by omega)
      have hv0 : val (come bs p) = 0 := by rw [hn0]; rfl
      have hl0 : lst (come bs p) = 0 := by rw [hn0]; rfl
      have hz0 : (come bs p).length = 0 := by omega
      have hfin : Hid (decide (fin (come bs p)) = false) := by
        show decide (fin (come bs p)) = false
        simp; omega
      rw [hv0] at c0
      rw [hz0] at c1
      rw [hl0] at c2
      rw [hv0, hz0, hl0] at hp
      have hn0' : Hid (come bs p = []) := hn0
      clear hv0 hl0 hz0 hn0 h0
      gi_wp2
      refine wpIn_wide.2 ?_
      go_region
      obtain ⟨W', hW'⟩ : ∃ W', (((W.setCell ⟨w.heap.size, 0, none⟩ (.int .u64 0)).setCell ⟨w.heap.size, 1, none⟩ (.int .i64 0)).setCell ⟨w.heap.size, 2, none⟩ (.int .u8 0)).drew = W' := ⟨_, rfl⟩
      have hK' : W'.heap[D]? = some (.deferred (some [])) := by rw [← hW']; exact ((((KeepsOthers.setCell _ _ _).trans (KeepsOthers.setCell _ _ _)).trans (KeepsOthers.setCell _ _ _)).trans (KeepsOthers.drew _)).same D _ hK rfl
      have hR' : Held W' w.heap.size #[.int .u64 0, .int .i64 0, .int .u8 0] 63 := by rw [← hW']; exact ((hr.set 0 _).set 1 _).set 2 _
      have hB' : Below w.heap.size w W' := by
        rw [← hW']
        exact (((hBw.setCell (p := ⟨w.heap.size, 0, none⟩) (Nat.le_refl _) _).setCell (p := ⟨w.heap.size, 1, none⟩) (Nat.le_refl _) _).setCell (p := ⟨w.heap.size, 2, none⟩) (Nat.le_refl _) _).drew
      have hne : some w.heap.size ≠ some D := fun e => by have := Option.some.inj e; omega
      have hR2 := hR'.kept (grownBy_putObj' W' D (.deferred none)) hne
      have q0 := hR2.cell 0
      have q1 := hR2.cell 1
      have q2 := hR2.cell 2
      simp at q0 q1 q2
      rw [hW']
      gi_wp2
      refine ⟨by simp, .inl ⟨_, _, rfl, run_takeDeferred hK', ?_⟩⟩
      refine ⟨.tuple #[.agg #[.int .u64 0, .int .i64 0, .int .u8 0], .bool false], ?_, by rw [hfin.out, hn0'.out]; rfl, hB'.trans (belowK_b (w := W0) hB0.size W' D _ _ hD hK' rfl rfl)⟩
      simp [results, Try.results30, go_sem, q0, q1, q2]
  case stop =>
    rintro D c pre W _ _ h _
    exact h.elim
end Go.Proofs.Ythjgmjhgpjgdlab.ImplPieces
