/-
  What the program's PutU answers when it is called: the bytes, and behind them the number in pieces, in new memory.
-/
import Derived.Test.YtffngjgjhialnaaGreatDoorPutU
import Derived.Test.YtffngjgjhialnaaGreatDoorPlainLeb
import Derived.RangeFuncNested
import Derived.RangeFuncBound
import Derived.RangeFuncCalls
import Derived.RangeFuncLeaves
import Derived.RangeFuncBox
import Derived.Shelf.Abstract
import Derived.Shelf.RegionOpen
import Derived.WalkKit
import Derived.OwnWalkIn
import Derived.TacticsInMore
import Derived.LoopNIn
import Derived.LoopIn
import Derived.Maps.AppendAt
namespace Go.Proofs.YtffngjgjhialnaaGreatDoor.ImplPut
open Go.RowKit Go.Shelf PlainNum PlainLeb NumCalls ByteMem PutU
attribute [local go_sem] Oper.semAt_some

set_option maxRecDepth 100000 in
set_option maxHeartbeats 1000000 in
theorem ubytes1 (F : Fence) (n : Nat) (hf : F.fn 160) (hro : F.round = none) (hn : 1 ≤ n) (l Bn n₀ x : Nat) (hx : x < 4294967296) (J Jx : List UInt8 → World → Prop)
    (hY : ∀ pre u W, J pre W → pre.length < (Lib.uvarint x).length → YieldAt F (n - 1) Tryz.prog l #[.int .u8 (u.toNat : Int)] W fun e W' =>
      (e = .returned (.bool true) ∧ J (pre ++ [u]) W' ∧ Below n₀ W W') ∨ (e = .returned (.bool false) ∧ Jx (pre ++ [u]) W'))
    (W : World) (hBn : W.cell? ⟨Bn, 0, none⟩ = some (.int .u32 (x : Int))) (h0 : J [] W) :
    CallsIn F n Tryz.prog 160 #[.func (.yield l) #[] #[], .pointer (some ⟨Bn, 0, none⟩)] W fun e W' => (∃ v, e = .returned v) ∧
      ((∃ ys, ys = Lib.uvarint x ∧ J ys W') ∨ (∃ pre, pre <+: Lib.uvarint x ∧ Jx pre W')) := by
  refine callsIn_of_wp Tryz.func160 rfl hf ?_ hro
  simp only [Tryz.ntmps160, List.size_toArray, List.length_cons, List.length_nil, Nat.reduceAdd, Nat.reduceSub, Array.replicate_succ, Array.replicate_zero, List.push_toArray, List.append_toArray, List.nil_append, List.cons_append]
  gi_wp2
  gi_loopw [3] (fun v wr => ∃ (y : Nat) (pre : List UInt8), v = .int .u32 (y : Int) ∧ y ≤ x ∧ Lib.uvarint x = pre ++ Lib.uvarint y ∧ J pre wr)
    (fun v _ => (intOf v).toNat)
  case atStart => exact ⟨x, [], rfl, Nat.le_refl _, rfl, h0⟩
  case round =>
    obtain ⟨y, pre, rfl, hy, hsplit, hJs⟩ := hrel
    have hyp := Lib.uvarint_pos y
    have hlen : pre.length < (Lib.uvarint x).length := by rw [hsplit, List.length_append]; omega
    by_cases h128 : 128 ≤ y
    · have hb : (128 : Int) ≤ (y : Int) := by omega
      have hor := or_u8 (a := (y : Int))
      have hu : (((y % 128 + 128).toUInt8.toNat : Nat) : Int) = (y : Int) % 128 + 128 := by rw [toU8 (by omega)]; omega
      obtain ⟨fn, tmps, assign, body, hy', hR⟩ := hY pre (y % 128 + 128).toUInt8 wr hJs hlen
      rw [hu] at hy'
      gi_wp2
      refine hR.mono ?_
      rintro e W3 (⟨rfl, hJ3, hk3⟩ | ⟨rfl, hJx3⟩)
      · gi_wp2
        go_roundw
        case rel => exact ⟨y / 128, pre ++ [(y % 128 + 128).toUInt8], by go_num, by omega, by rw [hsplit, Lib.uvarint_big h128]; simp, hJ3⟩
        case measure => simp [intOf]; omega
      · gi_wp2
        refine bodyPost_ret (results_none rfl _ _ _) rfl ?_
        exact ⟨⟨_, rfl⟩, .inr ⟨_, ⟨Lib.uvarint (y / 128), by rw [hsplit, Lib.uvarint_big h128]; simp⟩, hJx3⟩⟩
    · have hsm : Lib.uvarint y = [y.toUInt8] := Lib.uvarint_small (by omega)
      have hb : ¬ (128 : Int) ≤ (y : Int) := by omega
      have hu := toU8 (y := y) (by omega)
      obtain ⟨fn, tmps, assign, body, hy', hR⟩ := hY pre y.toUInt8 wr hJs hlen
      rw [hu] at hy'
      gi_wp2
      refine hR.mono ?_
      rintro e W3 (⟨rfl, hJ3, hk3⟩ | ⟨rfl, hJx3⟩)
      · gi_wp2
        go_end0
        exact ⟨⟨_, rfl⟩, .inl ⟨_, by rw [hsplit, hsm], hJ3⟩⟩
      · gi_wp2
        go_end0
        exact ⟨⟨_, rfl⟩, .inr ⟨_, by rw [hsplit, hsm]; exact List.prefix_refl _, hJx3⟩⟩
theorem ubytes_stops (F : Fence) (n : Nat) (hf : F.fn 160) (hro : F.round = none) (hn : 1 ≤ n) (Bn n₀ x : Nat) (hx : x < 4294967296) (w : World) (hBn : Bn < w.heap.size)
    (hc : w.cell? ⟨Bn, 0, none⟩ = some (.int .u32 (x : Int))) :
    SeqStopsK F n Tryz.prog 160 #[.pointer (some ⟨Bn, 0, none⟩)] (fun u : UInt8 => #[Value.int .u8 (u.toNat : Int)]) (Below n₀) (fun ys => ys = Lib.uvarint x) (fun pre => pre <+: Lib.uvarint x) (Lib.uvarint x).length w := fun l J Jx W hW _ _ hY h0 =>
  ubytes1 F n hf hro hn l Bn n₀ x hx J Jx hY W ((hW.cell (p := ⟨Bn, 0, none⟩) hBn).trans hc) h0
set_option maxHeartbeats 1000000 in
theorem ubytes (F : Fence) (n : Nat) (hf : F.fn 144) (hro : F.round = none) (x : Int) (w : World) :
    CallsIn F n Tryz.prog 144 #[.int .u32 x] w fun e w' => e = .returned (.func (.func 160) #[] #[.pointer (some ⟨w.heap.size, 0, none⟩)]) ∧ w' = w.alloc (.cells #[.int .u32 x] 193) := by
  refine callsIn_of_wp Tryz.func144 rfl hf ?_ hro
  simp only [Tryz.ntmps144, List.size_toArray, List.length_cons, List.length_nil, Nat.reduceAdd, Nat.reduceSub, Array.replicate_succ, Array.replicate_zero, List.push_toArray, List.append_toArray, List.nil_append, List.cons_append]
  gi_wp2
  go_ret
  exact ⟨rfl, rfl⟩
set_option maxHeartbeats 1000000 in
theorem wordOf_in (F : Fence) (n : Nat) (hf : F.fn 145) (hro : F.round = none) (x : Int) (w : World) :
    CallsIn F n Tryz.prog 145 #[.int .i64 x] w fun e w' => e = .returned (.int .i32 (wrap32 x)) ∧ w' = w := by
  refine callsIn_of_wp Tryz.func145 rfl hf ?_ hro
  simp only [Tryz.ntmps145, List.size_toArray, List.length_cons, List.length_nil, Nat.reduceAdd, Nat.reduceSub, Array.replicate_succ, Array.replicate_zero, List.push_toArray, List.append_toArray, List.nil_append, List.cons_append]
  gi_wp2
  go_ret
  exact ⟨rfl, rfl⟩
set_option maxHeartbeats 1000000 in
theorem plain_in (F : Fence) (n : Nat) (hf : F.fn 146) (hro : F.round = none) (x : Int) (w : World) :
    CallsIn F n Tryz.prog 146 #[.int .i32 x] w fun e w' => e = .returned (.int .u32 (IntKind.u32.wrap x)) ∧ w' = w := by
  have hx := IntKind.wrap_u32 x
  refine callsIn_of_wp Tryz.func146 rfl hf ?_ hro
  simp only [Tryz.ntmps146, List.size_toArray, List.length_cons, List.length_nil, Nat.reduceAdd, Nat.reduceSub, Array.replicate_succ, Array.replicate_zero, List.push_toArray, List.append_toArray, List.nil_append, List.cons_append]
  gi_wp2
  go_ret
  exact ⟨by rw [hx]; rfl, rfl⟩
theorem own_form {B : Nat} {w : World} {v : Value} {bs : List UInt8} (h : PutU.Own B w v bs) : ∃ a cap, v = .slice a bs.length cap := by
  rcases h.2 with ⟨hv, h0⟩ | ⟨g, cap, cur, hv, _⟩
  · exact ⟨none, 0, by rw [hv, h0]⟩
  · exact ⟨_, _, hv⟩
theorem own_snoc {B : Nat} {w : World} {v : Value} {bs : List UInt8} {u : UInt8} {vs : List Value} {k : Nat} (h : w.ownsRow B 5 1 v k vs) (hk : k = bs.length + 1) (hv : vs = Lib.byteCells bs ++ [.int .u8 (u.toNat : Int)]) : PutU.Own B w v (bs ++ [u]) := by
  subst hk hv
  unfold PutU.Own
  rw [List.length_append, List.length_singleton, Lib.byteCells_append]
  exact h
set_option maxRecDepth 100000 in
set_option maxHeartbeats 2000000 in
theorem appendU_in (F : Fence) (n : Nat) (h1 : F.fn 130) (h2 : F.fn 144) (h3 : F.fn 160) (h4 : F.fn 145) (h5 : F.fn 146) (hro : F.round = none) (hn : 3 ≤ n)
    (a : Option Addr) (cap B : Nat) (bs : List UInt8) (m : Int) (w : World) (ho : PutU.Own B w (.slice a bs.length cap) bs) (hB : B ≤ w.heap.size) (hl : bs.length ≤ 67108864) :
    CallsIn F n Tryz.prog 130 #[.slice a bs.length cap, .int .i64 m] w fun e w' => ∃ v, e = .returned v ∧ PutU.Own B w' v (bs ++ Lib.uvarint (m % 4294967296).toNat) ∧ Below B w w' := by
  have hn1 : 1 ≤ n := by omega
  obtain ⟨i0, hi, hz0, hz1, hz2⟩ := info_parts info5
  have hx : (m % 4294967296).toNat < 4294967296 := by omega
  have hxe : IntKind.u32.wrap (wrap32 m) = (((m % 4294967296).toNat : Nat) : Int) := by rw [IntKind.wrap_u32, plain_wrap]; omega
  have hw := wrap32_lo m
  generalize (m % 4294967296).toNat = x at *
  have hlen := Lib.uvarint_length64 (x := x) (by omega)
  refine callsIn_of_wp_marks Tryz.func130 rfl h1 ?_ hro
  simp only [Tryz.ntmps130, List.size_toArray, List.length_cons, List.length_nil, Nat.reduceAdd, Nat.reduceSub, Array.replicate_succ, Array.replicate_zero, List.push_toArray, List.append_toArray, List.nil_append, List.cons_append]
  gi_wp2_with (first | (gi_at_call 145; refine (wordOf_in F (n - 1) h4 hro _ _).mono ?_; rintro e w' ⟨rfl, rfl⟩) | (gi_at_call 146; refine (plain_in F (n - 1) h5 hro _ _).mono ?_; rw [hxe]; rintro e w' ⟨rfl, rfl⟩) | (gi_at_call 144; refine (ubytes F (n - 1) h2 hro _ _).mono ?_; rintro e w' ⟨rfl, rfl⟩))
  have bO := Boxed.new w 31 (.slice a bs.length cap)
  have bN := Boxed.new (w.alloc (.cells #[.slice a bs.length cap] 31)) 193 (.int .u32 (x : Int))
  rw [World.size_alloc] at bN
  have hB0 : Below B w ((w.alloc (.cells #[.slice a bs.length cap] 31)).alloc (.cells #[.int .u32 (x : Int)] 193)) := ((Below.refl _ w).alloc hB _).alloc (by simp; omega) _
  refine wpIn_rangeFunc_ownG hro hn1 (gf := 160) (lb := #[.pointer (some ⟨w.heap.size + 1, 0, none⟩)]) rfl h3 (enters_of Tryz.func160 (by kernel_rfl) rfl)
    (ubytes_stops F (n - 1) h3 hro (by omega) (w.heap.size + 1) B x hx _ (by simp) bN.cell) belowK_t (belowK_b (by simp; omega)) (Below.refl _ _) (fun _ => rfl)
    (fun pre W => (∃ v, Boxed W w.heap.size 31 v ∧ W.ownsRow B 5 1 v (bs.length + pre.length) (Lib.byteCells bs ++ Lib.byteCells pre) ∧ True) ∧ Below B w W)
    (fun _ _ _ => False)
    (OwnFrom.and (Own.from (holdsRow_own B w.heap.size 31 5 1 (fun pre : List UInt8 => bs.length + pre.length) (fun pre => Lib.byteCells bs ++ Lib.byteCells pre) (fun _ _ => True)) _) (ownFrom_below hB (by simp; omega)))
    (fun _ _ _ _ _ hs _ _ => hs)
    ⟨⟨_, bO.alloc _, by have := (ho.alloc (.cells #[.slice a bs.length cap] 31)).alloc (.cells #[.int .u32 (x : Int)] 193); simpa [Lib.byteCells] using this, trivial⟩, hB0⟩
    (fun u => { tmps := #[.slice a bs.length cap, .int .i64 m, .pointer (some ⟨w.heap.size, 0, none⟩), undef, .slice none 0 0, .int .u8 (u.toNat : Int), .int .i64 m, .int .i32 (wrap32 m), .int .u32 (x : Int), .func (.func 160) #[] #[.pointer (some ⟨w.heap.size + 1, 0, none⟩)], .int .u8 (u.toNat : Int), undef, undef, undef, undef, undef], defers := [] }) ?assign ?body ?done ?stop
  case assign =>
    intro l u W K hK
    gi_wp2
    exact hK
  case body =>
    rintro l pre u W ⟨⟨v, hv, hrow, _⟩, hBw⟩ hlt
    have hc := hv.cell
    have hu := u.toNat_lt
    gi_wp2_with (gi_at_builtin; refine wpListIn_append_own _ rfl _ _ 31 rfl B 5 i0 (.int .u8 0) 1 1 Tryz.underlying31 hi hz0 hz1 hz2 rfl (by decide) _ _ _ rfl (hrow.alloc _) ⟨W.heap.size, 0, none⟩ 1 1 [.int .u8 (u.toNat : Int)] rfl rfl (cell_one_new _ _ _) (by simp [Value.oneCell']) (by unfold maxLen; omega) (by omega) (by have := hBw.size; simp; omega) ?_; intro v' w1 hown' hgrow _; obtain ⟨g', cap', rfl⟩ := ownsRow_succ hown'; obtain ⟨hv1, hv2, hr2, hk2, hb2⟩ := hv.appended (by decide) hrow (Nat.le_trans hB hBw.size) hB hown' hgrow; have hc1 := hv1.cell; have hf1 := hv1.frozen)
    exact ⟨hk2.from _, hb2, ⟨_, hv2, by rw [List.length_append, List.length_singleton, ← Nat.add_assoc, Lib.byteCells_append, ← List.append_assoc]; exact hr2, trivial⟩, hBw.trans hb2⟩
  case done =>
    rintro D ys W hD rfl ⟨⟨v, hv, hrow, _⟩, hBw⟩ hK
    have hc := hv.cell
    gi_wp2
    refine ⟨by simp, .inl ⟨_, _, rfl, run_takeDeferred hK, ?_⟩⟩
    refine ⟨_, results_tmp rfl _ _ _, v, rfl, ?_, hBw.trans (belowK_b (w := w) hB W D _ _ (by simp at hD; omega) hK rfl rfl)⟩
    have := ownsRow_putObj hrow (.deferred none) hK rfl
    unfold PutU.Own
    rw [List.length_append, Lib.byteCells_append]
    exact this
  case stop =>
    rintro D c pre W _ _ h _
    exact h.elim
theorem appendU (a : Option Addr) (cap B : Nat) (bs : List UInt8) (m : Int) (w : World) (ho : PutU.Own B w (.slice a bs.length cap) bs) (hB : B ≤ w.heap.size) (hl : bs.length ≤ 67108864) :
    Calls Tryz.prog 130 #[.slice a bs.length cap, .int .i64 m] w fun e w' => ∃ v, e = .returned v ∧ PutU.Own B w' v (bs ++ Lib.uvarint (m % 4294967296).toNat) ∧ Below B w w' :=
  (callsIn_wide (n := 8)).1 (appendU_in Fence.wide 8 trivial trivial trivial trivial trivial rfl (by omega) a cap B bs m w ho hB hl)
end Go.Proofs.YtffngjgjhialnaaGreatDoor.ImplPut
