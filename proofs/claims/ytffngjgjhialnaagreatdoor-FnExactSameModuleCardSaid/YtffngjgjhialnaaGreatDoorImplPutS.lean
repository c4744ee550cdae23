/-
  What the program's PutS answers when it is called: the bytes, and behind them the number with its sign in pieces, in new memory.
-/
import Derived.Test.YtffngjgjhialnaaGreatDoorImplPut
namespace Go.Proofs.YtffngjgjhialnaaGreatDoor.ImplPutS
open Go.RowKit Go.Shelf PlainNum PlainLeb NumCalls ByteMem PutU ImplPut
attribute [local go_sem] Oper.semAt_some
set_option maxRecDepth 100000 in
set_option maxHeartbeats 1000000 in
theorem sbytes1 (F : Fence) (n : Nat) (hf : F.fn 164) (hro : F.round = none) (hn : 1 ≤ n) (l Bn n₀ : Nat) (x : Int) (hx : -2147483648 ≤ x ∧ x ≤ 2147483647) (J Jx : List UInt8 → World → Prop)
    (hY : ∀ pre u W, J pre W → pre.length < (sleb 5 x).length → YieldAt F (n - 1) Tryz.prog l #[.int .u8 (u.toNat : Int)] W fun e W' =>
      (e = .returned (.bool true) ∧ J (pre ++ [u]) W' ∧ Below n₀ W W') ∨ (e = .returned (.bool false) ∧ Jx (pre ++ [u]) W'))
    (W : World) (hBn : W.cell? ⟨Bn, 0, none⟩ = some (.int .i32 x)) (h0 : J [] W) :
    CallsIn F n Tryz.prog 164 #[.func (.yield l) #[] #[], .pointer (some ⟨Bn, 0, none⟩)] W fun e W' => (∃ v, e = .returned v) ∧
      ((∃ ys, ys = sleb 5 x ∧ J ys W') ∨ (∃ pre, pre <+: sleb 5 x ∧ Jx pre W')) := by
  refine callsIn_of_wp Tryz.func164 rfl hf ?_ hro
  simp only [Tryz.ntmps164, List.size_toArray, List.length_cons, List.length_nil, Nat.reduceAdd, Nat.reduceSub, Array.replicate_succ, Array.replicate_zero, List.push_toArray, List.append_toArray, List.nil_append, List.cons_append]
  gi_wp2
  gi_loopw [3] (fun v wr => ∃ (y : Int) (k : Nat) (pre : List UInt8), v = .int .i32 y ∧ (-lim k ≤ y ∧ y < lim k) ∧ (-2147483648 ≤ y ∧ y ≤ 2147483647) ∧ sleb 5 x = pre ++ sleb (k + 1) y ∧ J pre wr)
    (fun v _ => (intOf v).natAbs)
  case atStart => exact ⟨x, 4, [], rfl, by simp [lim]; omega, hx, rfl, h0⟩
  case round =>
    obtain ⟨y, k, pre, rfl, hk, hy, hsplit, hJs⟩ := hrel
    have hyp := sleb_pos k y
    have hlen : pre.length < (sleb 5 x).length := by rw [hsplit, List.length_append]; omega
    by_cases h64 : -64 ≤ y ∧ y ≤ 63
    · have hsm := sleb_small k h64
      have hb1 : ¬ y < -64 := by omega
      have hb2 : ¬ 64 ≤ y := by omega
      have hu : (((y % 128).toNat.toUInt8.toNat : Nat) : Int) = y % 128 := by rw [toU8 (by omega)]; omega
      have han := andNot_u8 (a := y)
      obtain ⟨fn, tmps, assign, body, hy', hR⟩ := hY pre (y % 128).toNat.toUInt8 wr hJs hlen
      rw [hu] at hy'
      gi_wp2
      refine hR.mono ?_
      rintro e W3 (⟨rfl, hJ3, hk3⟩ | ⟨rfl, hJx3⟩)
      · gi_wp2
        go_end0
        exact ⟨⟨_, rfl⟩, .inl ⟨_, by rw [hsplit, hsm], hJ3⟩⟩
      · gi_wp2
        go_end0
        exact ⟨⟨_, rfl⟩, .inr ⟨_, by rw [hsplit, hsm]; exact List.prefix_refl _, hJx3⟩⟩
    · obtain ⟨k, rfl⟩ : ∃ j, k = j + 1 := by
        cases k with
        | zero => simp [lim] at hk; omega
        | succ j => exact ⟨j, rfl⟩
      have hbg := sleb_big (k + 1) h64
      have hst := lim_step hk
      have hor := or_u8 (a := y)
      have hu : ((((y % 128).toNat + 128).toUInt8.toNat : Nat) : Int) = y % 128 + 128 := by rw [toU8 (by omega)]; omega
      obtain ⟨fn, tmps, assign, body, hy', hR⟩ := hY pre ((y % 128).toNat + 128).toUInt8 wr hJs hlen
      rw [hu] at hy'
      rcases (show y < -64 ∨ (¬ y < -64 ∧ 64 ≤ y) by omega) with hb | ⟨hb, hb2⟩
      · gi_wp2
        refine hR.mono ?_
        rintro e W3 (⟨rfl, hJ3, hk3⟩ | ⟨rfl, hJx3⟩)
        · gi_wp2
          go_roundw
          case rel => exact ⟨y / 128, k, pre ++ [((y % 128).toNat + 128).toUInt8], by go_num, hst, by omega, by rw [hsplit, hbg]; simp, hJ3⟩
          case measure => simp [intOf]; omega
        · gi_wp2
          refine bodyPost_ret (results_none rfl _ _ _) rfl ?_
          exact ⟨⟨_, rfl⟩, .inr ⟨_, ⟨sleb (k + 1) (y / 128), by rw [hsplit, hbg]; simp⟩, hJx3⟩⟩
      · gi_wp2
        refine hR.mono ?_
        rintro e W3 (⟨rfl, hJ3, hk3⟩ | ⟨rfl, hJx3⟩)
        · gi_wp2
          go_roundw
          case rel => exact ⟨y / 128, k, pre ++ [((y % 128).toNat + 128).toUInt8], by go_num, hst, by omega, by rw [hsplit, hbg]; simp, hJ3⟩
          case measure => simp [intOf]; omega
        · gi_wp2
          refine bodyPost_ret (results_none rfl _ _ _) rfl ?_
          exact ⟨⟨_, rfl⟩, .inr ⟨_, ⟨sleb (k + 1) (y / 128), by rw [hsplit, hbg]; simp⟩, hJx3⟩⟩
theorem sbytes_stops (F : Fence) (n : Nat) (hf : F.fn 164) (hro : F.round = none) (hn : 1 ≤ n) (Bn n₀ : Nat) (x : Int) (hx : -2147483648 ≤ x ∧ x ≤ 2147483647) (w : World) (hBn : Bn < w.heap.size)
    (hc : w.cell? ⟨Bn, 0, none⟩ = some (.int .i32 x)) :
    SeqStopsK F n Tryz.prog 164 #[.pointer (some ⟨Bn, 0, none⟩)] (fun u : UInt8 => #[Value.int .u8 (u.toNat : Int)]) (Below n₀) (fun ys => ys = sleb 5 x) (fun pre => pre <+: sleb 5 x) (sleb 5 x).length w := fun l J Jx W hW _ _ hY h0 =>
  sbytes1 F n hf hro hn l Bn n₀ x hx J Jx hY W ((hW.cell (p := ⟨Bn, 0, none⟩) hBn).trans hc) h0
set_option maxHeartbeats 1000000 in
theorem sbytes (F : Fence) (n : Nat) (hf : F.fn 161) (hro : F.round = none) (x : Int) (w : World) :
    CallsIn F n Tryz.prog 161 #[.int .i32 x] w fun e w' => e = .returned (.func (.func 164) #[] #[.pointer (some ⟨w.heap.size, 0, none⟩)]) ∧ w' = w.alloc (.cells #[.int .i32 x] 194) := by
  refine callsIn_of_wp Tryz.func161 rfl hf ?_ hro
  simp only [Tryz.ntmps161, List.size_toArray, List.length_cons, List.length_nil, Nat.reduceAdd, Nat.reduceSub, Array.replicate_succ, Array.replicate_zero, List.push_toArray, List.append_toArray, List.nil_append, List.cons_append]
  gi_wp2
  go_ret
  exact ⟨rfl, rfl⟩
set_option maxRecDepth 100000 in
set_option maxHeartbeats 2000000 in
theorem appendS_in (F : Fence) (n : Nat) (h1 : F.fn 147) (h2 : F.fn 161) (h3 : F.fn 164) (h4 : F.fn 145) (hro : F.round = none) (hn : 3 ≤ n)
    (a : Option Addr) (cap B : Nat) (bs : List UInt8) (m : Int) (w : World) (ho : PutU.Own B w (.slice a bs.length cap) bs) (hB : B ≤ w.heap.size) (hl : bs.length ≤ 67108864) :
    CallsIn F n Tryz.prog 147 #[.slice a bs.length cap, .int .i64 m] w fun e w' => ∃ v, e = .returned v ∧ PutU.Own B w' v (bs ++ sleb 5 (wrap32 m)) ∧ Below B w w' := by
  have hn1 : 1 ≤ n := by omega
  obtain ⟨i0, hi, hz0, hz1, hz2⟩ := info_parts info5
  have hw := wrap32_lo m
  have hlen := sleb_length 5 (wrap32 m)
  refine callsIn_of_wp_marks Tryz.func147 rfl h1 ?_ hro
  simp only [Tryz.ntmps147, List.size_toArray, List.length_cons, List.length_nil, Nat.reduceAdd, Nat.reduceSub, Array.replicate_succ, Array.replicate_zero, List.push_toArray, List.append_toArray, List.nil_append, List.cons_append]
  gi_wp2_with (first | (gi_at_call 145; refine (wordOf_in F (n - 1) h4 hro _ _).mono ?_; rintro e w' ⟨rfl, rfl⟩) | (gi_at_call 161; refine (sbytes F (n - 1) h2 hro _ _).mono ?_; rintro e w' ⟨rfl, rfl⟩))
  have bO := Boxed.new w 31 (.slice a bs.length cap)
  have bN := Boxed.new (w.alloc (.cells #[.slice a bs.length cap] 31)) 194 (.int .i32 (wrap32 m))
  rw [World.size_alloc] at bN
  have hB0 : Below B w ((w.alloc (.cells #[.slice a bs.length cap] 31)).alloc (.cells #[.int .i32 (wrap32 m)] 194)) := ((Below.refl _ w).alloc hB _).alloc (by simp; omega) _
  refine wpIn_rangeFunc_ownG hro hn1 (gf := 164) (lb := #[.pointer (some ⟨w.heap.size + 1, 0, none⟩)]) rfl h3 (enters_of Tryz.func164 (by kernel_rfl) rfl)
    (sbytes_stops F (n - 1) h3 hro (by omega) (w.heap.size + 1) B (wrap32 m) hw _ (by simp) bN.cell) belowK_t (belowK_b (by simp; omega)) (Below.refl _ _) (fun _ => rfl)
    (fun pre W => (∃ v, Boxed W w.heap.size 31 v ∧ W.ownsRow B 5 1 v (bs.length + pre.length) (Lib.byteCells bs ++ Lib.byteCells pre) ∧ True) ∧ Below B w W)
    (fun _ _ _ => False)
    (OwnFrom.and (Own.from (holdsRow_own B w.heap.size 31 5 1 (fun pre : List UInt8 => bs.length + pre.length) (fun pre => Lib.byteCells bs ++ Lib.byteCells pre) (fun _ _ => True)) _) (ownFrom_below hB (by simp; omega)))
    (fun _ _ _ _ _ hs _ _ => hs)
    ⟨⟨_, bO.alloc _, by have := (ho.alloc (.cells #[.slice a bs.length cap] 31)).alloc (.cells #[.int .i32 (wrap32 m)] 194); simpa [Lib.byteCells] using this, trivial⟩, hB0⟩
    (fun u => { tmps := #[.slice a bs.length cap, .int .i64 m, .pointer (some ⟨w.heap.size, 0, none⟩), undef, .slice none 0 0, .int .u8 (u.toNat : Int), .int .i64 m, .int .i32 (wrap32 m), .func (.func 164) #[] #[.pointer (some ⟨w.heap.size + 1, 0, none⟩)], .int .u8 (u.toNat : Int), undef, undef, undef, undef, undef], defers := [] }) ?assign ?body ?done ?stop
  case assign =>
    intro l u W K hK
    gi_wp2
    exact hK
  case body =>
    rintro l pre u W ⟨⟨v, hv, hrow, _⟩, hBw⟩ hlt
    have hc := hv.cell
    have hu := u.toNat_lt
    gi_wp2_with (gi_at_builtin; refine wpListIn_append_own _ rfl _ _ 31 rfl B 5 i0 (.int .u8 0) 1 1 Tryz.underlying31 hi hz0 hz1 hz2 rfl (by decide) _ _ _ rfl (hrow.alloc _) ⟨W.heap.size, 0, none⟩ 1 1 [.int .u8 (u.toNat : Int)] rfl rfl (cell_one_new _ _ _) (by simp [Value.oneCell']) (by unfold maxLen; omega) (by omega) (by have := hBw.size; simp; omega) ?_; intro v' w1 hown' hgrow _; obtain ⟨g', cap', rfl⟩ := ownsRow_succ hown'; obtain ⟨hv1, hv2, hr2, hk2, hb2⟩ := hv.appended (by decide) hrow (Nat.le_trans hB hBw.size) hB hown' hgrow; have hc1 := hv1.cell; have hf1 := hv1.frozen)
    exact ⟨hk2.from _, hb2, ⟨_, hv2, by rw [List.length_append, List.length_singleton, ← Nat.add_assoc, Lib.byteCells_append, ← List.append_assoc]; exact hr2, trivial⟩, hBw.trans hb2⟩
  case done =>
    rintro D ys W hD rfl ⟨⟨v, hv, hrow, _⟩, hBw⟩ hK
    have hc := hv.cell
    gi_wp2
    refine ⟨by simp, .inl ⟨_, _, rfl, run_takeDeferred hK, ?_⟩⟩
    refine ⟨_, results_tmp rfl _ _ _, v, rfl, ?_, hBw.trans (belowK_b (w := w) hB W D _ _ (by simp at hD; omega) hK rfl rfl)⟩
    have := ownsRow_putObj hrow (.deferred none) hK rfl
    unfold PutU.Own
    rw [List.length_append, Lib.byteCells_append]
    exact this
  case stop =>
    rintro D c pre W _ _ h _
    exact h.elim
theorem appendS (a : Option Addr) (cap B : Nat) (bs : List UInt8) (m : Int) (w : World) (ho : PutU.Own B w (.slice a bs.length cap) bs) (hB : B ≤ w.heap.size) (hl : bs.length ≤ 67108864) :
    Calls Tryz.prog 147 #[.slice a bs.length cap, .int .i64 m] w fun e w' => ∃ v, e = .returned v ∧ PutU.Own B w' v (bs ++ sleb 5 (wrap32 m)) ∧ Below B w w' :=
  (callsIn_wide (n := 8)).1 (appendS_in Fence.wide 8 trivial trivial trivial trivial rfl (by omega) a cap B bs m w ho hB hl)
end Go.Proofs.YtffngjgjhialnaaGreatDoor.ImplPutS
