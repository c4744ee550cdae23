/-
  Bytes of one's own that are appended to, again and again: they lie in the old row or in a new one, and nothing else has changed.
-/
import Derived.Test.YtffngjgjhialnaaGreatDoorImplPut
import Derived.Test.YtffngjgjhialnaaGreatDoorImplPutS
import Derived.Maps.OwnIn
namespace Go.Proofs.YtffngjgjhialnaaGreatDoor.ImplApp
open Go.RowKit Go.Shelf PlainNum PlainLeb NumCalls ByteMem PutU ImplPut ImplPutS
attribute [local go_sem] Oper.semAt_some

/-- The row of v is row r, or a newer one than the first n. -/
abbrev Lies (n : Nat) (r : Option Nat) (v : Value) : Prop := v.ownBlock = r ∨ ∀ g, v.ownBlock = some g → n ≤ g
/-- What was v is now v': in the same row or in a new one; all else lies as it lay. -/
structure App (w w' : World) (v v' : Value) : Prop where
  grow : w.grownBy w' v.ownBlock
  lies : Lies w.heap.size v.ownBlock v'
theorem App.refl (w : World) (v : Value) : App w w v v := ⟨⟨rfl, rfl, rfl, Nat.le_refl _, fun _ _ _ => rfl⟩, .inl rfl⟩
theorem App.trans {w w' w'' : World} {v v' v'' : Value} (h : App w w' v v') (k : App w' w'' v' v'') : App w w'' v v'' := by
  refine ⟨⟨k.grow.os.trans h.grow.os, k.grow.tape.trans h.grow.tape, k.grow.output.trans h.grow.output, Nat.le_trans h.grow.size k.grow.size, fun i hi hne => ?_⟩, ?_⟩
  · refine (k.grow.block i (Nat.lt_of_lt_of_le hi h.grow.size) fun e => ?_).trans (h.grow.block i hi hne)
    rcases h.lies with a | a
    · exact hne (e.trans a)
    · have := a i e.symm; omega
  · rcases k.lies with a | a
    · rcases h.lies with b | b
      · exact .inl (a.trans b)
      · exact .inr fun g hg => b g (a.symm.trans hg)
    · exact .inr fun g hg => Nat.le_trans h.grow.size (a g hg)
theorem App.alloc (w : World) (v : Value) (o : Obj) : App w (w.alloc o) v v := ⟨World.grownBy_alloc w o _, .inl rfl⟩
theorem App.drew {w w' : World} {v v' : Value} (h : App w w' v v') : App w w'.drew v v' := ⟨⟨h.grow.os, h.grow.tape, h.grow.output, h.grow.size, h.grow.block⟩, h.lies⟩
theorem App.below {B : Nat} {w w' : World} {v v' : Value} {bs : List UInt8} (h : App w w' v v') (ho : PutU.Own B w v bs) (hB : B ≤ w.heap.size) : Below B w w' :=
  (Below.refl B w).grown h.grow hB (fun k hk => (World.ownsRow.lt ho k hk).1)
theorem ownFrom_grown {β : Type} {w : World} {r : Option Nat} {B : Nat} (hB : w.heap.size ≤ B) : OwnFrom B (fun (_ : β) W => w.grownBy W r) := fun _ _ _ _ h hg hr =>
  ⟨hg.os.trans h.os, hg.tape.trans h.tape, hg.output.trans h.output, Nat.le_trans h.size hg.size, fun k hk hne => (hg.block k (Nat.lt_of_lt_of_le hk h.size) (fun e => by have := (hr k e.symm).1; omega)).trans (h.block k hk hne)⟩
theorem grown_round {w W w1 : World} {r : Option Nat} {v v' : Value} {tmp : Obj} (hG : w.grownBy W r) (hv : Lies w.heap.size r v) (hgrow : (W.alloc tmp).grownBy w1 v.ownBlock) : w.grownBy (w1.setCell ⟨w.heap.size, 0, none⟩ v') r := by
  have h1 := World.grownBy_alloc W tmp none
  refine ⟨hgrow.os.trans hG.os, hgrow.tape.trans hG.tape, hgrow.output.trans hG.output, ?_, fun k hk hne => ?_⟩
  · rw [World.size_setCell]; exact Nat.le_trans hG.size (Nat.le_trans h1.size hgrow.size)
  · have hs := hG.size
    rw [Below.heap_setCell _ _ _ _ (by show k ≠ w.heap.size; omega), hgrow.block k (by simp; omega) ?_, h1.block k (by omega) (by simp), hG.block k hk hne]
    intro e
    rcases hv with a | a
    · exact hne (e.trans a)
    · have := a k e.symm; omega
theorem lies_round {w W : World} {r : Option Nat} {v v' : Value} {tmp : Obj} (hG : w.grownBy W r) (hv : Lies w.heap.size r v) (hat : v'.ownBlock = v.ownBlock ∨ v'.ownBlock = some (W.alloc tmp).heap.size) : Lies w.heap.size r v' := by
  rcases hat with a | a
  · unfold Lies; rw [a]; exact hv
  · refine .inr fun g hg => ?_
    rw [a] at hg
    have := hG.size
    simp at hg
    omega
theorem grown_end {w W : World} {r : Option Nat} {D : Nat} {o : Obj} (hG : w.grownBy W r) (hD : w.heap.size ≤ D) : w.grownBy (W.putObj D o) r := by
  have h1 := grownBy_putObj' W D o
  exact ⟨h1.os.trans hG.os, h1.tape.trans hG.tape, h1.output.trans hG.output, Nat.le_trans hG.size h1.size, fun k hk hne => (h1.block k (Nat.lt_of_lt_of_le hk hG.size) (fun e => by injection e; omega)).trans (hG.block k hk hne)⟩
set_option maxRecDepth 100000 in
set_option maxHeartbeats 2000000 in
theorem appendU_at (F : Fence) (n : Nat) (h1 : F.fn 130) (h2 : F.fn 144) (h3 : F.fn 160) (h4 : F.fn 145) (h5 : F.fn 146) (hro : F.round = none) (hn : 3 ≤ n)
    (a : Option Addr) (cap B : Nat) (bs : List UInt8) (m : Int) (w : World) (ho : PutU.Own B w (.slice a bs.length cap) bs) (hB : B ≤ w.heap.size) (hl : bs.length ≤ 67108864) :
    CallsIn F n Tryz.prog 130 #[.slice a bs.length cap, .int .i64 m] w fun e w' => ∃ v, e = .returned v ∧ PutU.Own B w' v (bs ++ Lib.uvarint (m % 4294967296).toNat) ∧ App w w' (.slice a bs.length cap) v := by
  have hn1 : 1 ≤ n := by omega
  obtain ⟨i0, hi, hz0, hz1, hz2⟩ := info_parts info5
  have hx : (m % 4294967296).toNat < 4294967296 := by omega
  have hxe : IntKind.u32.wrap (wrap32 m) = (((m % 4294967296).toNat : Nat) : Int) := by rw [IntKind.wrap_u32, plain_wrap]; omega
  have hw := wrap32_lo m
  generalize (m % 4294967296).toNat = x at *
  have hlen := Lib.uvarint_length64 (x := x) (by omega)
  refine callsIn_of_wp_marks Tryz.func130 rfl h1 ?_ hro
  simp only [Tryz.ntmps130, List.size_toArray, List.length_cons, List.length_nil, Nat.reduceAdd, Nat.reduceSub, Array.replicate_succ, Array.replicate_zero, List.push_toArray, List.append_toArray, List.nil_append, List.cons_append]
  gi_wp2_with (first | (gi_at_call 145; refine (wordOf_in F (n - 1) h4 hro _ _).mono ?_; rintro e w' ⟨rfl, rfl⟩) | (gi_at_call 146; refine (plain_in F (n - 1) h5 hro _ _).mono ?_; rw [hxe]; rintro e w' ⟨rfl, rfl⟩) | (gi_at_call 144; refine (ubytes F (n - 1) h2 hro _ _).mono ?_; rintro e w' ⟨rfl, rfl⟩))
  have bO := Boxed.new w 31 (.slice a bs.length cap)
  have bN := Boxed.new (w.alloc (.cells #[.slice a bs.length cap] 31)) 193 (.int .u32 (x : Int))
  rw [World.size_alloc] at bN
  have hG0 : w.grownBy ((w.alloc (.cells #[.slice a bs.length cap] 31)).alloc (.cells #[.int .u32 (x : Int)] 193)) (Value.slice a bs.length cap).ownBlock := (World.grownBy_alloc w _ _).trans (World.grownBy_alloc _ _ _)
  refine wpIn_rangeFunc_ownG hro hn1 (gf := 160) (lb := #[.pointer (some ⟨w.heap.size + 1, 0, none⟩)]) rfl h3 (enters_of Tryz.func160 (by kernel_rfl) rfl)
    (ubytes_stops F (n - 1) h3 hro (by omega) (w.heap.size + 1) B x hx _ (by simp) bN.cell) belowK_t (belowK_b (by simp; omega)) (Below.refl _ _) (fun _ => rfl)
    (fun pre W => (∃ v, Boxed W w.heap.size 31 v ∧ W.ownsRow B 5 1 v (bs.length + pre.length) (Lib.byteCells bs ++ Lib.byteCells pre) ∧ Lies w.heap.size (Value.slice a bs.length cap).ownBlock v) ∧ w.grownBy W (Value.slice a bs.length cap).ownBlock)
    (fun _ _ _ => False)
    (OwnFrom.and (Own.from (holdsRow_own B w.heap.size 31 5 1 (fun pre : List UInt8 => bs.length + pre.length) (fun pre => Lib.byteCells bs ++ Lib.byteCells pre) (fun _ v => Lies w.heap.size (Value.slice a bs.length cap).ownBlock v)) _) (ownFrom_grown (by simp; omega)))
    (fun _ _ _ _ _ hs _ _ => hs)
    ⟨⟨_, bO.alloc _, by have := (ho.alloc (.cells #[.slice a bs.length cap] 31)).alloc (.cells #[.int .u32 (x : Int)] 193); simpa [Lib.byteCells] using this, .inl rfl⟩, hG0⟩
    (fun u => { tmps := #[.slice a bs.length cap, .int .i64 m, .pointer (some ⟨w.heap.size, 0, none⟩), undef, .slice none 0 0, .int .u8 (u.toNat : Int), .int .i64 m, .int .i32 (wrap32 m), .int .u32 (x : Int), .func (.func 160) #[] #[.pointer (some ⟨w.heap.size + 1, 0, none⟩)], .int .u8 (u.toNat : Int), undef, undef, undef, undef, undef], defers := [] }) ?assign ?body ?done ?stop
  case assign =>
    intro l u W K hK
    gi_wp2
    exact hK
  case body =>
    rintro l pre u W ⟨⟨v, hv, hrow, hat0⟩, hBw⟩ hlt
    have hlies : Hid (Lies w.heap.size (Value.slice a bs.length cap).ownBlock v) := hat0
    have hBw' : Hid (w.grownBy W (Value.slice a bs.length cap).ownBlock) := hBw
    have hsz := hBw.size
    clear hat0 hBw
    have hc := hv.cell
    have hu := u.toNat_lt
    gi_wp2_with (gi_at_builtin; refine wpListIn_append_own_at _ rfl _ _ 31 rfl B 5 i0 (.int .u8 0) 1 1 Tryz.underlying31 hi hz0 hz1 hz2 rfl (by decide) _ _ _ rfl (hrow.alloc _) ⟨W.heap.size, 0, none⟩ 1 1 [.int .u8 (u.toNat : Int)] rfl rfl (cell_one_new _ _ _) (by simp [Value.oneCell']) (by unfold maxLen; omega) (by omega) (by simp; omega) ?_; intro v' w1 hown' hgrow _ hat; obtain ⟨g', cap', rfl⟩ := ownsRow_succ hown'; obtain ⟨hv1, hv2, hr2, hk2, hb2⟩ := hv.appended (by decide) hrow (Nat.le_trans hB hsz) hB hown' hgrow; have hc1 := hv1.cell; have hf1 := hv1.frozen)
    exact ⟨hk2.from _, hb2, ⟨_, hv2, by rw [List.length_append, List.length_singleton, ← Nat.add_assoc, Lib.byteCells_append, ← List.append_assoc]; exact hr2, lies_round hBw'.out hlies.out hat⟩, grown_round hBw'.out hlies.out hgrow⟩
  case done =>
    rintro D ys W hD rfl ⟨⟨v, hv, hrow, hat0⟩, hBw⟩ hK
    have hlies : Hid (Lies w.heap.size (Value.slice a bs.length cap).ownBlock v) := hat0
    have hBw' : Hid (w.grownBy W (Value.slice a bs.length cap).ownBlock) := hBw
    clear hat0 hBw
    have hc := hv.cell
    gi_wp2
    refine ⟨by simp, .inl ⟨_, _, rfl, run_takeDeferred hK, ?_⟩⟩
    refine ⟨_, results_tmp rfl _ _ _, v, rfl, ?_, ⟨grown_end hBw'.out (by simp at hD; omega), hlies.out⟩⟩
    have := ownsRow_putObj hrow (.deferred none) hK rfl
    unfold PutU.Own
    rw [List.length_append, Lib.byteCells_append]
    exact this
  case stop =>
    rintro D c pre W _ _ h _
    exact h.elim
theorem appendU (a : Option Addr) (cap B : Nat) (bs : List UInt8) (m : Int) (w : World) (ho : PutU.Own B w (.slice a bs.length cap) bs) (hB : B ≤ w.heap.size) (hl : bs.length ≤ 67108864) :
    Calls Tryz.prog 130 #[.slice a bs.length cap, .int .i64 m] w fun e w' => ∃ v, e = .returned v ∧ PutU.Own B w' v (bs ++ Lib.uvarint (m % 4294967296).toNat) ∧ App w w' (.slice a bs.length cap) v :=
  (callsIn_wide (n := 8)).1 (appendU_at Fence.wide 8 trivial trivial trivial trivial trivial rfl (by omega) a cap B bs m w ho hB hl)
set_option maxRecDepth 100000 in
set_option maxHeartbeats 2000000 in
theorem appendS_at (F : Fence) (n : Nat) (h1 : F.fn 147) (h2 : F.fn 161) (h3 : F.fn 164) (h4 : F.fn 145) (hro : F.round = none) (hn : 3 ≤ n)
    (a : Option Addr) (cap B : Nat) (bs : List UInt8) (m : Int) (w : World) (ho : PutU.Own B w (.slice a bs.length cap) bs) (hB : B ≤ w.heap.size) (hl : bs.length ≤ 67108864) :
    CallsIn F n Tryz.prog 147 #[.slice a bs.length cap, .int .i64 m] w fun e w' => ∃ v, e = .returned v ∧ PutU.Own B w' v (bs ++ sleb 5 (wrap32 m)) ∧ App w w' (.slice a bs.length cap) v := by
  have hn1 : 1 ≤ n := by omega
  obtain ⟨i0, hi, hz0, hz1, hz2⟩ := info_parts info5
  have hw := wrap32_lo m
  have hlen := sleb_length 5 (wrap32 m)
  refine callsIn_of_wp_marks Tryz.func147 rfl h1 ?_ hro
  simp only [Tryz.ntmps147, List.size_toArray, List.length_cons, List.length_nil, Nat.reduceAdd, Nat.reduceSub, Array.replicate_succ, Array.replicate_zero, List.push_toArray, List.append_toArray, List.nil_append, List.cons_append]
  gi_wp2_with (first | (gi_at_call 145; refine (wordOf_in F (n - 1) h4 hro _ _).mono ?_; rintro e w' ⟨rfl, rfl⟩) | (gi_at_call 161; refine (sbytes F (n - 1) h2 hro _ _).mono ?_; rintro e w' ⟨rfl, rfl⟩))
  have bO := Boxed.new w 31 (.slice a bs.length cap)
  have bN := Boxed.new (w.alloc (.cells #[.slice a bs.length cap] 31)) 194 (.int .i32 (wrap32 m))
  rw [World.size_alloc] at bN
  have hG0 : w.grownBy ((w.alloc (.cells #[.slice a bs.length cap] 31)).alloc (.cells #[.int .i32 (wrap32 m)] 194)) (Value.slice a bs.length cap).ownBlock := (World.grownBy_alloc w _ _).trans (World.grownBy_alloc _ _ _)
  refine wpIn_rangeFunc_ownG hro hn1 (gf := 164) (lb := #[.pointer (some ⟨w.heap.size + 1, 0, none⟩)]) rfl h3 (enters_of Tryz.func164 (by kernel_rfl) rfl)
    (sbytes_stops F (n - 1) h3 hro (by omega) (w.heap.size + 1) B (wrap32 m) hw _ (by simp) bN.cell) belowK_t (belowK_b (by simp; omega)) (Below.refl _ _) (fun _ => rfl)
    (fun pre W => (∃ v, Boxed W w.heap.size 31 v ∧ W.ownsRow B 5 1 v (bs.length + pre.length) (Lib.byteCells bs ++ Lib.byteCells pre) ∧ Lies w.heap.size (Value.slice a bs.length cap).ownBlock v) ∧ w.grownBy W (Value.slice a bs.length cap).ownBlock)
    (fun _ _ _ => False)
    (OwnFrom.and (Own.from (holdsRow_own B w.heap.size 31 5 1 (fun pre : List UInt8 => bs.length + pre.length) (fun pre => Lib.byteCells bs ++ Lib.byteCells pre) (fun _ v => Lies w.heap.size (Value.slice a bs.length cap).ownBlock v)) _) (ownFrom_grown (by simp; omega)))
    (fun _ _ _ _ _ hs _ _ => hs)
    ⟨⟨_, bO.alloc _, by have := (ho.alloc (.cells #[.slice a bs.length cap] 31)).alloc (.cells #[.int .i32 (wrap32 m)] 194); simpa [Lib.byteCells] using this, .inl rfl⟩, hG0⟩
    (fun u => { tmps := #[.slice a bs.length cap, .int .i64 m, .pointer (some ⟨w.heap.size, 0, none⟩), undef, .slice none 0 0, .int .u8 (u.toNat : Int), .int .i64 m, .int .i32 (wrap32 m), .func (.func 164) #[] #[.pointer (some ⟨w.heap.size + 1, 0, none⟩)], .int .u8 (u.toNat : Int), undef, undef, undef, undef, undef], defers := [] }) ?assign ?body ?done ?stop
  case assign =>
    intro l u W K hK
    gi_wp2
    exact hK
  case body =>
    rintro l pre u W ⟨⟨v, hv, hrow, hat0⟩, hBw⟩ hlt
    have hlies : Hid (Lies w.heap.size (Value.slice a bs.length cap).ownBlock v) := hat0
    have hBw' : Hid (w.grownBy W (Value.slice a bs.length cap).ownBlock) := hBw
    have hsz := hBw.size
    clear hat0 hBw
    have hc := hv.cell
    have hu := u.toNat_lt
    gi_wp2_with (gi_at_builtin; refine wpListIn_append_own_at _ rfl _ _ 31 rfl B 5 i0 (.int .u8 0) 1 1 Tryz.underlying31 hi hz0 hz1 hz2 rfl (by decide) _ _ _ rfl (hrow.alloc _) ⟨W.heap.size, 0, none⟩ 1 1 [.int .u8 (u.toNat : Int)] rfl rfl (cell_one_new _ _ _) (by simp [Value.oneCell']) (by unfold maxLen; omega) (by omega) (by simp; omega) ?_; intro v' w1 hown' hgrow _ hat; obtain ⟨g', cap', rfl⟩ := ownsRow_succ hown'; obtain ⟨hv1, hv2, hr2, hk2, hb2⟩ := hv.appended (by decide) hrow (Nat.le_trans hB hsz) hB hown' hgrow; have hc1 := hv1.cell; have hf1 := hv1.frozen)
    exact ⟨hk2.from _, hb2, ⟨_, hv2, by rw [List.length_append, List.length_singleton, ← Nat.add_assoc, Lib.byteCells_append, ← List.append_assoc]; exact hr2, lies_round hBw'.out hlies.out hat⟩, grown_round hBw'.out hlies.out hgrow⟩
  case done =>
    rintro D ys W hD rfl ⟨⟨v, hv, hrow, hat0⟩, hBw⟩ hK
    have hlies : Hid (Lies w.heap.size (Value.slice a bs.length cap).ownBlock v) := hat0
    have hBw' : Hid (w.grownBy W (Value.slice a bs.length cap).ownBlock) := hBw
    clear hat0 hBw
    have hc := hv.cell
    gi_wp2
    refine ⟨by simp, .inl ⟨_, _, rfl, run_takeDeferred hK, ?_⟩⟩
    refine ⟨_, results_tmp rfl _ _ _, v, rfl, ?_, ⟨grown_end hBw'.out (by simp at hD; omega), hlies.out⟩⟩
    have := ownsRow_putObj hrow (.deferred none) hK rfl
    unfold PutU.Own
    rw [List.length_append, Lib.byteCells_append]
    exact this
  case stop =>
    rintro D c pre W _ _ h _
    exact h.elim
theorem appendS (a : Option Addr) (cap B : Nat) (bs : List UInt8) (m : Int) (w : World) (ho : PutU.Own B w (.slice a bs.length cap) bs) (hB : B ≤ w.heap.size) (hl : bs.length ≤ 67108864) :
    Calls Tryz.prog 147 #[.slice a bs.length cap, .int .i64 m] w fun e w' => ∃ v, e = .returned v ∧ PutU.Own B w' v (bs ++ sleb 5 (wrap32 m)) ∧ App w w' (.slice a bs.length cap) v :=
  (callsIn_wide (n := 8)).1 (appendS_at Fence.wide 8 trivial trivial trivial trivial rfl (by omega) a cap B bs m w ho hB hl)
end Go.Proofs.YtffngjgjhialnaaGreatDoor.ImplApp
