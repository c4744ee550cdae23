/-
  The drawing of bytes that mostly hold a number, and a place.
-/
import Derived.Test.YtgfdgeieojbgaaaLebLaw
import Derived.Deep.RegionLaw
import Derived.BigRegion
namespace Go.Proofs.Ytgfdgeieojbgaaa.LebDraw
open Go.RowKit PlainNum PlainLeb PlainGet PlainTrip NumCalls ByteMem PutU PutULaw PutLaws Draws DrawBytes LebLaw

theorem step_append_own {P : Program} {ops : Array Oper} {o : Oper} {a : Act} {w : World} {K : Act → World → Prop} {Q : Exit → Act → World → Prop} {E : Prop}
    (hg : o.guard = none) (s x : Operand) (t : TypeId) (hop : o.op = Op.call { callee := Callee.builtin Builtin.append, args := #[s, x], argTypes := #[t, t] })
    (base : Nat) (e : TypeId) (i : TypeInfo) (z : Value) (size bytes : Nat) (h1 : P.underlying t = some (.slice e)) (h2 : P.info? e = some i) (h3 : i.zero = some z) (h4 : i.size = size) (h5 : i.bytes = bytes) (h6 : z.cells.size = size) (h7 : 0 < size)
    (v : Value) (k : Nat) (xs : List Value) (hs : a.eval s = v) (hown : w.ownsRow base e size v k xs) (ad : Addr) (m c : Nat) (news : List Value) (hx : a.eval x = .slice (some ad) m c) (hn : news.length = m * size)
    (hc : ∀ j u, news[j]? = some u → w.cell? (ad.add j) = some u) (h1c : ∀ u ∈ news, u.oneCell' = true) (b1 : k + m ≤ maxLen) (b2 : (k + m) * bytes ≤ 140737488355328) (b3 : base ≤ w.heap.size)
    (hK : ∀ v' w', w'.ownsRow base e size v' (k + m) (xs ++ news) → w.grownBy w' v.ownBlock → (v' = .slice none 0 0 ↔ v = .slice none 0 0 ∧ m = 0) → K (a.put o.dst v') w') :
    if Region.wanted o (yielded ops a.tmps) = true then Oper.wp P o a w K Q else E := by
  rw [if_pos (by simp [Region.wanted, hg])]
  exact wp_append_own w s x t hop base e i z size bytes h1 h2 h3 h4 h5 h6 h7 v k xs hs hown ad m c news hx hn hc h1c b1 b2 b3 hK
theorem row_take {B : Nat} {w : World} {g n c : Nat} {bs : List UInt8} (h : PutU.Own B w (.slice (some ⟨g, 0, none⟩) n c) bs) (k : Nat) (hk : k ≤ bs.length) : PutU.Own B w (.slice (some ⟨g, 0, none⟩) k c) (bs.take k) := by
  rcases h.2 with ⟨hv, _⟩ | ⟨g', cap, cur, hv, hg, hb, hn, hm, hs, hc⟩
  · cases hv
  · injection hv with e1 e2 e3
    injection e1 with e1
    injection e1 with e1
    subst e1 e2 e3
    refine ⟨by simp [Lib.byteCells_length], .inr ⟨g, c, cur, by simp [hk], hg, hb, by simp; omega, hm, hs, ?_⟩⟩
    have h2 : cur.toList.take bs.length = Lib.byteCells bs := by simpa using hc
    have h3 := congrArg (List.take k) h2
    rw [List.take_take, Nat.min_eq_left hk] at h3
    simp only [List.length_take, Nat.min_eq_left hk, Nat.mul_one]
    rw [h3]
    simp [Lib.byteCells, List.map_take]
/-- What the drawing comes to, step by step: the cursor, and bytes in memory of its own behind it. -/
def Mid (B : Nat) (w0 : World) (blk : Nat) (w : World) (v : Value) (bs : List UInt8) : Prop :=
  St B w0 blk w ∧ ∃ base, blk < base ∧ base ≤ w.heap.size ∧ PutU.Own base w v bs ∧ v ≠ .slice none 0 0
theorem Mid.form {B blk : Nat} {w0 w : World} {v : Value} {bs : List UInt8} (h : Mid B w0 blk w v bs) : ∃ g c, v = .slice (some ⟨g, 0, none⟩) bs.length c ∧ blk < g ∧ B ≤ g ∧ Blk w g bs ∧ bs.length ≤ c := by
  obtain ⟨h1, base, hb, _, ho, hv⟩ := h
  obtain ⟨g, c, e, hg, hk, hc⟩ := own_blk2 ho hv
  have := h1.1.1
  exact ⟨g, c, e, by omega, by omega, hk, hc⟩
theorem Mid.cur {B blk : Nat} {w0 w w' : World} {v : Value} {bs : List UInt8} (h : Mid B w0 blk w v bs) (h' : StK B w0 blk w w') : Mid B w0 blk w' v bs := by
  obtain ⟨_, base, hb, hs, ho, hv⟩ := h
  refine ⟨h'.1, base, hb, Nat.le_trans hs h'.2.size, ho.kept h'.2 ?_, hv⟩
  rcases ho.2 with ⟨e, _⟩ | ⟨g, cap, cur, e, hg, _⟩
  · exact absurd e hv
  · exact .inr (fun e' => by rw [e] at e'; simp [Value.ownBlock] at e'; omega)
theorem Mid.st {B blk : Nat} {w0 w : World} {v : Value} {bs : List UInt8} (h : Mid B w0 blk w v bs) : StK B w0 blk w w := ⟨h.1, World.grownBy.refl _ _⟩
theorem Mid.new {B blk : Nat} {w0 w w' : World} {v v' : Value} {bs bs' : List UInt8} (h : Mid B w0 blk w v bs) (ho : PutU.Own w.heap.size w' v' bs') (hb : Below w.heap.size w w') (hne : 0 < bs'.length) : Mid B w0 blk w' v' bs' := by
  have hlt := cur_lt h.1.1
  exact ⟨st_past h.1 hb (by have := h.1.1.1; omega) hlt, w.heap.size, hlt, hb.size, ho, own_ne ho hne⟩
theorem mid_of {B blk base : Nat} {w0 w : World} {v : Value} {bs : List UInt8} (h : St B w0 blk w) (hlt : blk < base) (ho : PutU.Own base w v bs) (hv : v ≠ .slice none 0 0) : Mid B w0 blk w v bs := by
  obtain ⟨g, c, e, hg, hk, hc⟩ := own_blk2 ho hv
  have := hk.lt
  exact ⟨h, base, hlt, by omega, ho, hv⟩
theorem Mid.blk {B blk g n c : Nat} {w0 w : World} {bs : List UInt8} (h : Mid B w0 blk w (.slice (some ⟨g, 0, none⟩) n c) bs) : Blk w g bs := by
  obtain ⟨g', c', e, _, _, hk, _⟩ := h.form
  injection e with e1 e2 e3
  injection e1 with e1
  injection e1 with e1
  rw [e1]; exact hk
theorem Mid.draw {B blk : Nat} {w0 w : World} {v : Value} {bs : List UInt8} (h : Mid B w0 blk w v bs) : Mid B w0 blk w.drew v bs := by
  obtain ⟨h1, base, hb, hs, ho, hv⟩ := h
  exact ⟨⟨(h1.1.draw 1).1, h1.2.trans (h1.1.draw 1).2⟩, base, hb, hs, ho, hv⟩
theorem Mid.open {B blk g n c : Nat} {w0 w : World} {bs : List UInt8} (h : Mid B w0 blk w (.slice (some ⟨g, 0, none⟩) n c) bs) (k : Nat) (hk : k ≤ bs.length) : ∃ base, blk < base ∧ base ≤ w.heap.size ∧ base ≤ g ∧ w.ownsRow base 5 1 (.slice (some ⟨g, 0, none⟩) k c) k (Lib.byteCells (bs.take k)) := by
  obtain ⟨h1, base, hbb, hs, ho, hv⟩ := h
  have h2 := row_take ho k hk
  unfold PutU.Own at h2
  rw [List.length_take, Nat.min_eq_left hk] at h2
  refine ⟨base, hbb, hs, ?_, h2⟩
  rcases ho.2 with ⟨e, _⟩ | ⟨g', cap, cur, e, hg', _⟩
  · exact absurd e hv
  · injection e with e1 e2 e3
    injection e1 with e1
    injection e1 with e1
    omega
/-- An append to a part of it. -/
theorem Mid.app {B blk base g n c k : Nat} {w0 w wa w' : World} {bs : List UInt8} {v' : Value} {us : List UInt8} {news : List Value} {m : Nat} (h : Mid B w0 blk w (.slice (some ⟨g, 0, none⟩) n c) bs) (hbb : blk < base) (hs : base ≤ w.heap.size) (hgb : base ≤ g) (hb : Below w.heap.size w wa) (hnews : news = Lib.byteCells us) (hm : m = us.length) (hk : k ≤ bs.length) (hpos : 0 < m)
    (h2 : w'.ownsRow base 5 1 v' (k + m) (Lib.byteCells (bs.take k) ++ news)) (hg : wa.grownBy w' (some g)) : Mid B w0 blk w' v' (bs.take k ++ us) := by
  have h1 := h.1
  subst hnews hm
  have hb2 : Below base w w' := (hb.mono hs).grown hg (Nat.le_trans hs hb.size) (fun j hj => by cases hj; exact hgb)
  have hst := st_past h1 hb2 (by have := h1.1.1; omega) hbb
  refine ⟨hst, base, hbb, Nat.le_trans hs hb2.size, ?_, ?_⟩
  · unfold PutU.Own
    rw [List.length_append, List.length_take, Nat.min_eq_left hk, Lib.byteCells_append]
    exact h2
  · rcases h2.2 with ⟨_, e⟩ | ⟨g', cap, cur, e, _⟩
    · omega
    · rw [e]; intro e'; cases e'
theorem cells_new (w : World) (l : List Value) (t : TypeId) : ∀ j u, l[j]? = some u → (w.alloc (.cells l.toArray t)).cell? ((⟨w.heap.size, 0, none⟩ : Addr).add j) = some u := by
  intro j u hj
  have e : (⟨w.heap.size, 0, none⟩ : Addr).add j = ⟨w.heap.size, j, none⟩ := by cases j <;> simp [Addr.add]
  have hn := World.alloc_heap_new w (.cells l.toArray t)
  rw [e]
  unfold World.cell?
  simp only []
  rw [hn]
  simpa using hj
theorem Mid.alloc {B blk : Nat} {w0 w : World} {v : Value} {bs : List UInt8} (h : Mid B w0 blk w v bs) (o : Obj) : Mid B w0 blk (w.alloc o) v bs := by
  obtain ⟨h1, base, hb, hs, ho, hv⟩ := h
  have hlt := cur_lt h1.1
  exact ⟨st_past h1 ((Below.refl w.heap.size w).alloc (Nat.le_refl _) o) (by have := h1.1.1; omega) hlt, base, hb, by simp; omega, ho.alloc _, hv⟩
/-- The eight bytes that the last one is drawn of. -/
def t8 : List UInt8 := [15, 16, 7, 8, 120, 119, 127, 128]
theorem t8_cell {q : Nat} (hq : q < 8) : (Lib.byteCells t8)[q]? = some (.int .u8 ((t8[q]?.getD 0).toNat : Int)) := by
  have : q < t8.length := by simp [t8]; omega
  simp [Lib.byteCells, this]
theorem mid_end {B blk : Nat} {w0 w : World} {v : Value} {bs : List UInt8} (h : Mid B w0 blk w v bs) (hn : bs.length ≤ 20) (x : Int) {v' : Value} (hv : v' = v) : ∃ (g c : Nat) (bs : List UInt8) (at' : Int), Ending.returned (.tuple #[v', .int .i64 x]) = .returned (.tuple #[.slice (some ⟨g, 0, none⟩) bs.length c, .int .i64 at']) ∧ B ≤ g ∧ Blk w g bs ∧ bs.length ≤ 20 ∧ bs.length ≤ c ∧ Below B w0 w := by
  obtain ⟨g, c, e, hg, hgB, hk, hc⟩ := h.form
  exact ⟨g, c, bs, x, by rw [hv, e], hgB, hk, hn, hc, h.1.2⟩
set_option maxRecDepth 100000 in
set_option maxHeartbeats 8000000 in
theorem lebS {B blk : Nat} {w0 w : World} (h : St B w0 blk w) :
    Calls Try.prog 40 #[.pointer (some ⟨blk, 0, none⟩)] w fun e w' => ∃ (g c : Nat) (bs : List UInt8) (at' : Int), e = .returned (.tuple #[.slice (some ⟨g, 0, none⟩) bs.length c, .int .i64 at']) ∧ B ≤ g ∧ Blk w' g bs ∧ bs.length ≤ 20 ∧ bs.length ≤ c ∧ Below B w0 w' := by
  obtain ⟨i0, hi, hz0, hz1, hz2⟩ := info_parts info5
  have hlt := cur_lt h.1
  go_enter Try.func40, Try.ntmps40
  go_wp2_with (go_at_call 26; refine (bytesS 3 (by omega) h).mono ?_; rintro e w1 ⟨v, bs, rfl, o1, v1, n1, h1⟩; have m1 := mid_of h1 hlt o1 v1; clear o1 v1 h1; obtain ⟨g, c, rfl, hg, hgB, k1, hc1⟩ := m1.form)
  go_wp2_with (go_at_call 42; refine (belowK _ m1.st).mono ?_; rintro e w2 ⟨x, rfl, x0, x1, hst⟩; replace x1 := x1 (by decide); have m2 := m1.cur hst; clear m1 hst)
  all_goals go_wp2_with (go_at_call 27; refine (rawK m2.st).mono ?_; rintro e w3 ⟨n, rfl, hst⟩; have m3 := m2.cur hst; clear hst m2; have k3 := m3.blk; have hxU := Lib.uvarint_length64 (x := (n % 4294967296).toNat) (by omega); have hpU := Lib.uvarint_pos (n % 4294967296).toNat; have hxS := sleb_length 5 (wrap32 n); have hpS : 0 < (sleb 5 (wrap32 n)).length := sleb_pos 4 _)
  all_goals go_wp2_with (first | (go_at_call 12; refine (spec_putU _ _ _ bs n k3.rd (by omega)).mono ?_; rintro e w4 ⟨v4, rfl, o4, b4⟩; have m4 := m3.new o4 b4 (by rw [List.length_append]; omega); have lR : bs.length < (bs ++ Lib.uvarint (n % 4294967296).toNat).length ∧ (bs ++ Lib.uvarint (n % 4294967296).toNat).length ≤ bs.length + 10 := (by rw [List.length_append]; omega); clear o4 b4 m3 k3; generalize bs ++ Lib.uvarint (n % 4294967296).toNat = R at *; obtain ⟨g4, c4, rfl, hg4, hgB4, k4, hc4⟩ := m4.form) | (go_at_call 13; refine (PutS.spec_putS _ _ _ bs n k3.rd (by omega)).mono ?_; rintro e w4 ⟨v4, rfl, o4, b4⟩; have m4 := m3.new o4 b4 (by rw [List.length_append]; omega); have lR : bs.length < (bs ++ sleb 5 (wrap32 n)).length ∧ (bs ++ sleb 5 (wrap32 n)).length ≤ bs.length + 10 := (by rw [List.length_append]; omega); clear o4 b4 m3 k3; generalize bs ++ sleb 5 (wrap32 n) = R at *; obtain ⟨g4, c4, rfl, hg4, hgB4, k4, hc4⟩ := m4.form))
  all_goals go_wp2_with (first | (go_at_call 42; refine (belowK _ m4.st).mono ?_; rintro e w5 ⟨y, rfl, y0, y1, hst⟩; replace y1 := y1 (by decide); have m5 := m4.cur hst; clear hst m4 k4 hxU hpU hxS hpS; have k5 := m5.blk; obtain ⟨base, hbb, hbs, hbg, ot⟩ := m5.open bs.length (by omega)) | (at_builtin; refine wpList_append_own _ rfl _ _ 22 rfl base 5 i0 (.int .u8 0) 1 1 Try.underlying22 hi hz0 hz1 hz2 rfl (by decide) _ _ _ rfl (ot.alloc _) ⟨w5.heap.size, 0, none⟩ 2 2 [.int .u8 128, .int .u8 0] rfl rfl (cells_new w5 _ 5) (by simp [Value.oneCell']) (by unfold maxLen; omega) (by omega) (by simp; omega) ?_; intro v6 w6 hown hgrow _; have m6 := m5.app (us := [128, 0]) (m := 2) (k := bs.length) hbb hbs hbg ((Below.refl _ w5).alloc (Nat.le_refl _) _) rfl rfl (by omega) (by decide) hown hgrow; clear hown hgrow m5; obtain ⟨g6, c6, rfl, hg6, hgB6, k6, hc6⟩ := m6.form))
  · obtain ⟨L1, hL1⟩ : ∃ L1, R.length = L1 + 1 := ⟨R.length - 1, by omega⟩
    obtain ⟨ba, hba, hsa, hga, oa⟩ := m5.open L1 (by omega)
    have cz := k5.cell L1 (by omega)
    have hw1 : IntKind.i64.wrap ((R.length : Int) - 1) = (L1 : Int) := by rw [IntKind.wrap_i64]; omega
    have hw2 : IntKind.i64.wrap (L1 : Int) = (L1 : Int) := by rw [IntKind.wrap_i64]; omega
    have hl1 : (L1 : Int) < (R.length : Int) := by omega
    have hl2 : (L1 : Int) ≤ (c4 : Int) := by omega
    have hl3 : (L1 : Int) < (L1 : Int) + 1 := by omega
    have hzl := (R[L1]?.getD 0).toNat_lt
    have hor := or_u8 (a := ((R[L1]?.getD 0).toNat : Int))
    rw [show ((R[L1]?.getD 0).toNat : Int) % 256 = ((R[L1]?.getD 0).toNat : Int) by omega] at hor
    generalize R[L1]?.getD 0 = u at *
    have eu : [Value.int .u8 ((u.toNat : Int) % 128 + 128)] = Lib.byteCells [(u.toNat % 128 + 128).toUInt8] := by
      have e2 : (((u.toNat % 128 + 128).toUInt8.toNat : Nat) : Int) = (u.toNat : Int) % 128 + 128 := by rw [toU8 (by omega)]; omega
      simp only [Lib.byteCells, List.map_cons, List.map_nil, e2]
    have eu' : Hid _ := eu
    clear eu
    go_region_law (refine step_append_own rfl (.tmp 30) (.tmp 38) 22 rfl ba 5 i0 (.int .u8 0) 1 1 Try.underlying22 hi hz0 hz1 hz2 rfl (by decide) _ _ _ rfl (oa.drew.alloc _) ⟨w5.heap.size, 0, none⟩ 1 1 [.int .u8 ((u.toNat : Int) % 128 + 128)] rfl rfl (cells_new _ _ 5) (by simp [Value.oneCell']) (by unfold maxLen; omega) (by omega) (by simp; omega) ?_; intro v6 w6 hown hgrow _)
    have m6 := m5.app (us := [(u.toNat % 128 + 128).toUInt8]) (m := 1) (k := L1) hba hsa hga (((Below.refl _ w5).drew).alloc (Nat.le_refl _) _) eu'.out rfl (by omega) (by decide) hown hgrow
    clear hown hgrow m5
    obtain ⟨g6, c6, rfl, hg6, hgB6, k6, hc6⟩ := m6.form
    go_wp2_with (first | (go_at_call 42; refine (belowK _ m6.st).mono ?_; rintro e w8 ⟨q, rfl, q0, q1, hst⟩; replace q1 := q1 (by decide); have m8 := m6.cur hst; clear hst) | (go_at_call 27; refine (rawK m8.st).mono ?_; rintro e w9 ⟨q', rfl, hst9⟩; have m9 := m8.cur hst9; clear hst9))
    all_goals (go_ret2; first | exact mid_end m9 (by first | omega | (simp; omega)) _ (by first | rfl | (simp; omega) | simp) | exact mid_end m8 (by first | omega | (simp; omega)) _ (by first | rfl | (simp; omega) | simp))
  · have m5d := m5.draw
    have hl2 : (bs.length : Int) ≤ (c4 : Int) := by omega
    go_region_law (first | (refine step_append_own rfl (.tmp 44) (.tmp 48) 22 rfl ba 5 i0 (.int .u8 0) 1 1 Try.underlying22 hi hz0 hz1 hz2 rfl (by decide) _ _ _ rfl (oa.alloc _) ⟨w7.heap.size, 0, none⟩ 5 5 [.int .u8 128, .int .u8 128, .int .u8 128, .int .u8 128, .int .u8 z] rfl rfl (cells_new _ _ 5) (by simp [Value.oneCell']) (by unfold maxLen; omega) (by omega) (by simp; omega) ?_; intro v6 w6 hown hgrow _) | (go_simp; go_at_call 43; refine (byteK m5d.st).mono ?_; rintro e w7 ⟨z, rfl, z0, z1, hst⟩; have m7 := m5d.cur hst; obtain ⟨ba, hba, hsa, hga, oa⟩ := m7.open bs.length (by omega); have hwz : IntKind.u8.wrap z = z := (by rw [IntKind.wrap_u8]; omega); simp only []))
    have ez : (((z.toNat.toUInt8).toNat : Nat) : Int) = z := by rw [toU8 (by omega)]; omega
    have m6 := m7.app (us := [128, 128, 128, 128, z.toNat.toUInt8]) (m := 5) (k := bs.length) hba hsa hga ((Below.refl _ w7).alloc (Nat.le_refl _) _) (by simp only [Lib.byteCells, List.map_cons, List.map_nil, ez]; rfl) rfl (by omega) (by decide) hown hgrow
    clear hown hgrow m5 m5d m7
    obtain ⟨g6, c6, rfl, hg6, hgB6, k6, hc6⟩ := m6.form
    go_wp2_with (first | (go_at_call 42; refine (belowK _ m6.st).mono ?_; rintro e w8 ⟨q, rfl, q0, q1, hst⟩; replace q1 := q1 (by decide); have m8 := m6.cur hst; clear hst) | (go_at_call 27; refine (rawK m8.st).mono ?_; rintro e w9 ⟨q', rfl, hst9⟩; have m9 := m8.cur hst9; clear hst9))
    all_goals (go_ret2; first | exact mid_end m9 (by first | omega | (simp; omega)) _ (by first | rfl | (simp; omega) | simp) | exact mid_end m8 (by first | omega | (simp; omega)) _ (by first | rfl | (simp; omega) | simp))
  · have m5d := m5.draw
    have m5a := m5d.alloc (.cells (Lib.byteCells t8).toArray 5)
    have hne5 : some w5.heap.size ≠ some blk := fun e => by have := Option.some.inj e; have := cur_lt m5.1.1; omega
    have hl2 : (bs.length : Int) ≤ (c4 : Int) := by omega
    go_region_law (first | (refine step_append_own rfl (.tmp 54) (.tmp 60) 22 rfl ba 5 i0 (.int .u8 0) 1 1 Try.underlying22 hi hz0 hz1 hz2 rfl (by decide) _ _ _ rfl (oa.alloc _) ⟨w7.heap.size, 0, none⟩ 5 5 [.int .u8 255, .int .u8 255, .int .u8 255, .int .u8 255, .int .u8 (u.toNat : Int)] rfl rfl (cells_new _ _ 5) (by simp [Value.oneCell']) (by unfold maxLen; omega) (by omega) (by simp; omega) ?_; intro v6 w6 hown hgrow _; have m6 := m7.app (us := [255, 255, 255, 255, u]) (m := 5) (k := bs.length) hba hsa hga ((Below.refl _ w7).alloc (Nat.le_refl _) _) rfl rfl (by omega) (by decide) hown hgrow) | (refine step_append_own rfl (.tmp 54) (.tmp 60) 22 rfl ba 5 i0 (.int .u8 0) 1 1 Try.underlying22 hi hz0 hz1 hz2 rfl (by decide) _ _ _ rfl ((oa.alloc _).alloc _) ⟨w7.heap.size + 1, 0, none⟩ 5 5 [.int .u8 255, .int .u8 255, .int .u8 255, .int .u8 255, .int .u8 (u.toNat : Int)] rfl rfl (hcn.out _ rfl) (by simp [Value.oneCell']) (by unfold maxLen; omega) (by omega) (by simp; omega) ?_; intro v6 w6 hown hgrow _; have m6 := m7.app (us := [255, 255, 255, 255, u]) (m := 5) (k := bs.length) hba hsa hga (((Below.refl _ w7).alloc (Nat.le_refl _) _).alloc (by simp) _) rfl rfl (by omega) (by decide) hown hgrow) | (go_simp; go_at_call 42; refine (belowK _ m5a.st).mono ?_; rintro e w7 ⟨q, rfl, q0, q1, hst⟩; replace q1 := q1 (by decide); obtain ⟨qn, rfl⟩ : ∃ qn : Nat, q = qn := ⟨q.toNat, by omega⟩; have hq8 : (qn : Int) < 8 := q1; obtain ⟨u, hu⟩ : ∃ u, t8[qn]?.getD 0 = u := ⟨_, rfl⟩; have hul := u.toNat_lt; have ht8 := t8_cell (q := qn) (by omega); rw [hu] at ht8; have m7 := m5a.cur hst; have hcz : w7.cell? ⟨w5.heap.size, qn, none⟩ = some (.int .u8 (u.toNat : Int)) := (by have h0 := cells_new w5 (Lib.byteCells t8) 5 qn _ ht8; rw [Addr.add_lit, Nat.zero_add] at h0; exact hst.2.cell (a := ⟨w5.heap.size, qn, none⟩) h0 hne5); obtain ⟨ba, hba, hsa, hga, oa⟩ := m7.open bs.length (by omega); simp only []) | (go_simp; go_at_call 42; refine (belowK _ m5d.st).mono ?_; rintro e w7 ⟨q, rfl, q0, q1, hst⟩; replace q1 := q1 (by decide); obtain ⟨qn, rfl⟩ : ∃ qn : Nat, q = qn := ⟨q.toNat, by omega⟩; have hq8 : (qn : Int) < 8 := q1; obtain ⟨u, hu⟩ : ∃ u, t8[qn]?.getD 0 = u := ⟨_, rfl⟩; have hul := u.toNat_lt; have ht8 := t8_cell (q := qn) (by omega); rw [hu] at ht8; have m7 := m5d.cur hst; have hl8 : ([.int .u8 15, .int .u8 16, .int .u8 7, .int .u8 8, .int .u8 120, .int .u8 119, .int .u8 127, .int .u8 128] : List Value)[qn]? = some (.int .u8 (u.toNat : Int)) := ht8; have hcz : (w7.alloc (.cells (Lib.byteCells t8).toArray 5)).cell? ⟨w7.heap.size, qn, none⟩ = some (.int .u8 (u.toNat : Int)) := (by have h0 := cells_new w7 (Lib.byteCells t8) 5 qn _ ht8; rw [Addr.add_lit, Nat.zero_add] at h0; exact h0); have hcn : Hid (∀ l : List Value, l = [.int .u8 255, .int .u8 255, .int .u8 255, .int .u8 255, .int .u8 (u.toNat : Int)] → ∀ j u', l[j]? = some u' → ((w7.alloc (.cells (Lib.byteCells t8).toArray 5)).alloc (.cells l.toArray 5)).cell? ((⟨w7.heap.size + 1, 0, none⟩ : Addr).add j) = some u') := (fun l _ j u' hj => by have h0 := cells_new (w7.alloc (.cells (Lib.byteCells t8).toArray 5)) l 5 j u' hj; rw [World.size_alloc] at h0; exact h0); obtain ⟨ba, hba, hsa, hga, oa⟩ := m7.open bs.length (by omega); simp only []))
    all_goals
      clear m5 m5d m5a m7
      obtain ⟨g6, c6, rfl, hg6, hgB6, k6, hc6⟩ := m6.form
      go_wp2_with (first | (go_at_call 42; refine (belowK _ m6.st).mono ?_; rintro e w8 ⟨q, rfl, q0, q1, hst⟩; replace q1 := q1 (by decide); have m8 := m6.cur hst; clear hst) | (go_at_call 27; refine (rawK m8.st).mono ?_; rintro e w9 ⟨q', rfl, hst9⟩; have m9 := m8.cur hst9; clear hst9))
    all_goals (go_ret2; first | exact mid_end m9 (by first | omega | (simp; omega)) _ (by first | rfl | (simp; omega) | simp) | exact mid_end m8 (by first | omega | (simp; omega)) _ (by first | rfl | (simp; omega) | simp))
  · skip
    go_wp2_with (first | (go_at_call 42; refine (belowK _ m6.st).mono ?_; rintro e w8 ⟨q, rfl, q0, q1, hst⟩; replace q1 := q1 (by decide); have m8 := m6.cur hst; clear hst) | (go_at_call 27; refine (rawK m8.st).mono ?_; rintro e w9 ⟨q', rfl, hst9⟩; have m9 := m8.cur hst9; clear hst9))
    all_goals (go_ret2; first | exact mid_end m9 (by first | omega | (simp; omega)) _ (by first | rfl | (simp; omega) | simp) | exact mid_end m8 (by first | omega | (simp; omega)) _ (by first | rfl | (simp; omega) | simp))
  · skip
    go_wp2_with (first | (go_at_call 42; refine (belowK _ m5.st).mono ?_; rintro e w8 ⟨q, rfl, q0, q1, hst⟩; replace q1 := q1 (by decide); have m8 := m5.cur hst; clear hst) | (go_at_call 27; refine (rawK m8.st).mono ?_; rintro e w9 ⟨q', rfl, hst9⟩; have m9 := m8.cur hst9; clear hst9))
    all_goals (go_ret2; first | exact mid_end m9 (by first | omega | (simp; omega)) _ (by first | rfl | (simp; omega) | simp) | exact mid_end m8 (by first | omega | (simp; omega)) _ (by first | rfl | (simp; omega) | simp))
  · obtain ⟨L1, hL1⟩ : ∃ L1, R.length = L1 + 1 := ⟨R.length - 1, by omega⟩
    obtain ⟨ba, hba, hsa, hga, oa⟩ := m5.open L1 (by omega)
    have cz := k5.cell L1 (by omega)
    have hw1 : IntKind.i64.wrap ((R.length : Int) - 1) = (L1 : Int) := by rw [IntKind.wrap_i64]; omega
    have hw2 : IntKind.i64.wrap (L1 : Int) = (L1 : Int) := by rw [IntKind.wrap_i64]; omega
    have hl1 : (L1 : Int) < (R.length : Int) := by omega
    have hl2 : (L1 : Int) ≤ (c4 : Int) := by omega
    have hl3 : (L1 : Int) < (L1 : Int) + 1 := by omega
    have hzl := (R[L1]?.getD 0).toNat_lt
    have hor := or_u8 (a := ((R[L1]?.getD 0).toNat : Int))
    rw [show ((R[L1]?.getD 0).toNat : Int) % 256 = ((R[L1]?.getD 0).toNat : Int) by omega] at hor
    generalize R[L1]?.getD 0 = u at *
    have eu : [Value.int .u8 ((u.toNat : Int) % 128 + 128)] = Lib.byteCells [(u.toNat % 128 + 128).toUInt8] := by
      have e2 : (((u.toNat % 128 + 128).toUInt8.toNat : Nat) : Int) = (u.toNat : Int) % 128 + 128 := by rw [toU8 (by omega)]; omega
      simp only [Lib.byteCells, List.map_cons, List.map_nil, e2]
    have eu' : Hid _ := eu
    clear eu
    go_region_law (refine step_append_own rfl (.tmp 30) (.tmp 38) 22 rfl ba 5 i0 (.int .u8 0) 1 1 Try.underlying22 hi hz0 hz1 hz2 rfl (by decide) _ _ _ rfl (oa.drew.alloc _) ⟨w5.heap.size, 0, none⟩ 1 1 [.int .u8 ((u.toNat : Int) % 128 + 128)] rfl rfl (cells_new _ _ 5) (by simp [Value.oneCell']) (by unfold maxLen; omega) (by omega) (by simp; omega) ?_; intro v6 w6 hown hgrow _)
    have m6 := m5.app (us := [(u.toNat % 128 + 128).toUInt8]) (m := 1) (k := L1) hba hsa hga (((Below.refl _ w5).drew).alloc (Nat.le_refl _) _) eu'.out rfl (by omega) (by decide) hown hgrow
    clear hown hgrow m5
    obtain ⟨g6, c6, rfl, hg6, hgB6, k6, hc6⟩ := m6.form
    go_wp2_with (first | (go_at_call 42; refine (belowK _ m6.st).mono ?_; rintro e w8 ⟨q, rfl, q0, q1, hst⟩; replace q1 := q1 (by decide); have m8 := m6.cur hst; clear hst) | (go_at_call 27; refine (rawK m8.st).mono ?_; rintro e w9 ⟨q', rfl, hst9⟩; have m9 := m8.cur hst9; clear hst9))
    all_goals (go_ret2; first | exact mid_end m9 (by first | omega | (simp; omega)) _ (by first | rfl | (simp; omega) | simp) | exact mid_end m8 (by first | omega | (simp; omega)) _ (by first | rfl | (simp; omega) | simp))
  · have m5d := m5.draw
    have hl2 : (bs.length : Int) ≤ (c4 : Int) := by omega
    go_region_law (first | (refine step_append_own rfl (.tmp 44) (.tmp 48) 22 rfl ba 5 i0 (.int .u8 0) 1 1 Try.underlying22 hi hz0 hz1 hz2 rfl (by decide) _ _ _ rfl (oa.alloc _) ⟨w7.heap.size, 0, none⟩ 5 5 [.int .u8 128, .int .u8 128, .int .u8 128, .int .u8 128, .int .u8 z] rfl rfl (cells_new _ _ 5) (by simp [Value.oneCell']) (by unfold maxLen; omega) (by omega) (by simp; omega) ?_; intro v6 w6 hown hgrow _) | (go_simp; go_at_call 43; refine (byteK m5d.st).mono ?_; rintro e w7 ⟨z, rfl, z0, z1, hst⟩; have m7 := m5d.cur hst; obtain ⟨ba, hba, hsa, hga, oa⟩ := m7.open bs.length (by omega); have hwz : IntKind.u8.wrap z = z := (by rw [IntKind.wrap_u8]; omega); simp only []))
    have ez : (((z.toNat.toUInt8).toNat : Nat) : Int) = z := by rw [toU8 (by omega)]; omega
    have m6 := m7.app (us := [128, 128, 128, 128, z.toNat.toUInt8]) (m := 5) (k := bs.length) hba hsa hga ((Below.refl _ w7).alloc (Nat.le_refl _) _) (by simp only [Lib.byteCells, List.map_cons, List.map_nil, ez]; rfl) rfl (by omega) (by decide) hown hgrow
    clear hown hgrow m5 m5d m7
    obtain ⟨g6, c6, rfl, hg6, hgB6, k6, hc6⟩ := m6.form
    go_wp2_with (first | (go_at_call 42; refine (belowK _ m6.st).mono ?_; rintro e w8 ⟨q, rfl, q0, q1, hst⟩; replace q1 := q1 (by decide); have m8 := m6.cur hst; clear hst) | (go_at_call 27; refine (rawK m8.st).mono ?_; rintro e w9 ⟨q', rfl, hst9⟩; have m9 := m8.cur hst9; clear hst9))
    all_goals (go_ret2; first | exact mid_end m9 (by first | omega | (simp; omega)) _ (by first | rfl | (simp; omega) | simp) | exact mid_end m8 (by first | omega | (simp; omega)) _ (by first | rfl | (simp; omega) | simp))
  · have m5d := m5.draw
    have m5a := m5d.alloc (.cells (Lib.byteCells t8).toArray 5)
    have hne5 : some w5.heap.size ≠ some blk := fun e => by have := Option.some.inj e; have := cur_lt m5.1.1; omega
    have hl2 : (bs.length : Int) ≤ (c4 : Int) := by omega
    go_region_law (first | (refine step_append_own rfl (.tmp 54) (.tmp 60) 22 rfl ba 5 i0 (.int .u8 0) 1 1 Try.underlying22 hi hz0 hz1 hz2 rfl (by decide) _ _ _ rfl (oa.alloc _) ⟨w7.heap.size, 0, none⟩ 5 5 [.int .u8 255, .int .u8 255, .int .u8 255, .int .u8 255, .int .u8 (u.toNat : Int)] rfl rfl (cells_new _ _ 5) (by simp [Value.oneCell']) (by unfold maxLen; omega) (by omega) (by simp; omega) ?_; intro v6 w6 hown hgrow _; have m6 := m7.app (us := [255, 255, 255, 255, u]) (m := 5) (k := bs.length) hba hsa hga ((Below.refl _ w7).alloc (Nat.le_refl _) _) rfl rfl (by omega) (by decide) hown hgrow) | (refine step_append_own rfl (.tmp 54) (.tmp 60) 22 rfl ba 5 i0 (.int .u8 0) 1 1 Try.underlying22 hi hz0 hz1 hz2 rfl (by decide) _ _ _ rfl ((oa.alloc _).alloc _) ⟨w7.heap.size + 1, 0, none⟩ 5 5 [.int .u8 255, .int .u8 255, .int .u8 255, .int .u8 255, .int .u8 (u.toNat : Int)] rfl rfl (hcn.out _ rfl) (by simp [Value.oneCell']) (by unfold maxLen; omega) (by omega) (by simp; omega) ?_; intro v6 w6 hown hgrow _; have m6 := m7.app (us := [255, 255, 255, 255, u]) (m := 5) (k := bs.length) hba hsa hga (((Below.refl _ w7).alloc (Nat.le_refl _) _).alloc (by simp) _) rfl rfl (by omega) (by decide) hown hgrow) | (go_simp; go_at_call 42; refine (belowK _ m5a.st).mono ?_; rintro e w7 ⟨q, rfl, q0, q1, hst⟩; replace q1 := q1 (by decide); obtain ⟨qn, rfl⟩ : ∃ qn : Nat, q = qn := ⟨q.toNat, by omega⟩; have hq8 : (qn : Int) < 8 := q1; obtain ⟨u, hu⟩ : ∃ u, t8[qn]?.getD 0 = u := ⟨_, rfl⟩; have hul := u.toNat_lt; have ht8 := t8_cell (q := qn) (by omega); rw [hu] at ht8; have m7 := m5a.cur hst; have hcz : w7.cell? ⟨w5.heap.size, qn, none⟩ = some (.int .u8 (u.toNat : Int)) := (by have h0 := cells_new w5 (Lib.byteCells t8) 5 qn _ ht8; rw [Addr.add_lit, Nat.zero_add] at h0; exact hst.2.cell (a := ⟨w5.heap.size, qn, none⟩) h0 hne5); obtain ⟨ba, hba, hsa, hga, oa⟩ := m7.open bs.length (by omega); simp only []) | (go_simp; go_at_call 42; refine (belowK _ m5d.st).mono ?_; rintro e w7 ⟨q, rfl, q0, q1, hst⟩; replace q1 := q1 (by decide); obtain ⟨qn, rfl⟩ : ∃ qn : Nat, q = qn := ⟨q.toNat, by omega⟩; have hq8 : (qn : Int) < 8 := q1; obtain ⟨u, hu⟩ : ∃ u, t8[qn]?.getD 0 = u := ⟨_, rfl⟩; have hul := u.toNat_lt; have ht8 := t8_cell (q := qn) (by omega); rw [hu] at ht8; have m7 := m5d.cur hst; have hl8 : ([.int .u8 15, .int .u8 16, .int .u8 7, .int .u8 8, .int .u8 120, .int .u8 119, .int .u8 127, .int .u8 128] : List Value)[qn]? = some (.int .u8 (u.toNat : Int)) := ht8; have hcz : (w7.alloc (.cells (Lib.byteCells t8).toArray 5)).cell? ⟨w7.heap.size, qn, none⟩ = some (.int .u8 (u.toNat : Int)) := (by have h0 := cells_new w7 (Lib.byteCells t8) 5 qn _ ht8; rw [Addr.add_lit, Nat.zero_add] at h0; exact h0); have hcn : Hid (∀ l : List Value, l = [.int .u8 255, .int .u8 255, .int .u8 255, .int .u8 255, .int .u8 (u.toNat : Int)] → ∀ j u', l[j]? = some u' → ((w7.alloc (.cells (Lib.byteCells t8).toArray 5)).alloc (.cells l.toArray 5)).cell? ((⟨w7.heap.size + 1, 0, none⟩ : Addr).add j) = some u') := (fun l _ j u' hj => by have h0 := cells_new (w7.alloc (.cells (Lib.byteCells t8).toArray 5)) l 5 j u' hj; rw [World.size_alloc] at h0; exact h0); obtain ⟨ba, hba, hsa, hga, oa⟩ := m7.open bs.length (by omega); simp only []))
    all_goals
      clear m5 m5d m5a m7
      obtain ⟨g6, c6, rfl, hg6, hgB6, k6, hc6⟩ := m6.form
      go_wp2_with (first | (go_at_call 42; refine (belowK _ m6.st).mono ?_; rintro e w8 ⟨q, rfl, q0, q1, hst⟩; replace q1 := q1 (by decide); have m8 := m6.cur hst; clear hst) | (go_at_call 27; refine (rawK m8.st).mono ?_; rintro e w9 ⟨q', rfl, hst9⟩; have m9 := m8.cur hst9; clear hst9))
    all_goals (go_ret2; first | exact mid_end m9 (by first | omega | (simp; omega)) _ (by first | rfl | (simp; omega) | simp) | exact mid_end m8 (by first | omega | (simp; omega)) _ (by first | rfl | (simp; omega) | simp))
  · skip
    go_wp2_with (first | (go_at_call 42; refine (belowK _ m6.st).mono ?_; rintro e w8 ⟨q, rfl, q0, q1, hst⟩; replace q1 := q1 (by decide); have m8 := m6.cur hst; clear hst) | (go_at_call 27; refine (rawK m8.st).mono ?_; rintro e w9 ⟨q', rfl, hst9⟩; have m9 := m8.cur hst9; clear hst9))
    all_goals (go_ret2; first | exact mid_end m9 (by first | omega | (simp; omega)) _ (by first | rfl | (simp; omega) | simp) | exact mid_end m8 (by first | omega | (simp; omega)) _ (by first | rfl | (simp; omega) | simp))
  · skip
    go_wp2_with (first | (go_at_call 42; refine (belowK _ m5.st).mono ?_; rintro e w8 ⟨q, rfl, q0, q1, hst⟩; replace q1 := q1 (by decide); have m8 := m5.cur hst; clear hst) | (go_at_call 27; refine (rawK m8.st).mono ?_; rintro e w9 ⟨q', rfl, hst9⟩; have m9 := m8.cur hst9; clear hst9))
    all_goals (go_ret2; first | exact mid_end m9 (by first | omega | (simp; omega)) _ (by first | rfl | (simp; omega) | simp) | exact mid_end m8 (by first | omega | (simp; omega)) _ (by first | rfl | (simp; omega) | simp))
end Go.Proofs.Ytgfdgeieojbgaaa.LebDraw
