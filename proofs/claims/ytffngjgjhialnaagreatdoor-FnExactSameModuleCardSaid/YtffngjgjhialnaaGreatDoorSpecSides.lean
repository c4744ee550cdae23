/-
  What the specification's writer of sections answers when it is called.
  What the specification's writers of the parts of a module answer when they are called.
  What the specification's writer of imports answers when it is called.
  What the specification's writer of exports answers when it is called.
  What the specification's writer of globals answers when it is called. (Written by my specglob.py.)
  What the specification's writer of Data answers when it is called. (Written by my specdata.py.)
  What the specification's writer of signatures answers when it is called.
-/
import Derived.Test.YtffngjgjhialnaaGreatDoorSpecIns
import Derived.Test.YtffngjgjhialnaaGreatDoorWrAll
import Derived.Test.YtffngjgjhialnaaGreatDoorPutName
import Derived.Test.YtffngjgjhialnaaGreatDoorModB
import Derived.Deep.RegionHeld3
import Derived.Deep.AppendLies
namespace Go.Proofs.YtffngjgjhialnaaGreatDoor.SpecSec
open Go.RowKit PlainNum PlainLeb NumCalls ByteMem PutU PutULaw PlainBytes SpecIns WrMod WrParts WrSec

/-- Bytes that can be read are appended to bytes of one's own. -/
theorem wp_appB {ops : Array Oper} {rest : List Oper} {o : Oper} {a : Act} {Q : Exit → Act → World → Prop} {B : Nat} {w : World} {v : Value} {bs : List UInt8} (hg : o.guard = none) (s x : Operand)
    (ho : o.op = .call { callee := .builtin .append, args := #[s, x], argTypes := #[31, 31] }) (D : PutU.Own B w v bs) (hB : B ≤ w.heap.size) (ad : Addr) (cs : List UInt8) (c M : Nat) (hM : M = cs.length) (hR : RdB w (some ad) cs) (hne : bs ++ cs ≠ []) (hl : bs.length + cs.length ≤ 134217728) (hs : a.eval s = v)
    (hx : a.eval x = .slice (some ad) M c)
    (h : ∀ g' cap' N w', N = (bs ++ cs).length → PutU.Own B w' (.slice (some ⟨g', 0, none⟩) N cap') (bs ++ cs) → w.grownBy w' v.ownBlock → wpList Tryz.prog ops Q rest (a.put o.dst (.slice (some ⟨g', 0, none⟩) N cap')) w') :
    wpList Tryz.prog ops Q (o :: rest) a w := by
  obtain ⟨i0, hi, hz0, hz1, hz2⟩ := info_parts info5
  subst hM
  refine wpList_append_own _ hg s x 31 ho B 5 i0 (.int .u8 0) 1 1 Tryz.underlying31 hi hz0 hz1 hz2 rfl (by decide) v bs.length (Lib.byteCells bs) hs D ad cs.length c (Lib.byteCells cs) hx (by rw [Lib.byteCells_length, Nat.mul_one]) (news_of hR) (Lib.byteCells_one cs) (by unfold maxLen; omega) (by omega) hB ?_
  intro v' w' hown hgrow _
  have ho' : PutU.Own B w' v' (bs ++ cs) := by
    unfold PutU.Own
    rw [List.length_append, Lib.byteCells_append]
    exact hown
  obtain ⟨g', cap', hv, _, _⟩ := own_blk ho' hne
  subst hv
  exact h g' cap' _ w' rfl ho' hgrow
theorem grown_rd {w w' : World} {row : Option Nat} {a : Option Addr} {bs : List UInt8} (h : RdB w a bs) (hg : w.grownBy w' row) (hne : ∀ p, a = some p → some p.block ≠ row) : RdB w' a bs := by
  refine ⟨h.1, ?_⟩
  rcases h.2 with h0 | ⟨b, off, ha, hc⟩
  · exact .inl h0
  · exact .inr ⟨b, off, ha, fun j hj => hg.cell (hc j hj) (by have := hne _ ha; exact this)⟩
theorem own_bel {B : Nat} {w w' : World} {v : Value} {bs : List UInt8} (D : PutU.Own B w v bs) (hB : B ≤ w.heap.size) (h : w.grownBy w' v.ownBlock) : Below B w w' :=
  (Below.refl _ _).grown h hB (fun k hk => (World.ownsRow.lt D k hk).1)
theorem own_other {B : Nat} {w w' : World} {v : Value} {bs : List UInt8} {row : Option Nat} (h : PutU.Own B w v bs) (hg : w.grownBy w' row) (hne : v.ownBlock ≠ row ∨ v.ownBlock = none) : PutU.Own B w' v bs := by
  refine ⟨h.1, ?_⟩
  rcases h.2 with h0 | ⟨g, cap, cur, hv, hgB, hh, r⟩
  · exact .inl h0
  · refine .inr ⟨g, cap, cur, hv, hgB, (hg.block g (Array.getElem?_eq_some_iff.1 hh).1 ?_).trans hh, r⟩
    subst hv
    rcases hne with hne | hne
    · exact hne
    · cases hne
theorem own_new (w : World) (bs : List UInt8) (cs : Array Value) (h : cs.toList = Lib.byteCells bs) (hl : bs.length ≤ 134217728) : PutU.Own w.heap.size (w.alloc (.cells cs 5)) (.slice (some ⟨w.heap.size, 0, none⟩) bs.length bs.length) bs := by
  have hs : cs.size = bs.length := by rw [← Array.length_toList, h, Lib.byteCells_length]
  refine ⟨by rw [Lib.byteCells_length, Nat.mul_one], .inr ⟨w.heap.size, bs.length, cs, rfl, Nat.le_refl _, heap_alloc_new w _, Nat.le_refl _, by unfold maxLen; omega, by omega, ?_⟩⟩
  rw [h, Nat.mul_one, List.take_of_length_le (by rw [Lib.byteCells_length]; exact Nat.le_refl _)]
set_option maxHeartbeats 2000000 in
theorem spec_putU0 (w : World) (n : Int) :
    Calls Tryz.prog 76 #[.slice none 0 0, .int .i64 n] w fun e w' => ∃ v, e = .returned v ∧ PutU.Own w.heap.size w' v (uv n) ∧ Below w.heap.size w w' := by
  unfold uv
  obtain ⟨i0, hi, hz0, hz1, hz2⟩ := info_parts info5
  have hx : (n % 4294967296).toNat < 18446744073709551616 := by omega
  have hlen := Lib.uvarint_length64 hx
  have hb1 : Below w.heap.size w (w.alloc (.cells #[] 5)) := (Below.refl _ _).alloc (Nat.le_refl _) _
  have hxe : n % 4294967296 = (((n % 4294967296).toNat : Nat) : Int) := by omega
  have hown1 : (w.alloc (.cells #[] 5)).ownsRow w.heap.size 5 1 (.slice (some ⟨w.heap.size, 0, none⟩) 0 0) 0 [] := World.ownsRow_made w #[] 0 (Nat.le_refl _) (by decide) rfl
  generalize (n % 4294967296).toNat = x at *
  go_enter Tryz.func76, Tryz.ntmps76
  go_wp2_with (go_at_call 119; refine (spec_plain _ _).mono ?_; rintro e w' ⟨rfl, rfl⟩)
  go_loopw [1, 5] (fun vx vb wr => ∃ (y : Nat) (pre : List UInt8), vx = .int .i64 y ∧ y ≤ x ∧ Lib.uvarint x = pre ++ Lib.uvarint y ∧ wr.ownsRow w.heap.size 5 1 vb pre.length (Lib.byteCells pre) ∧ Below w.heap.size w wr)
    (fun vx _ _ => (intOf vx).toNat)
  case atStart => exact ⟨x, [], by simp, Nat.le_refl _, rfl, hown1, hb1⟩
  case round =>
    obtain ⟨y, pre, rfl, hy, hsplit, hown2, hnx⟩ := hrel
    have hpl : pre.length + (Lib.uvarint y).length ≤ 10 := by
      have h2 := congrArg List.length hsplit
      rw [List.length_append] at h2
      omega
    have hyp := Lib.uvarint_pos y
    by_cases h128 : 128 ≤ y
    · have hb : (127 : Int) < (y : Int) := by omega
      have q2 : (y : Int).tmod 128 = (y : Int) % 128 := Int.tmod_eq_emod_of_nonneg (by omega)
      go_wp2_with (at_builtin; refine wpList_append_own _ rfl _ _ 31 rfl w.heap.size 5 i0 (.int .u8 0) 1 1 Tryz.underlying31 hi hz0 hz1 hz2 rfl (by decide) _ _ _ rfl (hown2.alloc _) ⟨wr.heap.size, 0, none⟩ 1 1 [Value.int .u8 ((y % 128 + 128 : Nat) : Int)] rfl rfl ?c1 ?c2 ?c3 ?c4 ?c5 ?_)
      case c1 =>
        intro j u hj
        match j, hj with
        | 0, hj => simp at hj; subst hj; simp [Addr.add]
      case c2 => intro u hu; simp at hu; subst hu; rfl
      case c3 => unfold maxLen; omega
      case c4 => omega
      case c5 => have := hnx.size; simp; omega
      intro v' w1 hown' hgrow _
      have hnx1 : Below w.heap.size w w1 := (hnx.alloc (by have := hnx.size; omega) _).grown hgrow (by have := hnx.size; simp; omega) (fun k hk => (hown2.lt k hk).1)
      go_wp2_with fail
      go_roundw
      case rel =>
        refine ⟨y / 128, pre ++ [(y % 128 + 128).toUInt8], by go_num, by omega, by rw [hsplit, Lib.uvarint_big h128]; simp, ?_, hnx1⟩
        have ec : ((y % 128 + 128 : Nat) : Int) = (y : Int) % 128 + 128 := by omega
        rw [Lib.byteCells_snoc pre (by omega), List.length_append, List.length_singleton, ec]
        exact hown'
      case measure => simp [intOf]; omega
    · have hsm : Lib.uvarint y = [y.toUInt8] := Lib.uvarint_small (by omega)
      have hb : ¬ (127 : Int) < (y : Int) := by omega
      go_wp2_with (at_builtin; refine wpList_append_own _ rfl _ _ 31 rfl w.heap.size 5 i0 (.int .u8 0) 1 1 Tryz.underlying31 hi hz0 hz1 hz2 rfl (by decide) _ _ _ rfl (hown2.alloc _) ⟨wr.heap.size, 0, none⟩ 1 1 [Value.int .u8 (y : Int)] rfl rfl ?c0 ?c2 ?c3 ?c4 ?c5 ?_)
      case c2 => rfl
      case c3 => unfold maxLen; omega
      case c4 => omega
      case c5 => have := hnx.size; omega
      intro v' w1 hown' hgrow _
      have hnx1 : Below w.heap.size w w1 := (hnx.alloc (by have := hnx.size; omega) _).grown hgrow (by have := hnx.size; simp; omega) (fun k hk => (hown2.lt k hk).1)
      go_wp2_with fail
      go_ret
      refine ⟨v', rfl, ?_, hnx1⟩
      have ey : Lib.byteCells [y.toUInt8] = [Value.int .u8 (y : Int)] := by have := Lib.byteCells_snoc [] (a := y) (by omega); simpa [Lib.byteCells] using this
      unfold PutU.Own
      rw [hsplit, hsm, List.length_append, List.length_singleton, Lib.byteCells_append, ey]
      exact hown'
set_option maxHeartbeats 400000 in
theorem spec_head (w : World) :
    Calls Tryz.prog 25 #[] w fun e w' => ∃ g, e = .returned (.slice (some ⟨g, 0, none⟩) 8 8) ∧ PutU.Own w.heap.size w' (.slice (some ⟨g, 0, none⟩) 8 8) [0, 97, 115, 109, 1, 0, 0, 0] ∧ Below w.heap.size w w' := by
  go_enter Tryz.func25, Tryz.ntmps25
  go_wp2_with fail
  go_ret
  exact ⟨_, rfl, own_new w [0, 97, 115, 109, 1, 0, 0, 0] #[.int .u8 0, .int .u8 97, .int .u8 115, .int .u8 109, .int .u8 1, .int .u8 0, .int .u8 0, .int .u8 0] rfl (by decide), (Below.refl _ _).alloc (Nat.le_refl _) _⟩
set_option maxHeartbeats 2000000 in
theorem spec_section (B : Nat) (g cap N : Nat) (bs : List UInt8) (c : UInt8) (id : Int) (hid : id = (c.toNat : Int)) (n : Nat) (ad : Addr) (M cp : Nat) (cs : List UInt8) (w : World) (hN : N = bs.length) (D : PutU.Own B w (.slice (some ⟨g, 0, none⟩) N cap) bs) (hB : B ≤ w.heap.size) (hM : M = cs.length) (hR : RdB w (some ad) cs) (hl : bs.length ≤ 30000000) (hl2 : cs.length ≤ 30000000) (hn : n ≤ 1048576) :
    Calls Tryz.prog 24 #[.slice (some ⟨g, 0, none⟩) N cap, .int .i64 id, .int .i64 n, .slice (some ad) M cp] w fun e w' => ∃ v, e = .returned v ∧ PutU.Own B w' v (bs ++ secB c n cs) ∧ Below B w w' := by
  have D' : Hid (PutU.Own B w (.slice (some ⟨g, 0, none⟩) N cap) bs) := D
  have R' : Hid (RdB w (some ad) cs) := hR
  have hgw : g < w.heap.size := (World.ownsRow.lt D g rfl).2
  have hN' : Hid (N = bs.length) := hN
  have hM' : Hid (M = cs.length) := hM
  clear D hR hN hM
  by_cases h0 : n = 0
  · subst h0
    go_enter Tryz.func24, Tryz.ntmps24
    go_wp2_with fail
    go_ret
    exact ⟨_, rfl, by unfold secB; rw [if_pos rfl, List.append_nil]; exact D'.out, Below.refl _ _⟩
  · have h0' : ¬ (n : Int) = 0 := by omega
    have hu : IntKind.u8.wrap id = (c.toNat : Int) := by
      rw [hid]
      have := c.toNat_lt
      rw [IntKind.wrap_u8]
      omega
    have hU := uv_len (n : Int)
    have hP : uv (n : Int) ≠ [] := fun e => by have := uv_pos (n : Int); rw [e] at this; exact absurd this (by decide)
    have hu2 : (c.toNat : Int) % 256 = (c.toNat : Int) := by have := c.toNat_lt; omega
    have hsec : Hid (bs ++ secB c n cs = bs ++ [c] ++ uv ((uv (n : Int) ++ cs).length : Int) ++ (uv (n : Int) ++ cs)) := by
      show _ = _
      unfold secB
      rw [if_neg h0]
      simp [List.append_assoc]
    have k0 : Hid (∀ u, Calls Tryz.prog 76 #[.slice none 0 0, .int .i64 (n : Int)] u fun e w' => ∃ v, e = .returned v ∧ PutU.Own u.heap.size w' v (uv (n : Int)) ∧ Below u.heap.size u w') := fun u => spec_putU0 u n
    have k1 : Hid (∀ (u : World) (ad : Addr) (N cp : Nat) (bs' : List UInt8) (x : Int), N = bs'.length → RdB u (some ad) bs' → bs'.length ≤ 67108864 → Calls Tryz.prog 76 #[.slice (some ad) N cp, .int .i64 x] u fun e w' => ∃ v, e = .returned v ∧ PutU.Own u.heap.size w' v (bs' ++ uv x) ∧ Below u.heap.size u w') := fun u ad N cp bs' x h1 h2 h3 => by rw [h1]; exact spec_putU u ad cp bs' x h2 h3
    generalize uv (n : Int) = un at *
    go_enter Tryz.func24, Tryz.ntmps24
    go_wp2_with (first | (go_at_call 76; refine (k0.out _).mono ?_; rintro e w1 ⟨v1, rfl, o1, q1⟩; clear k0; obtain ⟨g1, cp1, N1, rfl, hN1, _⟩ := blk_n o1 hP; have O1 : Hid (PutU.Own w.heap.size w1 (.slice (some ⟨g1, 0, none⟩) N1 cp1) un) := o1; clear o1) | (at_builtin; refine wp_appB rfl _ _ rfl O1.out q1.size ad cs _ M hM'.out (R'.out.later q1) (fun e => hP (List.append_eq_nil_iff.1 e).1) (by omega) rfl rfl ?_; intro g2 cp2 N2 w2 hN2 o2 q2; have hg1 := (World.ownsRow.lt O1.out g1 rfl).1; have O2 : Hid (PutU.Own w.heap.size w2 (.slice (some ⟨g2, 0, none⟩) N2 cp2) (un ++ cs)) := o2; have G2 : Hid (w1.grownBy w2 (some g1)) := q2; have H2 : Hid (N2 = (un ++ cs).length) := hN2; have D2 : Hid (PutU.Own B w2 (.slice (some ⟨g, 0, none⟩) N cap) bs) := own_other (own_below D'.out q1) q2 (.inl (by show some g ≠ some g1; simp; omega)); have S2 : Hid (w.heap.size ≤ w2.heap.size) := Nat.le_trans q1.size q2.size; have L2 : Hid (w.heap.size ≤ g2) := (World.ownsRow.lt o2 g2 rfl).1; have B2 : Hid (Below B w w2) := (q1.mono hB).trans ((Below.refl B w1).grown q2 (Nat.le_trans hB q1.size) (fun k hk => Nat.le_trans hB (World.ownsRow.lt O1.out k hk).1)); clear o2 q2 hN2 O1) | (at_builtin; refine wp_app1 rfl _ _ rfl D2.out (Nat.le_trans hB S2.out) c (by omega) rfl _ _ (by simp) rfl ?_; intro g3 cp3 N3 w3 hN3 o3 q3; have O3 : Hid (PutU.Own B w3 (.slice (some ⟨g3, 0, none⟩) N3 cp3) (bs ++ [c])) := o3; have H3 : Hid (N3 = (bs ++ [c]).length) := hN3; have R3 : Hid (RdB w3 (some ⟨g2, 0, none⟩) (un ++ cs)) := grown_rd ((own_rd' H2.out O2.out).later ((Below.refl _ _).alloc (Nat.le_refl _) _)) q3 (fun p hp => by cases hp; show some g2 ≠ some g; have := L2.out; simp; omega); have B3 : Hid (Below B w w3) := B2.out.trans (sbel1 D2.out (Nat.le_trans hB S2.out) q3); clear D2 o3 q3 hN3) | (go_at_call 76; refine (k1.out _ _ _ _ (bs ++ [c]) _ H3.out (own_rd' H3.out O3.out) (by simp; omega)).mono ?_; rintro e w4 ⟨v4, rfl, o4, q4⟩; clear k1; obtain ⟨g4, cp4, N4, rfl, hN4, _⟩ := blk_n o4 (by simp); have O4 : Hid (PutU.Own w3.heap.size w4 (.slice (some ⟨g4, 0, none⟩) N4 cp4) (bs ++ [c] ++ uv (N2 : Int))) := o4; have B4 : Hid (Below B w w4) := B3.out.trans (q4.mono (Nat.le_trans hB (Below.size B3.out))); clear o4) | (at_builtin; refine wp_appB rfl _ _ rfl O4.out q4.size ⟨g2, 0, none⟩ (un ++ cs) _ N2 H2.out (R3.out.later q4) (by simp) (by have := uv_len (N2 : Int); simp; omega) rfl rfl ?_; intro g5 cp5 N5 w5 hN5 o5 q5; have O5 : Hid (PutU.Own w3.heap.size w5 (.slice (some ⟨g5, 0, none⟩) N5 cp5) (bs ++ [c] ++ uv (N2 : Int) ++ (un ++ cs))) := o5; have B5 : Hid (Below B w w5) := B4.out.trans ((Below.refl B w4).grown q5 (Nat.le_trans hB (Below.size B4.out)) (fun k hk => by have := (World.ownsRow.lt O4.out k hk).1; have := Below.size B3.out; omega)); clear O4 o5 q5 hN5))
    go_ret
    refine ⟨_, rfl, ?_, B5.out⟩
    rw [hsec.out, ← H2.out]
    exact own_mono O5.out (Nat.le_trans hB (Below.size B3.out))
end Go.Proofs.YtffngjgjhialnaaGreatDoor.SpecSec
namespace Go.Proofs.YtffngjgjhialnaaGreatDoor.SpecParts
open Go.RowKit PlainNum PlainLeb NumCalls ByteMem PutU PutULaw PlainBytes PlainShape InsMem SpecIns WrMod WrParts WrSec SpecSec ModMem

theorem putU_n (u : World) (ad : Addr) (N cp : Nat) (bs : List UInt8) (x : Int) (h1 : N = bs.length) (h2 : RdB u (some ad) bs) (h3 : bs.length ≤ 67108864) :
    Calls Tryz.prog 76 #[.slice (some ad) N cp, .int .i64 x] u fun e w' => ∃ v, e = .returned v ∧ PutU.Own u.heap.size w' v (bs ++ uv x) ∧ Below u.heap.size u w' := by
  rw [h1]
  exact spec_putU u ad cp bs x h2 h3
theorem putS_n (u : World) (ad : Addr) (N cp : Nat) (bs : List UInt8) (x : Int) (h1 : N = bs.length) (h2 : RdB u (some ad) bs) (h3 : bs.length ≤ 67108864) :
    Calls Tryz.prog 79 #[.slice (some ad) N cp, .int .i64 x] u fun e w' => ∃ v, e = .returned v ∧ PutU.Own u.heap.size w' v (bs ++ sv x) ∧ Below u.heap.size u w' := by
  rw [h1]
  exact PutS.spec_putS u ad cp bs x h2 h3
theorem rd_new (w : World) (bs : List UInt8) (cs : Array Value) (h : cs.toList = Lib.byteCells bs) (hl : bs.length ≤ 134217728) : RdB (w.alloc (.cells cs 5)) (some ⟨w.heap.size, 0, none⟩) bs := own_rd (own_new w bs cs h hl)
set_option maxRecDepth 20000 in
set_option maxHeartbeats 2000000 in
theorem spec_memory (w : World) (xa0 xa1 xa2 xa5 xa6 xa7 : Option Addr) (xn0 xc0 xn1 xc1 xn2 xc2 xn5 xc5 xn6 xc6 xn7 xc7 : Nat) (pg mo : Int) (hm : -1 ≤ mo) :
    Calls Tryz.prog 28 #[.agg #[.slice xa0 xn0 xc0, .slice xa1 xn1 xc1, .slice xa2 xn2 xc2, .int .i64 pg, .int .i64 mo, .slice xa5 xn5 xc5, .slice xa6 xn6 xc6, .slice xa7 xn7 xc7]] w fun e w' => ∃ v, e = .returned v ∧ PutU.Own w.heap.size w' v (memB pg mo) ∧ Below w.heap.size w w' := by
  have k1 : Hid (∀ (u : World) (ad : Addr) (N cp : Nat) (bs' : List UInt8) (x : Int), N = bs'.length → RdB u (some ad) bs' → bs'.length ≤ 67108864 → Calls Tryz.prog 76 #[.slice (some ad) N cp, .int .i64 x] u fun e w' => ∃ v, e = .returned v ∧ PutU.Own u.heap.size w' v (bs' ++ uv x) ∧ Below u.heap.size u w') := putU_n
  have bx : Hid (Below w.heap.size w (w.alloc (.cells #[.slice xa0 xn0 xc0, .slice xa1 xn1 xc1, .slice xa2 xn2 xc2, .int .i64 pg, .int .i64 mo, .slice xa5 xn5 xc5, .slice xa6 xn6 xc6, .slice xa7 xn7 xc7] 41))) := (Below.refl _ _).alloc (Nat.le_refl _) _
  have X0 : Hid ((w.alloc (.cells #[.slice xa0 xn0 xc0, .slice xa1 xn1 xc1, .slice xa2 xn2 xc2, .int .i64 pg, .int .i64 mo, .slice xa5 xn5 xc5, .slice xa6 xn6 xc6, .slice xa7 xn7 xc7] 41)).rowIs w.heap.size 41 8 (R8 (.slice xa0 xn0 xc0) (.slice xa1 xn1 xc1) (.slice xa2 xn2 xc2) (.int .i64 pg) (.int .i64 mo) (.slice xa5 xn5 xc5) (.slice xa6 xn6 xc6) (.slice xa7 xn7 xc7))) := r8_made w _ _ _ _ _ _ _ _ _
  generalize hW : w.alloc (.cells #[.slice xa0 xn0 xc0, .slice xa1 xn1 xc1, .slice xa2 xn2 xc2, .int .i64 pg, .int .i64 mo, .slice xa5 xn5 xc5, .slice xa6 xn6 xc6, .slice xa7 xn7 xc7] 41) = W at bx X0
  have hS : W.heap.size = w.heap.size + 1 := by rw [← hW]; simp
  by_cases h0 : mo < 0
  · have e0 : Hid (memB pg mo = [0] ++ uv pg) := if_pos (by omega)
    have hR : Hid (RdB (W.alloc (.cells #[.int .u8 0] 5)) (some ⟨w.heap.size + 1, 0, none⟩) [0]) := by
      have := rd_new W [0] #[.int .u8 0] rfl (by decide)
      rw [hS] at this
      exact this
    have B0 : Hid (Below w.heap.size w (W.alloc (.cells #[.int .u8 0] 5))) := bx.out.trans (((Below.refl _ _).alloc (Nat.le_refl _) (.cells #[.int .u8 0] 5)).mono bx.out.size)
    subst hW
    clear hS
    go_enter Tryz.func28, Tryz.ntmps28
    go_wp2_with (go_at_call 76; refine (k1.out _ _ _ _ [0] _ rfl hR.out (by decide)).mono ?_; rintro e w1 ⟨v1, rfl, o1, q1⟩; clear k1; have O1 : Hid _ := o1; clear o1)
    go_ret
    exact ⟨_, rfl, by rw [e0.out]; exact own_mono O1.out B0.out.size, B0.out.trans (q1.mono B0.out.size)⟩
  · have e0 : Hid (memB pg mo = [1] ++ uv pg ++ uv mo) := by show _ = _; unfold memB; rw [if_neg (by omega)]; simp
    have hR : Hid (RdB (W.drew.alloc (.cells #[.int .u8 1] 5)) (some ⟨w.heap.size + 1, 0, none⟩) [1]) := by
      have := rd_new W.drew [1] #[.int .u8 1] rfl (by decide)
      rw [show W.drew.heap.size = w.heap.size + 1 from hS] at this
      exact this
    have B0 : Hid (Below w.heap.size w (W.drew.alloc (.cells #[.int .u8 1] 5))) := (bx.out.trans ((Below.refl _ _).drew.mono bx.out.size)).trans (((Below.refl _ _).alloc (Nat.le_refl _) (.cells #[.int .u8 1] 5)).mono bx.out.size)
    have X1 : Hid ((W.drew.alloc (.cells #[.int .u8 1] 5)).rowIs w.heap.size 41 8 (R8 (.slice xa0 xn0 xc0) (.slice xa1 xn1 xc1) (.slice xa2 xn2 xc2) (.int .i64 pg) (.int .i64 mo) (.slice xa5 xn5 xc5) (.slice xa6 xn6 xc6) (.slice xa7 xn7 xc7))) := row_later (row_later X0.out (Below.refl _ _).drew) ((Below.refl _ _).alloc (Nat.le_refl _) _)
    subst hW
    clear hS
    have k2 := k1
    go_enter Tryz.func28, Tryz.ntmps28
    go_wp2_with fail
    go_region_held3 (fun w' => w'.cell? ⟨w.heap.size, 3, none⟩ = some (.int .i64 pg) ∧ w'.cell? ⟨w.heap.size, 4, none⟩ = some (.int .i64 mo)) (go_keep)
      ((first | (go_at_call 76; refine (k1.out _ _ _ _ [1] _ rfl hR.out (by decide)).mono ?_; rintro e w1 ⟨v1, rfl, o1, q1⟩; clear k1; obtain ⟨g1, cp1, N1, rfl, hN1, _⟩ := blk_n o1 (by simp); have O1 : Hid (PutU.Own _ w1 (.slice (some ⟨g1, 0, none⟩) N1 cp1) ([1] ++ uv pg)) := o1; clear o1; obtain ⟨_, _, _, _, _, _, _, _⟩ := r8 (row_later X1.out q1)) | (go_at_call 76; refine (k2.out _ _ _ _ ([1] ++ uv pg) _ hN1.out (own_rd' hN1.out O1.out) (by have := uv_len pg; simp; omega)).mono ?_; rintro e w2 ⟨v2, rfl, o2, q2⟩; clear k2; have O2 : Hid _ := o2; clear o2; obtain ⟨_, _, _, _, _, _, _, _⟩ := r8 (row_later (row_later X1.out q1) q2))))
    go_wp2_with fail
    go_ret
    have B1 := B0.out.trans (q1.mono B0.out.size)
    exact ⟨_, rfl, by rw [e0.out]; exact own_mono O2.out B1.size, B1.trans (q2.mono B1.size)⟩
theorem putName_n (u : World) (ad : Addr) (N cp : Nat) (bs : List UInt8) (x : ByteArray) (h1 : N = bs.length) (h2 : RdB u (some ad) bs) (h3 : bs.length ≤ 1048576) (h4 : x.size ≤ 1048576) :
    Calls Tryz.prog 78 #[.slice (some ad) N cp, .string x] u fun e w' => ∃ v, e = .returned v ∧ PutU.Own u.heap.size w' v (bs ++ nmB x) ∧ Below u.heap.size u w' := by
  rw [h1, ← nmB_is x h4, ← List.append_assoc]
  exact PutName.spec_putName u ad cp bs x h2 h3 h4
theorem nmB_ne (x : ByteArray) : nmB x ≠ [] := fun e => by
  have := uv_pos (x.size : Int)
  unfold nmB at e
  rw [(List.append_eq_nil_iff.1 e).1] at this
  exact absurd this (by decide)
/-- Bytes that can be read are appended to bytes of one's own, in a region that draws its order. -/
theorem step_appB {ops : Array Oper} {o : Oper} {a : Act} {K : Act → World → Prop} {Q : Exit → Act → World → Prop} {E : Prop} {B : Nat} {w : World} {v : Value} {bs : List UInt8} (hg : o.guard = none) (s x : Operand)
    (ho : o.op = .call { callee := .builtin .append, args := #[s, x], argTypes := #[31, 31] }) (D : PutU.Own B w v bs) (hB : B ≤ w.heap.size) (ad : Addr) (cs : List UInt8) (c M : Nat) (hM : M = cs.length) (hR : RdB w (some ad) cs) (hne : cs ≠ []) (hl : bs.length + cs.length ≤ 134217728) (hs : a.eval s = v)
    (hx : a.eval x = .slice (some ad) M c)
    (h : ∀ g' cap' N w', N = (bs ++ cs).length → PutU.Own B w' (.slice (some ⟨g', 0, none⟩) N cap') (bs ++ cs) → w.grownBy w' v.ownBlock → K (a.put o.dst (.slice (some ⟨g', 0, none⟩) N cap')) w') :
    if Region.wanted o (yielded ops a.tmps) = true then Oper.wp Tryz.prog o a w K Q else E := by
  obtain ⟨i0, hi, hz0, hz1, hz2⟩ := info_parts info5
  subst hM
  have hp : 0 < cs.length := List.length_pos_iff.2 hne
  refine step_append_lies _ hg s x 31 ho B 5 i0 (.int .u8 0) 1 1 Tryz.underlying31 hi hz0 hz1 hz2 rfl (by decide) v bs.length (Lib.byteCells bs) hs D ad cs.length c (Lib.byteCells cs) hx (by rw [Lib.byteCells_length, Nat.mul_one]) (news_of hR) (Lib.byteCells_one cs) hp (by unfold maxLen; omega) (by omega) hB _ rfl ?_
  intro g' cap' w' hown hgrow _ _
  refine h g' cap' _ w' List.length_append.symm ?_ hgrow
  unfold PutU.Own
  rw [List.length_append, Lib.byteCells_append]
  exact hown
theorem step_appE {ops : Array Oper} {o : Oper} {a : Act} {K : Act → World → Prop} {Q : Exit → Act → World → Prop} {E : Prop} {B : Nat} {w : World} {v : Value} {bs : List UInt8} (hg : o.guard = none) (s x : Operand)
    (ho : o.op = .call { callee := .builtin .append, args := #[s, x], argTypes := #[31, 31] }) (D : PutU.Own B w v bs) (hB : B ≤ w.heap.size) (ad : Addr) (cs : List UInt8) (c M : Nat) (hM : M = cs.length) (hR : RdB w (some ad) cs) (hne : bs ++ cs ≠ []) (hl : bs.length + cs.length ≤ 134217728) (hs : a.eval s = v)
    (hx : a.eval x = .slice (some ad) M c)
    (h : ∀ g' cap' N w', N = (bs ++ cs).length → PutU.Own B w' (.slice (some ⟨g', 0, none⟩) N cap') (bs ++ cs) → w.grownBy w' v.ownBlock → K (a.put o.dst (.slice (some ⟨g', 0, none⟩) N cap')) w') :
    if Region.wanted o (yielded ops a.tmps) = true then Oper.wp Tryz.prog o a w K Q else E := by
  obtain ⟨i0, hi, hz0, hz1, hz2⟩ := info_parts info5
  subst hM
  rw [if_pos (by simp [Region.wanted, hg])]
  refine wp_append_own w s x 31 ho B 5 i0 (.int .u8 0) 1 1 Tryz.underlying31 hi hz0 hz1 hz2 rfl (by decide) v bs.length (Lib.byteCells bs) hs D ad cs.length c (Lib.byteCells cs) hx (by rw [Lib.byteCells_length, Nat.mul_one]) (news_of hR) (Lib.byteCells_one cs) (by unfold maxLen; omega) (by omega) hB ?_
  intro v' w' hown hgrow _
  have ho' : PutU.Own B w' v' (bs ++ cs) := by
    unfold PutU.Own
    rw [List.length_append, Lib.byteCells_append]
    exact hown
  obtain ⟨g', cap', hv, _, _⟩ := own_blk ho' hne
  subst hv
  exact h g' cap' _ w' rfl ho' hgrow
/-- A box of three cells. -/
def Box3 (w : World) (b : Nat) (x y z : Value) : Prop := w.cell? ⟨b, 0, none⟩ = some x ∧ w.cell? ⟨b, 1, none⟩ = some y ∧ w.cell? ⟨b, 2, none⟩ = some z
theorem Box3.later {w w' : World} {b : Nat} {x y z : Value} (h : Box3 w b x y z) (hb : Below w.heap.size w w') : Box3 w' b x y z := box3 hb h.1 h.2.1 h.2.2
theorem Box3.grown {w w' : World} {b : Nat} {x y z : Value} {row : Option Nat} (h : Box3 w b x y z) (hg : w.grownBy w' row) (hne : some b ≠ row) : Box3 w' b x y z := ⟨hg.cell h.1 hne, hg.cell h.2.1 hne, hg.cell h.2.2 hne⟩
theorem app_keep {B : Nat} {w0 u w' : World} {row : Option Nat} {b : Nat} {x y z : Value} (q : u.grownBy w' row) (ne : some b ≠ row) (lb : ∀ k, row = some k → B ≤ k) (hx : Box3 u b x y z) (hb : Below B w0 u) (hB : B ≤ w0.heap.size) : Box3 w' b x y z ∧ Below B w0 w' :=
  ⟨hx.grown q ne, hb.trans ((Below.refl B u).grown q (Nat.le_trans hB hb.size) lb)⟩
theorem rd_at (w : World) (b : Nat) (bs : List UInt8) (cs : Array Value) (hb : b = w.heap.size) (h : cs.toList = Lib.byteCells bs) (hl : bs.length ≤ 134217728) : RdB (w.alloc (.cells cs 5)) (some ⟨b, 0, none⟩) bs := by
  subst hb
  exact rd_new w bs cs h hl
theorem al (w : World) (o : Obj) : Below w.heap.size w (w.alloc o) := (Below.refl _ _).alloc (Nat.le_refl _) _
end Go.Proofs.YtffngjgjhialnaaGreatDoor.SpecParts
namespace Go.Proofs.YtffngjgjhialnaaGreatDoor.SpecImps
open Go.RowKit PlainNum PlainLeb NumCalls ByteMem PutU PutULaw PlainBytes PlainShape InsMem SpecIns WrMod WrParts WrSec SpecSec SpecParts
set_option maxRecDepth 20000 in
set_option maxHeartbeats 4000000 in
theorem spec_imports (w : World) (a : Option Addr) (cap : Nat) (l : List MemImport.E) (h : MemImport.Rd w a l) (hn : l.length ≤ 1000) (hz : ∀ k, k < l.length → (MemImport.f0At l k).size ≤ 100 ∧ (MemImport.f1At l k).size ≤ 100) :
    Calls Tryz.prog 27 #[.slice a l.length cap] w fun e w' => ∃ g N cp, e = .returned (.slice (some ⟨g, 0, none⟩) N cp) ∧ N = (catP (fun k => impB (MemImport.f0At l k) (MemImport.f1At l k) (MemImport.f2At l k)) l.length).length ∧ PutU.Own w.heap.size w' (.slice (some ⟨g, 0, none⟩) N cp) (catP (fun k => impB (MemImport.f0At l k) (MemImport.f1At l k) (MemImport.f2At l k)) l.length) ∧ Below w.heap.size w w' := by
  have h' : Hid (MemImport.Rd w a l) := h
  have hz' : Hid (∀ k, k < l.length → (MemImport.f0At l k).size ≤ 100 ∧ (MemImport.f1At l k).size ≤ 100) := hz
  have hL : Hid (∀ k, k ≤ l.length → (catP (fun k => impB (MemImport.f0At l k) (MemImport.f1At l k) (MemImport.f2At l k)) k).length ≤ k * 300) := fun k hk => ModB.catP_len k (fun j hj => by
    obtain ⟨x, y⟩ := hz j (by omega)
    have e1 := nmB_len (MemImport.f0At l j)
    have e2 := nmB_len (MemImport.f1At l j)
    have e3 := uv_len (MemImport.f2At l j)
    unfold impB
    simp
    omega)
  generalize hF : (fun k => impB (MemImport.f0At l k) (MemImport.f1At l k) (MemImport.f2At l k)) = F at *
  have hF' : Hid (∀ k, F k = impB (MemImport.f0At l k) (MemImport.f1At l k) (MemImport.f2At l k)) := fun k => by rw [← hF]
  clear h hz hF
  go_enter Tryz.func27, Tryz.ntmps27
  go_wp2_with fail
  go_loopw [3, 9] (fun vb vk wr => ∃ (k g N cp : Nat), k ≤ l.length ∧ vk = .int .i64 k ∧ vb = .slice (some ⟨g, 0, none⟩) N cp ∧ N = (catP F k).length ∧ PutU.Own w.heap.size wr (.slice (some ⟨g, 0, none⟩) N cp) (catP F k) ∧ Below w.heap.size w wr) (fun _ vk _ => l.length - (intOf vk).toNat)
  case atStart => exact ⟨0, w.heap.size, 0, 0, Nat.zero_le _, rfl, rfl, rfl, World.ownsRow_made w #[] 0 (Nat.le_refl _) (by decide) rfl, al w _⟩
  case round =>
    obtain ⟨k, g, N, cp, hk, rfl, rfl, hN, hO, hbel⟩ := hrel
    have hO' : Hid (PutU.Own w.heap.size wr (.slice (some ⟨g, 0, none⟩) N cp) (catP F k)) := hO
    have hN' : Hid (N = (catP F k).length) := hN
    have hbel' : Hid (Below w.heap.size w wr) := hbel
    clear hN hO
    by_cases hlt : k < l.length
    · have hlt' : (k : Int) < (l.length : Int) := by omega
      rcases h'.out.later hbel with h0 | ⟨b, off, ha, hc⟩
      · omega
      · obtain ⟨c0, c1, c2⟩ := hc k hlt
        subst ha
        have e1 : Hid (catP F (k + 1) = catP F k ++ nmB (MemImport.f0At l k) ++ nmB (MemImport.f1At l k) ++ [0] ++ uv (MemImport.f2At l k)) := by
          show _ = _
          rw [catP, hF'.out]
          unfold impB
          simp [List.append_assoc]
        obtain ⟨hz0, hz1⟩ := hz'.out k hlt
        have hlk := hL.out k hk
        clear hc hbel
        generalize MemImport.f0At l k = mn at *
        generalize MemImport.f1At l k = nn at *
        generalize MemImport.f2At l k = sg at *
        have z1 := nmB_len mn
        have z2 := nmB_len nn
        generalize catP F k = bs at *
        have kA : Hid (∀ u, RdB u (some ⟨g, 0, none⟩) bs → Calls Tryz.prog 78 #[.slice (some ⟨g, 0, none⟩) N cp, .string mn] u fun e w' => ∃ v, e = .returned v ∧ PutU.Own u.heap.size w' v (bs ++ nmB mn) ∧ Below u.heap.size u w') := fun u hr => putName_n u _ N cp bs mn hN'.out hr (by omega) (by omega)
        have kB : Hid (∀ (u : World) (ad : Addr) (N cp : Nat), N = (bs ++ nmB mn).length → RdB u (some ad) (bs ++ nmB mn) → Calls Tryz.prog 78 #[.slice (some ad) N cp, .string nn] u fun e w' => ∃ v, e = .returned v ∧ PutU.Own u.heap.size w' v (bs ++ nmB mn ++ nmB nn) ∧ Below u.heap.size u w') := fun u ad N cp h1 hr => putName_n u ad N cp _ nn h1 hr (by simp; omega) (by omega)
        have kC : Hid (∀ (u : World) (ad : Addr) (N cp : Nat), N = (bs ++ nmB mn ++ nmB nn ++ [0]).length → RdB u (some ad) (bs ++ nmB mn ++ nmB nn ++ [0]) → Calls Tryz.prog 76 #[.slice (some ad) N cp, .int .i64 sg] u fun e w' => ∃ v, e = .returned v ∧ PutU.Own u.heap.size w' v (bs ++ nmB mn ++ nmB nn ++ [0] ++ uv sg) ∧ Below u.heap.size u w') := fun u ad N cp h1 hr => putU_n u ad N cp _ sg h1 hr (by simp; omega)
        have hb1 : Hid (bs ++ nmB mn ≠ []) := fun e => nmB_ne mn (List.append_eq_nil_iff.1 e).2
        have hb2 : Hid (bs ++ nmB mn ++ nmB nn ≠ []) := fun e => nmB_ne nn (List.append_eq_nil_iff.1 e).2
        have hl2 : Hid ((bs ++ nmB mn ++ nmB nn).length + [0].length ≤ 134217728) := by show _ ≤ _; simp; omega
        have BU : Hid (Below w.heap.size w (wr.alloc (.cells #[.string mn, .string nn, .int .i64 sg] 82)).drew) := (hbel'.out.alloc hbel'.out.size _).drew
        have R0 : Hid (RdB (wr.alloc (.cells #[.string mn, .string nn, .int .i64 sg] 82)).drew (some ⟨g, 0, none⟩) bs) := ((own_rd' hN'.out hO'.out).later (al wr _)).later (Below.refl _ _).drew
        have X0 : Hid (Box3 (wr.alloc (.cells #[.string mn, .string nn, .int .i64 sg] 82)).drew wr.heap.size (.string mn) (.string nn) (.int .i64 sg)) := ⟨by simp, by simp, by simp⟩
        go_wp2_with fail
        go_region_held3 (fun w' => w'.cell? ⟨wr.heap.size, 0, none⟩ = some (.string mn) ∧ w'.cell? ⟨wr.heap.size, 1, none⟩ = some (.string nn) ∧ w'.cell? ⟨wr.heap.size, 2, none⟩ = some (.int .i64 sg)) (go_keep)
          ((first
            | (go_at_call 78; refine (kA.out _ (by first | exact R0.out | exact R0.out.later (al _ _))).mono ?_; rintro e w1 ⟨v1, rfl, o1, q1⟩; clear kA; obtain ⟨g1, cp1, N1, rfl, hN1, _⟩ := blk_n o1 hb1.out; have O1 : Hid (PutU.Own _ w1 (.slice (some ⟨g1, 0, none⟩) N1 cp1) (bs ++ nmB mn)) := o1; clear o1; (first | (have X1 : Hid (Box3 w1 wr.heap.size (.string mn) (.string nn) (.int .i64 sg)) := X0.out.later q1; have B1 : Hid (Below w.heap.size w w1) := BU.out.trans (q1.mono BU.out.size)) | (have X1 : Hid (Box3 w1 wr.heap.size (.string mn) (.string nn) (.int .i64 sg)) := (X0.out.later (al _ _)).later q1; have B1 : Hid (Below w.heap.size w w1) := (BU.out.trans ((al _ _).mono BU.out.size)).trans (q1.mono (BU.out.trans ((al _ _).mono BU.out.size)).size))); obtain ⟨_, _, _⟩ := X1.out)
            | (go_at_call 78; refine (kB.out _ _ _ _ hN1.out (by first | exact own_rd' hN1.out O1.out | exact (own_rd' hN1.out O1.out).later (al _ _))).mono ?_; rintro e w2 ⟨v2, rfl, o2, q2⟩; clear kB; obtain ⟨g2, cp2, N2, rfl, hN2, _⟩ := blk_n o2 hb2.out; have O2 : Hid (PutU.Own _ w2 (.slice (some ⟨g2, 0, none⟩) N2 cp2) (bs ++ nmB mn ++ nmB nn)) := o2; clear o2; (first | (have X2 : Hid (Box3 w2 wr.heap.size (.string mn) (.string nn) (.int .i64 sg)) := X1.out.later q2; have B2 : Hid (Below w.heap.size w w2) := B1.out.trans (q2.mono B1.out.size)) | (have X2 : Hid (Box3 w2 wr.heap.size (.string mn) (.string nn) (.int .i64 sg)) := (X1.out.later (al _ _)).later q2; have B2 : Hid (Below w.heap.size w w2) := (B1.out.trans ((al _ _).mono B1.out.size)).trans (q2.mono (B1.out.trans ((al _ _).mono B1.out.size)).size))); obtain ⟨_, _, _⟩ := X2.out)
            | (refine step_appB (bs := bs ++ nmB mn ++ nmB nn) rfl _ _ rfl (by first | exact O2.out | exact World.ownsRow.alloc O2.out _) (by first | exact q2.size | exact Nat.le_trans q2.size (al _ _).size) _ [0] _ _ rfl (by first | exact rd_at _ _ [0] #[.int .u8 0] (by simp) rfl (by decide) | exact (rd_at _ _ [0] #[.int .u8 0] (by simp) rfl (by decide)).later q2 | exact (((rd_at (wr.alloc (.cells #[.string mn, .string nn, .int .i64 sg] 82)) _ [0] #[.int .u8 0] (by simp) rfl (by decide)).later (Below.refl _ _).drew).later q1).later q2 | exact ((rd_at (wr.alloc (.cells #[.string mn, .string nn, .int .i64 sg] 82)).drew _ [0] #[.int .u8 0] (by simp) rfl (by decide)).later q1).later q2) (by simp) hl2.out rfl rfl ?_; intro g3 cp3 N3 w3 hN3 o3 q3; have O3 : Hid (PutU.Own _ w3 (.slice (some ⟨g3, 0, none⟩) N3 cp3) (bs ++ nmB mn ++ nmB nn ++ [0])) := o3; have H3 : Hid (N3 = (bs ++ nmB mn ++ nmB nn ++ [0]).length) := hN3; have L3 : Hid (w1.heap.size ≤ g2) := (by have := (World.ownsRow.lt O2.out g2 rfl).1; first | exact this | exact Nat.le_trans (al _ _).size this); have M3 : Hid (wr.heap.size < w1.heap.size) := World.block_lt_of_cell? w1 _ X1.out.1; have NE : Hid (some wr.heap.size ≠ (Value.slice (some ⟨g2, 0, none⟩) N2 cp2).ownBlock) := (by show some wr.heap.size ≠ some g2; have := L3.out; have := M3.out; simp; omega); have LB : Hid (∀ k, (Value.slice (some ⟨g2, 0, none⟩) N2 cp2).ownBlock = some k → w.heap.size ≤ k) := (fun k hk => by have : g2 = k := (by simpa [Value.ownBlock] using hk); have := L3.out; have := B1.out.size; omega); have XB : Hid (Box3 w3 wr.heap.size (.string mn) (.string nn) (.int .i64 sg) ∧ Below w.heap.size w w3) := (by first | exact app_keep q3 NE.out LB.out X2.out B2.out (Nat.le_refl _) | exact app_keep q3 NE.out LB.out (X2.out.later (al _ _)) (B2.out.trans ((al _ _).mono B2.out.size)) (Nat.le_refl _)); have X3 : Hid (Box3 w3 wr.heap.size (.string mn) (.string nn) (.int .i64 sg)) := XB.out.1; have B3 : Hid (Below w.heap.size w w3) := XB.out.2; clear XB; clear o3 hN3 q3 L3 M3 NE LB; obtain ⟨_, _, _⟩ := X3.out)
            | (go_at_call 76; refine (kC.out _ _ _ _ H3.out (own_rd' H3.out O3.out)).mono ?_; rintro e w4 ⟨v4, rfl, o4, q4⟩; clear kC; obtain ⟨g4, cp4, N4, rfl, hN4, _⟩ := blk_n o4 (by simp); have O4 : Hid (PutU.Own w3.heap.size w4 (.slice (some ⟨g4, 0, none⟩) N4 cp4) (bs ++ nmB mn ++ nmB nn ++ [0] ++ uv sg)) := o4; clear o4; have B4 : Hid (Below w.heap.size w w4) := B3.out.trans (q4.mono B3.out.size); obtain ⟨_, _, _⟩ := X3.out.later q4)))
        all_goals
          go_wp2_with fail
          go_roundw
          case rel => exact ⟨k + 1, g4, N4, cp4, by omega, by go_num, rfl, by rw [e1.out]; exact hN4.out, by rw [e1.out]; exact own_mono O4.out B3.out.size, B4.out⟩
          case measure => simp [intOf]; omega
    · obtain rfl : k = l.length := by omega
      clear hbel
      go_wp2_with fail
      go_ret
      exact ⟨g, N, cp, rfl, hN'.out, hO'.out, hbel'.out⟩
end Go.Proofs.YtffngjgjhialnaaGreatDoor.SpecImps
namespace Go.Proofs.YtffngjgjhialnaaGreatDoor.SpecExps
open Go.RowKit PlainNum PlainLeb NumCalls ByteMem PutU PutULaw PlainBytes PlainShape InsMem SpecIns WrMod WrParts WrSec SpecSec SpecParts
set_option maxRecDepth 20000 in
set_option maxHeartbeats 4000000 in
theorem spec_exports (w : World) (a : Option Addr) (cap : Nat) (l : List MemExport.E) (h : MemExport.Rd w a l) (hn : l.length ≤ 1000) (hz : ∀ k, k < l.length → (MemExport.f0At l k).size ≤ 100) :
    Calls Tryz.prog 30 #[.slice a l.length cap] w fun e w' => ∃ g N cp, e = .returned (.slice (some ⟨g, 0, none⟩) N cp) ∧ N = (catP (fun k => exB (MemExport.f0At l k) (MemExport.f1At l k) (MemExport.f2At l k)) l.length).length ∧ PutU.Own w.heap.size w' (.slice (some ⟨g, 0, none⟩) N cp) (catP (fun k => exB (MemExport.f0At l k) (MemExport.f1At l k) (MemExport.f2At l k)) l.length) ∧ Below w.heap.size w w' := by
  have h' : Hid (MemExport.Rd w a l) := h
  have hz' : Hid (∀ k, k < l.length → (MemExport.f0At l k).size ≤ 100) := hz
  have hL : Hid (∀ k, k ≤ l.length → (catP (fun k => exB (MemExport.f0At l k) (MemExport.f1At l k) (MemExport.f2At l k)) k).length ≤ k * 300) := fun k hk => ModB.catP_len k (fun j hj => by
    have x := hz j (by omega)
    have e1 := nmB_len (MemExport.f0At l j)
    have e3 := uv_len (MemExport.f2At l j)
    unfold exB
    simp
    omega)
  generalize hF : (fun k => exB (MemExport.f0At l k) (MemExport.f1At l k) (MemExport.f2At l k)) = F at *
  have hF' : Hid (∀ k, F k = exB (MemExport.f0At l k) (MemExport.f1At l k) (MemExport.f2At l k)) := fun k => by rw [← hF]
  clear h hz hF
  go_enter Tryz.func30, Tryz.ntmps30
  go_wp2_with fail
  go_loopw [3, 9] (fun vb vk wr => ∃ (k g N cp : Nat), k ≤ l.length ∧ vk = .int .i64 k ∧ vb = .slice (some ⟨g, 0, none⟩) N cp ∧ N = (catP F k).length ∧ PutU.Own w.heap.size wr (.slice (some ⟨g, 0, none⟩) N cp) (catP F k) ∧ Below w.heap.size w wr) (fun _ vk _ => l.length - (intOf vk).toNat)
  case atStart => exact ⟨0, w.heap.size, 0, 0, Nat.zero_le _, rfl, rfl, rfl, World.ownsRow_made w #[] 0 (Nat.le_refl _) (by decide) rfl, al w _⟩
  case round =>
    obtain ⟨k, g, N, cp, hk, rfl, rfl, hN, hO, hbel⟩ := hrel
    have hO' : Hid (PutU.Own w.heap.size wr (.slice (some ⟨g, 0, none⟩) N cp) (catP F k)) := hO
    have hN' : Hid (N = (catP F k).length) := hN
    have hbel' : Hid (Below w.heap.size w wr) := hbel
    clear hN hO
    by_cases hlt : k < l.length
    · have hlt' : (k : Int) < (l.length : Int) := by omega
      rcases h'.out.later hbel with h0 | ⟨b, off, ha, hc⟩
      · omega
      · obtain ⟨c0, c1, c2⟩ := hc k hlt
        subst ha
        have e1 : Hid (catP F (k + 1) = catP F k ++ nmB (MemExport.f0At l k) ++ [by1 (MemExport.f1At l k)] ++ uv (MemExport.f2At l k)) := by
          show _ = _
          rw [catP, hF'.out]
          unfold exB
          simp [List.append_assoc]
        have hz0 := hz'.out k hlt
        have hlk := hL.out k hk
        clear hc hbel
        generalize MemExport.f0At l k = mn at *
        generalize MemExport.f1At l k = kd at *
        generalize MemExport.f2At l k = ix at *
        have hu2 := (by1_is kd).symm
        have hu1 : IntKind.u8.wrap kd = ((by1 kd).toNat : Int) := by rw [IntKind.wrap_u8]; exact hu2
        have z1 := nmB_len mn
        generalize catP F k = bs at *
        generalize by1 kd = c at *
        have kA : Hid (∀ u, RdB u (some ⟨g, 0, none⟩) bs → Calls Tryz.prog 78 #[.slice (some ⟨g, 0, none⟩) N cp, .string mn] u fun e w' => ∃ v, e = .returned v ∧ PutU.Own u.heap.size w' v (bs ++ nmB mn) ∧ Below u.heap.size u w') := fun u hr => putName_n u _ N cp bs mn hN'.out hr (by omega) (by omega)
        have kC : Hid (∀ (u : World) (ad : Addr) (N cp : Nat), N = (bs ++ nmB mn ++ [c]).length → RdB u (some ad) (bs ++ nmB mn ++ [c]) → Calls Tryz.prog 76 #[.slice (some ad) N cp, .int .i64 ix] u fun e w' => ∃ v, e = .returned v ∧ PutU.Own u.heap.size w' v (bs ++ nmB mn ++ [c] ++ uv ix) ∧ Below u.heap.size u w') := fun u ad N cp h1 hr => putU_n u ad N cp _ ix h1 hr (by simp; omega)
        have hb1 : Hid (bs ++ nmB mn ≠ []) := fun e => nmB_ne mn (List.append_eq_nil_iff.1 e).2
        have hl2 : Hid ((bs ++ nmB mn).length + [c].length ≤ 134217728) := by show _ ≤ _; simp; omega
        have BU : Hid (Below w.heap.size w (wr.alloc (.cells #[.string mn, .int .i64 kd, .int .i64 ix] 101)).drew) := (hbel'.out.alloc hbel'.out.size _).drew
        have R0 : Hid (RdB (wr.alloc (.cells #[.string mn, .int .i64 kd, .int .i64 ix] 101)).drew (some ⟨g, 0, none⟩) bs) := ((own_rd' hN'.out hO'.out).later (al wr _)).later (Below.refl _ _).drew
        have X0 : Hid (Box3 (wr.alloc (.cells #[.string mn, .int .i64 kd, .int .i64 ix] 101)).drew wr.heap.size (.string mn) (.int .i64 kd) (.int .i64 ix)) := ⟨by simp, by simp, by simp⟩
        go_wp2_with fail
        go_region_held3 (fun w' => w'.cell? ⟨wr.heap.size, 0, none⟩ = some (.string mn) ∧ w'.cell? ⟨wr.heap.size, 1, none⟩ = some (.int .i64 kd) ∧ w'.cell? ⟨wr.heap.size, 2, none⟩ = some (.int .i64 ix)) (go_keep)
          ((first
            | (go_at_call 78; refine (kA.out _ (by first | exact R0.out | exact R0.out.later (al _ _))).mono ?_; rintro e w1 ⟨v1, rfl, o1, q1⟩; clear kA; obtain ⟨g1, cp1, N1, rfl, hN1, _⟩ := blk_n o1 hb1.out; have O1 : Hid (PutU.Own _ w1 (.slice (some ⟨g1, 0, none⟩) N1 cp1) (bs ++ nmB mn)) := o1; clear o1; (first | (have X1 : Hid (Box3 w1 wr.heap.size (.string mn) (.int .i64 kd) (.int .i64 ix)) := X0.out.later q1; have B1 : Hid (Below w.heap.size w w1) := BU.out.trans (q1.mono BU.out.size)) | (have X1 : Hid (Box3 w1 wr.heap.size (.string mn) (.int .i64 kd) (.int .i64 ix)) := (X0.out.later (al _ _)).later q1; have B1 : Hid (Below w.heap.size w w1) := (BU.out.trans ((al _ _).mono BU.out.size)).trans (q1.mono (BU.out.trans ((al _ _).mono BU.out.size)).size))); obtain ⟨_, _, _⟩ := X1.out)
            | (refine step_appB (bs := bs ++ nmB mn) rfl _ _ rfl (by first | exact O1.out | exact World.ownsRow.alloc O1.out _) (by first | exact q1.size | exact Nat.le_trans q1.size (al _ _).size) _ [c] _ _ rfl (by first | exact rd_at _ _ [c] #[.int .u8 (c.toNat : Int)] (by simp) rfl (by simp) | exact ((rd_at (wr.alloc (.cells #[.string mn, .int .i64 kd, .int .i64 ix] 101)) _ [c] #[.int .u8 (c.toNat : Int)] (by simp) rfl (by simp)).later (Below.refl _ _).drew).later q1 | exact (rd_at (wr.alloc (.cells #[.string mn, .int .i64 kd, .int .i64 ix] 101)).drew _ [c] #[.int .u8 (c.toNat : Int)] (by simp) rfl (by simp)).later q1) (by simp) hl2.out rfl rfl ?_; intro g3 cp3 N3 w3 hN3 o3 q3; have O3 : Hid (PutU.Own _ w3 (.slice (some ⟨g3, 0, none⟩) N3 cp3) (bs ++ nmB mn ++ [c])) := o3; have H3 : Hid (N3 = (bs ++ nmB mn ++ [c]).length) := hN3; have L3 : Hid (wr.heap.size + 1 ≤ g1) := (by have := (World.ownsRow.lt O1.out g1 rfl).1; simp at this; show _ ≤ _; omega); have NE : Hid (some wr.heap.size ≠ (Value.slice (some ⟨g1, 0, none⟩) N1 cp1).ownBlock) := (by show some wr.heap.size ≠ some g1; have := L3.out; simp; omega); have LB : Hid (∀ k, (Value.slice (some ⟨g1, 0, none⟩) N1 cp1).ownBlock = some k → w.heap.size ≤ k) := (fun k hk => by have : g1 = k := (by simpa [Value.ownBlock] using hk); have := L3.out; have := hbel'.out.size; omega); have XB : Hid (Box3 w3 wr.heap.size (.string mn) (.int .i64 kd) (.int .i64 ix) ∧ Below w.heap.size w w3) := (by first | exact app_keep q3 NE.out LB.out X1.out B1.out (Nat.le_refl _) | exact app_keep q3 NE.out LB.out (X1.out.later (al _ _)) (B1.out.trans ((al _ _).mono B1.out.size)) (Nat.le_refl _)); have X3 : Hid (Box3 w3 wr.heap.size (.string mn) (.int .i64 kd) (.int .i64 ix)) := XB.out.1; have B3 : Hid (Below w.heap.size w w3) := XB.out.2; clear XB; clear o3 hN3 q3 L3 NE LB; obtain ⟨_, _, _⟩ := X3.out)
            | (go_at_call 76; refine (kC.out _ _ _ _ H3.out (own_rd' H3.out O3.out)).mono ?_; rintro e w4 ⟨v4, rfl, o4, q4⟩; clear kC; obtain ⟨g4, cp4, N4, rfl, hN4, _⟩ := blk_n o4 (by simp); have O4 : Hid (PutU.Own w3.heap.size w4 (.slice (some ⟨g4, 0, none⟩) N4 cp4) (bs ++ nmB mn ++ [c] ++ uv ix)) := o4; clear o4; have B4 : Hid (Below w.heap.size w w4) := B3.out.trans (q4.mono B3.out.size); obtain ⟨_, _, _⟩ := X3.out.later q4)))
        all_goals
          go_wp2_with fail
          go_roundw
          case rel => exact ⟨k + 1, g4, N4, cp4, by omega, by go_num, rfl, by rw [e1.out]; exact hN4.out, by rw [e1.out]; exact own_mono O4.out B3.out.size, B4.out⟩
          case measure => simp [intOf]; omega
    · obtain rfl : k = l.length := by omega
      clear hbel
      go_wp2_with fail
      go_ret
      exact ⟨g, N, cp, rfl, hN'.out, hO'.out, hbel'.out⟩
end Go.Proofs.YtffngjgjhialnaaGreatDoor.SpecExps
namespace Go.Proofs.YtffngjgjhialnaaGreatDoor.SpecGlobs
open Go.RowKit PlainNum PlainLeb NumCalls ByteMem PutU PutULaw PlainBytes PlainShape InsMem SpecIns WrMod WrParts WrSec SpecSec SpecParts

/-- A box of two cells. -/
def Box2 (w : World) (b : Nat) (x y : Value) : Prop := w.cell? ⟨b, 0, none⟩ = some x ∧ w.cell? ⟨b, 1, none⟩ = some y
theorem Box2.later {w w' : World} {b : Nat} {x y : Value} (h : Box2 w b x y) (hb : Below w.heap.size w w') : Box2 w' b x y := by
  have hs : b < w.heap.size := World.block_lt_of_cell? w _ h.1
  exact ⟨by rw [hb.cell hs]; exact h.1, by rw [hb.cell hs]; exact h.2⟩
theorem app_keep2 {B : Nat} {w0 u w' : World} {row : Option Nat} {b : Nat} {x y : Value} (q : u.grownBy w' row) (ne : some b ≠ row) (lb : ∀ k, row = some k → B ≤ k) (hx : Box2 u b x y) (hb : Below B w0 u) (hB : B ≤ w0.heap.size) : Box2 w' b x y ∧ Below B w0 w' :=
  ⟨⟨q.cell hx.1 ne, q.cell hx.2 ne⟩, hb.trans ((Below.refl B u).grown q (Nat.le_trans hB hb.size) lb)⟩
theorem b_al {B : Nat} {w u : World} (h : Below B w u) (hB : B ≤ w.heap.size) (o : Obj) : Below B w (u.alloc o) := h.alloc (Nat.le_trans hB h.size) o
set_option maxRecDepth 20000 in
set_option maxHeartbeats 4000000 in
theorem spec_globals (w : World) (a : Option Addr) (cap : Nat) (l : List MemGlobal.E) (h : MemGlobal.Rd w a l) (hn : l.length ≤ 1000) :
    Calls Tryz.prog 29 #[.slice a l.length cap] w fun e w' => ∃ g N cp, e = .returned (.slice (some ⟨g, 0, none⟩) N cp) ∧ N = (catP (fun k => glB (MemGlobal.f0At l k) (MemGlobal.f1At l k)) l.length).length ∧ PutU.Own w.heap.size w' (.slice (some ⟨g, 0, none⟩) N cp) (catP (fun k => glB (MemGlobal.f0At l k) (MemGlobal.f1At l k)) l.length) ∧ Below w.heap.size w w' := by
  have h' : Hid (MemGlobal.Rd w a l) := h
  have hL : Hid (∀ k, k ≤ l.length → (catP (fun k => glB (MemGlobal.f0At l k) (MemGlobal.f1At l k)) k).length ≤ k * 300) := fun k hk => ModB.catP_len k (fun j hj => by
    have e3 := sv_len (MemGlobal.f1At l j)
    unfold glB
    simp
    omega)
  generalize hF : (fun k => glB (MemGlobal.f0At l k) (MemGlobal.f1At l k)) = F at *
  have hF' : Hid (∀ k, F k = glB (MemGlobal.f0At l k) (MemGlobal.f1At l k)) := fun k => by rw [← hF]
  clear h hF
  go_enter Tryz.func29, Tryz.ntmps29
  go_wp2_with fail
  go_loopw [3, 10] (fun vb vk wr => ∃ (k g N cp : Nat), k ≤ l.length ∧ vk = .int .i64 k ∧ vb = .slice (some ⟨g, 0, none⟩) N cp ∧ N = (catP F k).length ∧ PutU.Own w.heap.size wr (.slice (some ⟨g, 0, none⟩) N cp) (catP F k) ∧ Below w.heap.size w wr) (fun _ vk _ => l.length - (intOf vk).toNat)
  case atStart => exact ⟨0, w.heap.size, 0, 0, Nat.zero_le _, rfl, rfl, rfl, World.ownsRow_made w #[] 0 (Nat.le_refl _) (by decide) rfl, al w _⟩
  case round =>
    obtain ⟨k, g, N, cp, hk, rfl, rfl, hN, hO, hbel⟩ := hrel
    have hO' : Hid (PutU.Own w.heap.size wr (.slice (some ⟨g, 0, none⟩) N cp) (catP F k)) := hO
    have hN' : Hid (N = (catP F k).length) := hN
    have hbel' : Hid (Below w.heap.size w wr) := hbel
    have hgw : g < wr.heap.size := (World.ownsRow.lt hO g rfl).2
    clear hN hO
    by_cases hlt : k < l.length
    · have hlt' : (k : Int) < (l.length : Int) := by omega
      rcases h'.out.later hbel with h0 | ⟨b, off, ha, hc⟩
      · omega
      · obtain ⟨c0, c1⟩ := hc k hlt
        subst ha
        have e1 : Hid (catP F (k + 1) = catP F k ++ [127, ynB (MemGlobal.f0At l k), 65] ++ sv (MemGlobal.f1At l k) ++ [11]) := by
          show _ = _
          rw [catP, hF'.out]
          unfold glB
          simp [List.append_assoc]
        have hlk := hL.out k hk
        clear hc hbel
        generalize MemGlobal.f0At l k = mt at *
        generalize MemGlobal.f1At l k = ini at *
        have z1 := sv_len ini
        generalize catP F k = bs at *
        obtain ⟨yc, hyc⟩ : ∃ yc : UInt8, yc = ynB mt := ⟨_, rfl⟩
        obtain ⟨yb, hyb⟩ : ∃ yb : Int, yb = (yc.toNat : Int) := ⟨_, rfl⟩
        have hA3 : Hid ((#[.int .u8 127, .int .u8 yb, .int .u8 65] : Array Value).toList = Lib.byteCells [127, yc, 65]) := by rw [hyb]; rfl
        rw [← hyc] at e1
        have kS : Hid (∀ (u : World) (ad : Addr) (N cp : Nat), N = (bs ++ [127, yc, 65]).length → RdB u (some ad) (bs ++ [127, yc, 65]) → Calls Tryz.prog 79 #[.slice (some ad) N cp, .int .i64 ini] u fun e w' => ∃ v, e = .returned v ∧ PutU.Own u.heap.size w' v (bs ++ [127, yc, 65] ++ sv ini) ∧ Below u.heap.size u w') := fun u ad N cp h1 hr => putS_n u ad N cp _ ini h1 hr (by simp; omega)
        have hl1 : Hid (bs.length + [127, yc, 65].length ≤ 134217728) := by show _ ≤ _; simp; omega
        have hl2 : Hid ((bs ++ [127, yc, 65] ++ sv ini).length + [11].length ≤ 134217728) := by show _ ≤ _; simp; omega
        have BU : Hid (Below w.heap.size w (wr.alloc (.cells #[.bool mt, .int .i64 ini] 97)).drew) := (hbel'.out.alloc hbel'.out.size _).drew
        have D0 : Hid (PutU.Own w.heap.size (wr.alloc (.cells #[.bool mt, .int .i64 ini] 97)).drew (.slice (some ⟨g, 0, none⟩) N cp) bs) := World.ownsRow.alloc hO'.out _
        have X0 : Hid (Box2 (wr.alloc (.cells #[.bool mt, .int .i64 ini] 97)).drew wr.heap.size (.bool mt) (.int .i64 ini)) := ⟨by simp, by simp⟩
        have NE : Hid (some wr.heap.size ≠ (Value.slice (some ⟨g, 0, none⟩) N cp).ownBlock) := (by show some wr.heap.size ≠ some g; simp; omega)
        have LB : Hid (∀ k, (Value.slice (some ⟨g, 0, none⟩) N cp).ownBlock = some k → w.heap.size ≤ k) := fun k hk => (World.ownsRow.lt hO'.out k hk).1
        have hy : (mt = true ∧ yb = 1) ∨ (mt = false ∧ yb = 0) := by
          cases mt
          · exact .inr ⟨rfl, by rw [hyb, hyc]; rfl⟩
          · exact .inl ⟨rfl, by rw [hyb, hyc]; rfl⟩
        clear hyb hyc
        rcases hy with ⟨rfl, rfl⟩ | ⟨rfl, rfl⟩
        all_goals
          go_wp2_with fail
          go_region_held3 (fun w' => w'.cell? ⟨wr.heap.size, 1, none⟩ = some (.int .i64 ini)) (go_keep)
            ((first
              | (refine step_appB (bs := bs) rfl _ _ rfl (by first | exact World.ownsRow.alloc D0.out _ | exact World.ownsRow.alloc (World.ownsRow.alloc D0.out _) _) (by first | exact (b_al BU.out (Nat.le_refl _) _).size | exact (b_al (b_al BU.out (Nat.le_refl _) _) (Nat.le_refl _) _).size) _ [127, yc, 65] _ _ rfl (by first | exact (rd_at (wr.alloc (.cells #[.bool _, .int .i64 ini] 97)) _ [127, yc, 65] _ (by simp) hA3.out (by simp)).later (Below.refl _ _).drew | exact (rd_at ((wr.alloc (.cells #[.bool _, .int .i64 ini] 97)).alloc (.cells #[.int .u8 11] 5)) _ [127, yc, 65] _ (by simp) hA3.out (by simp)).later (Below.refl _ _).drew | exact ((rd_at (wr.alloc (.cells #[.bool _, .int .i64 ini] 97)) _ [127, yc, 65] _ (by simp) hA3.out (by simp)).later (al _ (.cells #[.int .u8 11] 5))).later (Below.refl _ _).drew) (by simp) hl1.out rfl rfl ?_; intro g1 cp1 N1 w1 hN1 o1 q1; have O1 : Hid (PutU.Own w.heap.size w1 (.slice (some ⟨g1, 0, none⟩) N1 cp1) (bs ++ [127, yc, 65])) := o1; have H1 : Hid (N1 = (bs ++ [127, yc, 65]).length) := hN1; have XB : Hid (Box2 w1 wr.heap.size _ (.int .i64 ini) ∧ Below w.heap.size w w1) := (by first | exact app_keep2 q1 NE.out LB.out (X0.out.later (al _ _)) (b_al BU.out (Nat.le_refl _) _) (Nat.le_refl _) | exact app_keep2 q1 NE.out LB.out ((X0.out.later (al _ _)).later (al _ _)) (b_al (b_al BU.out (Nat.le_refl _) _) (Nat.le_refl _) _) (Nat.le_refl _)); have X1 : Hid (Box2 w1 wr.heap.size _ (.int .i64 ini)) := XB.out.1; have B1 : Hid (Below w.heap.size w w1) := XB.out.2; (first | (have R11 : Hid (RdB w1 (some ⟨wr.heap.size + 1, 0, none⟩) [11]) := grown_rd (((rd_at (wr.alloc (.cells #[.bool _, .int .i64 ini] 97)) _ [11] #[.int .u8 11] (by simp) rfl (by decide)).later (al _ _)).later (Below.refl _ _).drew) q1 (fun p hp => by cases hp; show some _ ≠ some g; simp; omega)) | (have R11 : Hid (RdB w1 (some ⟨wr.heap.size + 1 + 1, 0, none⟩) [11]) := grown_rd ((rd_at ((wr.alloc (.cells #[.bool _, .int .i64 ini] 97)).alloc _) _ [11] #[.int .u8 11] (by simp) rfl (by decide)).later (Below.refl _ _).drew) q1 (fun p hp => by cases hp; show some _ ≠ some g; simp; omega)) | skip); clear XB o1 hN1 q1 D0; obtain ⟨_, _⟩ := X1.out)
              | (go_at_call 79; refine (kS.out _ _ _ _ H1.out (by first | exact own_rd' H1.out O1.out | exact (own_rd' H1.out O1.out).later (al _ _))).mono ?_; rintro e w2 ⟨v2, rfl, o2, q2⟩; clear kS; obtain ⟨g2, cp2, N2, rfl, hN2, _⟩ := blk_n o2 (by simp); have O2 : Hid (PutU.Own _ w2 (.slice (some ⟨g2, 0, none⟩) N2 cp2) (bs ++ [127, yc, 65] ++ sv ini)) := o2; clear o2; (first | (have X2 : Hid (Box2 w2 wr.heap.size _ (.int .i64 ini)) := X1.out.later q2; have B2 : Hid (Below w.heap.size w w2) := B1.out.trans (q2.mono B1.out.size)) | (have X2 : Hid (Box2 w2 wr.heap.size _ (.int .i64 ini)) := (X1.out.later (al _ _)).later q2; have B2 : Hid (Below w.heap.size w w2) := (b_al B1.out (Nat.le_refl _) _).trans (q2.mono (b_al B1.out (Nat.le_refl _) _).size))); obtain ⟨_, _⟩ := X2.out)
              | (refine step_appB (bs := bs ++ [127, yc, 65] ++ sv ini) rfl _ _ rfl (by first | exact O2.out | exact World.ownsRow.alloc O2.out _) (by first | exact q2.size | exact Nat.le_trans q2.size (al _ _).size) _ [11] _ _ rfl (by first | exact R11.out.later q2 | exact rd_at _ _ [11] #[.int .u8 11] (by simp) rfl (by decide) | exact (rd_at _ _ [11] #[.int .u8 11] (by simp) rfl (by decide)).later q2) (by simp) hl2.out rfl rfl ?_; intro g3 cp3 N3 w3 hN3 o3 q3; have O3 : Hid (PutU.Own _ w3 (.slice (some ⟨g3, 0, none⟩) N3 cp3) (bs ++ [127, yc, 65] ++ sv ini ++ [11])) := o3; have H3 : Hid (N3 = (bs ++ [127, yc, 65] ++ sv ini ++ [11]).length) := hN3; have L3 : Hid (w1.heap.size ≤ g2) := (by have := (World.ownsRow.lt O2.out g2 rfl).1; first | exact this | exact Nat.le_trans (al _ _).size this); have N3e : Hid (some wr.heap.size ≠ (Value.slice (some ⟨g2, 0, none⟩) N2 cp2).ownBlock) := (by show some wr.heap.size ≠ some g2; have := L3.out; have := World.block_lt_of_cell? w1 _ X1.out.1; simp at *; omega); have L3b : Hid (∀ k, (Value.slice (some ⟨g2, 0, none⟩) N2 cp2).ownBlock = some k → w.heap.size ≤ k) := (fun k hk => by have : g2 = k := (by simpa [Value.ownBlock] using hk); have := L3.out; have := B1.out.size; omega); have XB : Hid (Box2 w3 wr.heap.size _ (.int .i64 ini) ∧ Below w.heap.size w w3) := (by first | exact app_keep2 q3 N3e.out L3b.out X2.out B2.out (Nat.le_refl _) | exact app_keep2 q3 N3e.out L3b.out (X2.out.later (al _ _)) (b_al B2.out (Nat.le_refl _) _) (Nat.le_refl _)); have X3 : Hid (Box2 w3 wr.heap.size _ (.int .i64 ini)) := XB.out.1; have B3 : Hid (Below w.heap.size w w3) := XB.out.2; clear XB o3 hN3 q3 N3e L3b; obtain ⟨_, _⟩ := X3.out)))
          all_goals
            go_wp2_with fail
            go_roundw
            case rel => exact ⟨k + 1, g3, N3, cp3, by omega, by go_num, rfl, by rw [e1.out]; exact H3.out, by rw [e1.out]; exact own_mono O3.out (by have := B1.out.size; have := L3.out; first | exact B1.out.size | exact (b_al B1.out (Nat.le_refl _) _).size), B3.out⟩
            case measure => simp [intOf]; omega
    · obtain rfl : k = l.length := by omega
      clear hbel
      go_wp2_with fail
      go_ret
      exact ⟨g, N, cp, rfl, hN'.out, hO'.out, hbel'.out⟩
end Go.Proofs.YtffngjgjhialnaaGreatDoor.SpecGlobs
namespace Go.Proofs.YtffngjgjhialnaaGreatDoor.SpecData
open Go.RowKit PlainNum PlainLeb NumCalls ByteMem PutU PutULaw PlainBytes PlainShape InsMem SpecIns WrMod WrParts WrSec SpecSec SpecParts SpecGlobs

set_option maxRecDepth 20000 in
set_option maxHeartbeats 4000000 in
theorem spec_data (w : World) (a : Option Addr) (cap : Nat) (l : List MemData.E) (h : MemData.Rd w a l) (hn : l.length ≤ 1000) (hz : ∀ k, k < l.length → (MemData.at1 l k).n ≤ 10000) (hd : ∀ k, k < l.length → ∃ g off, (MemData.at1 l k).ad = some ⟨g, off, none⟩) :
    Calls Tryz.prog 31 #[.slice a l.length cap] w fun e w' => ∃ g N cp, e = .returned (.slice (some ⟨g, 0, none⟩) N cp) ∧ N = (catP (fun k => daB (MemData.at1 l k).pos (ModB.dB (MemData.at1 l k))) l.length).length ∧ PutU.Own w.heap.size w' (.slice (some ⟨g, 0, none⟩) N cp) (catP (fun k => daB (MemData.at1 l k).pos (ModB.dB (MemData.at1 l k))) l.length) ∧ Below w.heap.size w w' := by
  have h' : Hid (MemData.Rd w a l) := h
  have hL : Hid (∀ k, k ≤ l.length → (catP (fun k => daB (MemData.at1 l k).pos (ModB.dB (MemData.at1 l k))) k).length ≤ k * 10100) := fun k hk => ModB.catP_len k (fun j hj => by
    have e3 := sv_len (MemData.at1 l j).pos
    have e4 := uv_len ((ModB.dB (MemData.at1 l j)).length : Int)
    have e5 := ModB.dB_len (MemData.at1 l j)
    have e6 := hz j (by omega)
    unfold daB
    simp at e4 ⊢
    omega)
  have hz' : Hid (∀ k, k < l.length → (MemData.at1 l k).n ≤ 10000) := hz
  have hd' : Hid (∀ k, k < l.length → ∃ g off, (MemData.at1 l k).ad = some ⟨g, off, none⟩) := hd
  generalize hF : (fun k => daB (MemData.at1 l k).pos (ModB.dB (MemData.at1 l k))) = F at *
  have hF' : Hid (∀ k, F k = daB (MemData.at1 l k).pos (ModB.dB (MemData.at1 l k))) := fun k => by rw [← hF]
  clear h hF hz hd
  go_enter Tryz.func31, Tryz.ntmps31
  go_wp2_with fail
  go_loopw [3, 9] (fun vb vk wr => ∃ (k g N cp : Nat), k ≤ l.length ∧ vk = .int .i64 k ∧ vb = .slice (some ⟨g, 0, none⟩) N cp ∧ N = (catP F k).length ∧ PutU.Own w.heap.size wr (.slice (some ⟨g, 0, none⟩) N cp) (catP F k) ∧ Below w.heap.size w wr) (fun _ vk _ => l.length - (intOf vk).toNat)
  case atStart => exact ⟨0, w.heap.size, 0, 0, Nat.zero_le _, rfl, rfl, rfl, World.ownsRow_made w #[] 0 (Nat.le_refl _) (by decide) rfl, al w _⟩
  case round =>
    obtain ⟨k, g, N, cp, hk, rfl, rfl, hN, hO, hbel⟩ := hrel
    have hO' : Hid (PutU.Own w.heap.size wr (.slice (some ⟨g, 0, none⟩) N cp) (catP F k)) := hO
    have hN' : Hid (N = (catP F k).length) := hN
    have hbel' : Hid (Below w.heap.size w wr) := hbel
    have hgw : g < wr.heap.size := (World.ownsRow.lt hO g rfl).2
    clear hN hO
    by_cases hlt : k < l.length
    · have hlt' : (k : Int) < (l.length : Int) := by omega
      rcases h'.out.later hbel with h0 | ⟨b, off, ha, hc⟩
      · omega
      · obtain ⟨c0, c1, _⟩ := hc k hlt
        subst ha
        have e1 : Hid (catP F (k + 1) = catP F k ++ [0, 65] ++ sv (MemData.at1 l k).pos ++ [11] ++ uv ((ModB.dB (MemData.at1 l k)).length : Int) ++ ModB.dB (MemData.at1 l k)) := by
          show _ = _
          rw [catP, hF'.out]
          unfold daB
          simp [List.append_assoc]
        have hRw : Hid (RdB w (MemData.at1 l k).ad (ModB.dB (MemData.at1 l k))) := ModB.dB_rd (ModB.data_at h'.out hlt)
        have hlk := hL.out k hk
        have hdl := ModB.dB_len (MemData.at1 l k)
        have hzk := hz'.out k hlt
        obtain ⟨gb, ob, hgb⟩ := hd'.out k hlt
        rw [hgb] at c1 hRw
        clear hc hbel hgb
        generalize ModB.dB (MemData.at1 l k) = cs at *
        generalize (MemData.at1 l k).pos = ini at *
        generalize (MemData.at1 l k).n = M at *
        generalize (MemData.at1 l k).cp = cb at *
        have hM : Hid (M = cs.length) := hdl.symm
        have z1 := sv_len ini
        have z2 := uv_len (M : Int)
        generalize catP F k = bs at *
        have hA3 : Hid ((#[.int .u8 0, .int .u8 65] : Array Value).toList = Lib.byteCells [0, 65]) := rfl
        have kC : Hid (∀ (u : World) (ad : Addr) (N cp : Nat), N = (bs ++ [0, 65] ++ sv ini ++ [11]).length → RdB u (some ad) (bs ++ [0, 65] ++ sv ini ++ [11]) → Calls Tryz.prog 76 #[.slice (some ad) N cp, .int .i64 (M : Int)] u fun e w' => ∃ v, e = .returned v ∧ PutU.Own u.heap.size w' v (bs ++ [0, 65] ++ sv ini ++ [11] ++ uv (M : Int)) ∧ Below u.heap.size u w') := fun u ad N cp h1 hr => putU_n u ad N cp _ _ h1 hr (by simp; omega)
        have hl4 : Hid ((bs ++ [0, 65] ++ sv ini ++ [11] ++ uv (M : Int)).length + cs.length ≤ 134217728) := by show _ ≤ _; simp at hdl ⊢; omega
        have kS : Hid (∀ (u : World) (ad : Addr) (N cp : Nat), N = (bs ++ [0, 65]).length → RdB u (some ad) (bs ++ [0, 65]) → Calls Tryz.prog 79 #[.slice (some ad) N cp, .int .i64 ini] u fun e w' => ∃ v, e = .returned v ∧ PutU.Own u.heap.size w' v (bs ++ [0, 65] ++ sv ini) ∧ Below u.heap.size u w') := fun u ad N cp h1 hr => putS_n u ad N cp _ ini h1 hr (by simp; omega)
        have hl1 : Hid (bs.length + [0, 65].length ≤ 134217728) := by show _ ≤ _; simp; omega
        have hl2 : Hid ((bs ++ [0, 65] ++ sv ini).length + [11].length ≤ 134217728) := by show _ ≤ _; simp; omega
        have BU : Hid (Below w.heap.size w (wr.alloc (.cells #[.int .i64 ini, .slice (some ⟨gb, ob, none⟩) M cb] 105)).drew) := (hbel'.out.alloc hbel'.out.size _).drew
        have D0 : Hid (PutU.Own w.heap.size (wr.alloc (.cells #[.int .i64 ini, .slice (some ⟨gb, ob, none⟩) M cb] 105)).drew (.slice (some ⟨g, 0, none⟩) N cp) bs) := World.ownsRow.alloc hO'.out _
        have X0 : Hid (Box2 (wr.alloc (.cells #[.int .i64 ini, .slice (some ⟨gb, ob, none⟩) M cb] 105)).drew wr.heap.size (.int .i64 ini) (.slice (some ⟨gb, ob, none⟩) M cb)) := ⟨by simp, by simp⟩
        have NE : Hid (some wr.heap.size ≠ (Value.slice (some ⟨g, 0, none⟩) N cp).ownBlock) := (by show some wr.heap.size ≠ some g; simp; omega)
        have LB : Hid (∀ k, (Value.slice (some ⟨g, 0, none⟩) N cp).ownBlock = some k → w.heap.size ≤ k) := fun k hk => (World.ownsRow.lt hO'.out k hk).1
        go_wp2_with fail
        go_region_held3 (fun w' => w'.cell? ⟨wr.heap.size, 0, none⟩ = some (.int .i64 ini) ∧ w'.cell? ⟨wr.heap.size, 1, none⟩ = some (.slice (some ⟨gb, ob, none⟩) M cb)) (go_keep)
            ((first
              | (refine step_appB (bs := bs) rfl _ _ rfl (by first | exact World.ownsRow.alloc D0.out _ | exact World.ownsRow.alloc (World.ownsRow.alloc D0.out _) _) (by first | exact (b_al BU.out (Nat.le_refl _) _).size | exact (b_al (b_al BU.out (Nat.le_refl _) _) (Nat.le_refl _) _).size) _ [0, 65] _ _ rfl (by first | exact (rd_at (wr.alloc (.cells #[.int .i64 ini, .slice (some ⟨gb, ob, none⟩) M cb] 105)) _ [0, 65] _ (by simp) hA3.out (by simp)).later (Below.refl _ _).drew | exact (rd_at ((wr.alloc (.cells #[.int .i64 ini, .slice (some ⟨gb, ob, none⟩) M cb] 105)).alloc (.cells #[.int .u8 11] 5)) _ [0, 65] _ (by simp) hA3.out (by simp)).later (Below.refl _ _).drew | exact ((rd_at (wr.alloc (.cells #[.int .i64 ini, .slice (some ⟨gb, ob, none⟩) M cb] 105)) _ [0, 65] _ (by simp) hA3.out (by simp)).later (al _ (.cells #[.int .u8 11] 5))).later (Below.refl _ _).drew) (by simp) hl1.out rfl rfl ?_; intro g1 cp1 N1 w1 hN1 o1 q1; have O1 : Hid (PutU.Own w.heap.size w1 (.slice (some ⟨g1, 0, none⟩) N1 cp1) (bs ++ [0, 65])) := o1; have H1 : Hid (N1 = (bs ++ [0, 65]).length) := hN1; have XB : Hid (Box2 w1 wr.heap.size (.int .i64 ini) (.slice (some ⟨gb, ob, none⟩) M cb) ∧ Below w.heap.size w w1) := (by first | exact app_keep2 q1 NE.out LB.out (X0.out.later (al _ _)) (b_al BU.out (Nat.le_refl _) _) (Nat.le_refl _) | exact app_keep2 q1 NE.out LB.out ((X0.out.later (al _ _)).later (al _ _)) (b_al (b_al BU.out (Nat.le_refl _) _) (Nat.le_refl _) _) (Nat.le_refl _)); have X1 : Hid (Box2 w1 wr.heap.size (.int .i64 ini) (.slice (some ⟨gb, ob, none⟩) M cb)) := XB.out.1; have B1 : Hid (Below w.heap.size w w1) := XB.out.2; (first | (have R11 : Hid (RdB w1 (some ⟨wr.heap.size + 1, 0, none⟩) [11]) := grown_rd (((rd_at (wr.alloc (.cells #[.int .i64 ini, .slice (some ⟨gb, ob, none⟩) M cb] 105)) _ [11] #[.int .u8 11] (by simp) rfl (by decide)).later (al _ _)).later (Below.refl _ _).drew) q1 (fun p hp => by cases hp; show some _ ≠ some g; simp; omega)) | (have R11 : Hid (RdB w1 (some ⟨wr.heap.size + 1 + 1, 0, none⟩) [11]) := grown_rd ((rd_at ((wr.alloc (.cells #[.int .i64 ini, .slice (some ⟨gb, ob, none⟩) M cb] 105)).alloc _) _ [11] #[.int .u8 11] (by simp) rfl (by decide)).later (Below.refl _ _).drew) q1 (fun p hp => by cases hp; show some _ ≠ some g; simp; omega)) | skip); clear XB o1 hN1 q1 D0; obtain ⟨_, _⟩ := X1.out)
              | (go_at_call 79; refine (kS.out _ _ _ _ H1.out (by first | exact own_rd' H1.out O1.out | exact (own_rd' H1.out O1.out).later (al _ _))).mono ?_; rintro e w2 ⟨v2, rfl, o2, q2⟩; clear kS; obtain ⟨g2, cp2, N2, rfl, hN2, _⟩ := blk_n o2 (by simp); have O2 : Hid (PutU.Own _ w2 (.slice (some ⟨g2, 0, none⟩) N2 cp2) (bs ++ [0, 65] ++ sv ini)) := o2; clear o2; (first | (have X2 : Hid (Box2 w2 wr.heap.size (.int .i64 ini) (.slice (some ⟨gb, ob, none⟩) M cb)) := X1.out.later q2; have B2 : Hid (Below w.heap.size w w2) := B1.out.trans (q2.mono B1.out.size)) | (have X2 : Hid (Box2 w2 wr.heap.size (.int .i64 ini) (.slice (some ⟨gb, ob, none⟩) M cb)) := (X1.out.later (al _ _)).later q2; have B2 : Hid (Below w.heap.size w w2) := (b_al B1.out (Nat.le_refl _) _).trans (q2.mono (b_al B1.out (Nat.le_refl _) _).size))); obtain ⟨_, _⟩ := X2.out)
              | (refine step_appB (bs := bs ++ [0, 65] ++ sv ini) rfl _ _ rfl (by first | exact O2.out | exact World.ownsRow.alloc O2.out _) (by first | exact q2.size | exact Nat.le_trans q2.size (al _ _).size) _ [11] _ _ rfl (by first | exact R11.out.later q2 | exact rd_at _ _ [11] #[.int .u8 11] (by simp) rfl (by decide) | exact (rd_at _ _ [11] #[.int .u8 11] (by simp) rfl (by decide)).later q2) (by simp) hl2.out rfl rfl ?_; intro g3 cp3 N3 w3 hN3 o3 q3; have O3 : Hid (PutU.Own _ w3 (.slice (some ⟨g3, 0, none⟩) N3 cp3) (bs ++ [0, 65] ++ sv ini ++ [11])) := o3; have H3 : Hid (N3 = (bs ++ [0, 65] ++ sv ini ++ [11]).length) := hN3; have L3 : Hid (w1.heap.size ≤ g2) := (by have := (World.ownsRow.lt O2.out g2 rfl).1; first | exact this | exact Nat.le_trans (al _ _).size this); have N3e : Hid (some wr.heap.size ≠ (Value.slice (some ⟨g2, 0, none⟩) N2 cp2).ownBlock) := (by show some wr.heap.size ≠ some g2; have := L3.out; have := World.block_lt_of_cell? w1 _ X1.out.1; simp at *; omega); have L3b : Hid (∀ k, (Value.slice (some ⟨g2, 0, none⟩) N2 cp2).ownBlock = some k → w.heap.size ≤ k) := (fun k hk => by have : g2 = k := (by simpa [Value.ownBlock] using hk); have := L3.out; have := B1.out.size; omega); have XB : Hid (Box2 w3 wr.heap.size (.int .i64 ini) (.slice (some ⟨gb, ob, none⟩) M cb) ∧ Below w.heap.size w w3) := (by first | exact app_keep2 q3 N3e.out L3b.out X2.out B2.out (Nat.le_refl _) | exact app_keep2 q3 N3e.out L3b.out (X2.out.later (al _ _)) (b_al B2.out (Nat.le_refl _) _) (Nat.le_refl _)); have X3 : Hid (Box2 w3 wr.heap.size (.int .i64 ini) (.slice (some ⟨gb, ob, none⟩) M cb)) := XB.out.1; have B3 : Hid (Below w.heap.size w w3) := XB.out.2; clear XB o3 hN3 q3 N3e L3b O2; obtain ⟨_, _⟩ := X3.out)
              | (go_at_call 76; refine (kC.out _ _ _ _ H3.out (own_rd' H3.out O3.out)).mono ?_; rintro e w4 ⟨v4, rfl, o4, q4⟩; clear kC; obtain ⟨g4, cp4, N4, rfl, hN4, _⟩ := blk_n o4 (by simp); have O4 : Hid (PutU.Own w3.heap.size w4 (.slice (some ⟨g4, 0, none⟩) N4 cp4) (bs ++ [0, 65] ++ sv ini ++ [11] ++ uv (M : Int))) := o4; clear o4; have B4 : Hid (Below w.heap.size w w4) := B3.out.trans (q4.mono B3.out.size); have X4 : Hid (Box2 w4 wr.heap.size (.int .i64 ini) (.slice (some ⟨gb, ob, none⟩) M cb)) := X3.out.later q4; obtain ⟨_, _⟩ := X4.out)
              | (refine step_appE (bs := bs ++ [0, 65] ++ sv ini ++ [11] ++ uv (M : Int)) rfl _ _ rfl O4.out q4.size _ cs _ _ hM.out (hRw.out.later B4.out) (by simp) hl4.out rfl rfl ?_; intro g5 cp5 N5 w5 hN5 o5 q5; have O5 : Hid (PutU.Own w3.heap.size w5 (.slice (some ⟨g5, 0, none⟩) N5 cp5) (bs ++ [0, 65] ++ sv ini ++ [11] ++ uv (M : Int) ++ cs)) := o5; have H5 : Hid (N5 = (bs ++ [0, 65] ++ sv ini ++ [11] ++ uv (M : Int) ++ cs).length) := hN5; have XB : Hid (Box2 w5 wr.heap.size (.int .i64 ini) (.slice (some ⟨gb, ob, none⟩) M cb) ∧ Below w.heap.size w w5) := app_keep2 q5 (by show some wr.heap.size ≠ some g4; have := (World.ownsRow.lt O4.out g4 rfl).1; have := World.block_lt_of_cell? w3 _ X3.out.1; simp at *; omega) (fun k hk => by have := (World.ownsRow.lt O4.out k hk).1; have := B3.out.size; omega) X4.out B4.out (Nat.le_refl _); have B5 : Hid (Below w.heap.size w w5) := XB.out.2; obtain ⟨_, _⟩ := XB.out.1; clear o5 hN5 q5 XB)))
        all_goals
          go_wp2_with fail
          go_roundw
          case rel => exact ⟨k + 1, g5, N5, cp5, by omega, by go_num, rfl, by rw [e1.out, ← hM.out]; exact H5.out, by rw [e1.out, ← hM.out]; exact own_mono O5.out B3.out.size, B5.out⟩
          case measure => simp [intOf]; omega
    · obtain rfl : k = l.length := by omega
      clear hbel
      go_wp2_with fail
      go_ret
      exact ⟨g, N, cp, rfl, hN'.out, hO'.out, hbel'.out⟩
end Go.Proofs.YtffngjgjhialnaaGreatDoor.SpecData
namespace Go.Proofs.YtffngjgjhialnaaGreatDoor.SpecSigs
open Go.RowKit PlainNum PlainLeb NumCalls ByteMem PutU PutULaw PlainBytes PlainShape InsMem SpecIns WrMod WrParts WrSec SpecSec SpecParts SpecGlobs
set_option maxRecDepth 20000 in
set_option maxHeartbeats 4000000 in
theorem spec_sigs (w : World) (a : Option Addr) (cap : Nat) (l : List MemSig.E) (h : MemSig.Rd w a l) (hn : l.length ≤ 1000) (hz : ∀ k, k < l.length → 0 ≤ MemSig.f0At l k ∧ MemSig.f0At l k ≤ 1000 ∧ 0 ≤ MemSig.f1At l k ∧ MemSig.f1At l k ≤ 1000) :
    Calls Tryz.prog 26 #[.slice a l.length cap] w fun e w' => ∃ g N cp, e = .returned (.slice (some ⟨g, 0, none⟩) N cp) ∧ N = (catP (fun k => sigB (MemSig.f0At l k).toNat (MemSig.f1At l k).toNat) l.length).length ∧ PutU.Own w.heap.size w' (.slice (some ⟨g, 0, none⟩) N cp) (catP (fun k => sigB (MemSig.f0At l k).toNat (MemSig.f1At l k).toNat) l.length) ∧ Below w.heap.size w w' := by
  have h' : Hid (MemSig.Rd w a l) := h
  have hz' : Hid (∀ k, k < l.length → 0 ≤ MemSig.f0At l k ∧ MemSig.f0At l k ≤ 1000 ∧ 0 ≤ MemSig.f1At l k ∧ MemSig.f1At l k ≤ 1000) := hz
  have hL : Hid (∀ k, k ≤ l.length → (catP (fun k => sigB (MemSig.f0At l k).toNat (MemSig.f1At l k).toNat) k).length ≤ k * 2100) := fun k hk => ModB.catP_len k (fun j hj => by
    obtain ⟨x0, x1, x2, x3⟩ := hz j (by omega)
    have e1 := vsB_len ((MemSig.f0At l j).toNat : Int) (MemSig.f0At l j).toNat
    have e2 := vsB_len ((MemSig.f1At l j).toNat : Int) (MemSig.f1At l j).toNat
    unfold sigB
    simp at e1 e2 ⊢
    omega)
  generalize hF : (fun k => sigB (MemSig.f0At l k).toNat (MemSig.f1At l k).toNat) = F at *
  have hF' : Hid (∀ k, F k = sigB (MemSig.f0At l k).toNat (MemSig.f1At l k).toNat) := fun k => by rw [← hF]
  clear h hF hz
  go_enter Tryz.func26, Tryz.ntmps26
  go_wp2_with fail
  go_loopw [3, 11] (fun vb vk wr => ∃ (k g N cp : Nat), k ≤ l.length ∧ vk = .int .i64 k ∧ vb = .slice (some ⟨g, 0, none⟩) N cp ∧ N = (catP F k).length ∧ PutU.Own w.heap.size wr (.slice (some ⟨g, 0, none⟩) N cp) (catP F k) ∧ Below w.heap.size w wr) (fun _ vk _ => l.length - (intOf vk).toNat)
  case atStart => exact ⟨0, w.heap.size, 0, 0, Nat.zero_le _, rfl, rfl, rfl, World.ownsRow_made w #[] 0 (Nat.le_refl _) (by decide) rfl, al w _⟩
  case round =>
    obtain ⟨k, g, N, cp, hk, rfl, rfl, hN, hO, hbel⟩ := hrel
    have hO' : Hid (PutU.Own w.heap.size wr (.slice (some ⟨g, 0, none⟩) N cp) (catP F k)) := hO
    have hN' : Hid (N = (catP F k).length) := hN
    have hbel' : Hid (Below w.heap.size w wr) := hbel
    have hgw : g < wr.heap.size := (World.ownsRow.lt hO g rfl).2
    clear hN hO
    by_cases hlt : k < l.length
    · have hlt' : (k : Int) < (l.length : Int) := by omega
      rcases h'.out.later hbel with h0 | ⟨b, off, ha, hc⟩
      · omega
      · obtain ⟨c0, c1⟩ := hc k hlt
        subst ha
        obtain ⟨x0, x1, x2, x3⟩ := hz'.out k hlt
        have e1 : Hid (catP F (k + 1) = catP F k ++ [96] ++ vsB ((MemSig.f0At l k).toNat : Int) (MemSig.f0At l k).toNat ++ vsB ((MemSig.f1At l k).toNat : Int) (MemSig.f1At l k).toNat) := by
          show _ = _
          rw [catP, hF'.out]
          unfold sigB
          simp [List.append_assoc]
        have y0 : MemSig.f0At l k = ((MemSig.f0At l k).toNat : Int) := by omega
        have y1 : MemSig.f1At l k = ((MemSig.f1At l k).toNat : Int) := by omega
        rw [y0] at c0
        rw [y1] at c1
        have t0 : (MemSig.f0At l k).toNat ≤ 1000 := by omega
        have t1 : (MemSig.f1At l k).toNat ≤ 1000 := by omega
        have hlk := hL.out k hk
        clear hc hbel x0 x1 x2 x3 y0 y1
        generalize (MemSig.f0At l k).toNat = pa at *
        generalize (MemSig.f1At l k).toNat = re at *
        generalize catP F k = bs at *
        have z1 := uv_len (pa : Int)
        have kA : Hid (∀ (u : World) (ad : Addr) (N cp : Nat), N = (bs ++ [96]).length → RdB u (some ad) (bs ++ [96]) → Calls Tryz.prog 76 #[.slice (some ad) N cp, .int .i64 (pa : Int)] u fun e w' => ∃ v, e = .returned v ∧ PutU.Own u.heap.size w' v (bs ++ [96] ++ vsB (pa : Int) 0) ∧ Below u.heap.size u w') := fun u ad N cp h1 hr => by
          rw [show vsB (pa : Int) 0 = uv (pa : Int) by unfold vsB; simp]
          exact putU_n u ad N cp _ _ h1 hr (by simp; omega)
        have kC : Hid (∀ (u : World) (ad : Addr) (N cp : Nat), N = (bs ++ [96] ++ vsB (pa : Int) pa).length → RdB u (some ad) (bs ++ [96] ++ vsB (pa : Int) pa) → Calls Tryz.prog 76 #[.slice (some ad) N cp, .int .i64 (re : Int)] u fun e w' => ∃ v, e = .returned v ∧ PutU.Own u.heap.size w' v (bs ++ [96] ++ vsB (pa : Int) pa ++ vsB (re : Int) 0) ∧ Below u.heap.size u w') := fun u ad N cp h1 hr => by
          rw [show vsB (re : Int) 0 = uv (re : Int) by unfold vsB; simp]
          exact putU_n u ad N cp _ _ h1 hr (by have := vsB_len (pa : Int) pa; simp; omega)
        have hl1 : Hid (bs.length + [96].length ≤ 134217728) := by show _ ≤ _; simp; omega
        have BU : Hid (Below w.heap.size w (wr.alloc (.cells #[.int .i64 (pa : Int), .int .i64 (re : Int)] 77)).drew) := (hbel'.out.alloc hbel'.out.size _).drew
        have D0 : Hid (PutU.Own w.heap.size (wr.alloc (.cells #[.int .i64 (pa : Int), .int .i64 (re : Int)] 77)).drew (.slice (some ⟨g, 0, none⟩) N cp) bs) := World.ownsRow.alloc hO'.out _
        have X0 : Hid (Box2 (wr.alloc (.cells #[.int .i64 (pa : Int), .int .i64 (re : Int)] 77)).drew wr.heap.size (.int .i64 (pa : Int)) (.int .i64 (re : Int))) := ⟨by simp, by simp⟩
        have NE : Hid (some wr.heap.size ≠ (Value.slice (some ⟨g, 0, none⟩) N cp).ownBlock) := (by show some wr.heap.size ≠ some g; simp; omega)
        have LB : Hid (∀ k, (Value.slice (some ⟨g, 0, none⟩) N cp).ownBlock = some k → w.heap.size ≤ k) := fun k hk => (World.ownsRow.lt hO'.out k hk).1
        go_wp2_with fail
        go_region_held3 (fun w' => w'.cell? ⟨wr.heap.size, 0, none⟩ = some (.int .i64 (pa : Int))) (go_keep)
          ((first
            | (refine step_appB (bs := bs) rfl _ _ rfl (by exact World.ownsRow.alloc D0.out _) (by exact (b_al BU.out (Nat.le_refl _) _).size) _ [96] _ _ rfl (by exact (rd_at (wr.alloc (.cells #[.int .i64 (pa : Int), .int .i64 (re : Int)] 77)) _ [96] #[.int .u8 96] (by simp) rfl (by decide)).later (Below.refl _ _).drew) (by simp) hl1.out rfl rfl ?_; intro g1 cp1 N1 w1 hN1 o1 q1; have O1 : Hid (PutU.Own w.heap.size w1 (.slice (some ⟨g1, 0, none⟩) N1 cp1) (bs ++ [96])) := o1; have H1 : Hid (N1 = (bs ++ [96]).length) := hN1; have XB : Hid (Box2 w1 wr.heap.size (.int .i64 (pa : Int)) (.int .i64 (re : Int)) ∧ Below w.heap.size w w1) := app_keep2 q1 NE.out LB.out (X0.out.later (al _ _)) (b_al BU.out (Nat.le_refl _) _) (Nat.le_refl _); have X1 : Hid (Box2 w1 wr.heap.size (.int .i64 (pa : Int)) (.int .i64 (re : Int))) := XB.out.1; have B1 : Hid (Below w.heap.size w w1) := XB.out.2; clear XB o1 hN1 q1 D0; obtain ⟨_, _⟩ := X1.out)
            | (go_at_call 76; refine (kA.out _ _ _ _ H1.out (own_rd' H1.out O1.out)).mono ?_; rintro e w2 ⟨v2, rfl, o2, q2⟩; clear kA; obtain ⟨g2, cp2, N2, rfl, hN2, _⟩ := blk_n o2 (by simp); have O2 : Hid (PutU.Own w1.heap.size w2 (.slice (some ⟨g2, 0, none⟩) N2 cp2) (bs ++ [96] ++ vsB (pa : Int) 0)) := o2; clear o2; have X2 : Hid (Box2 w2 wr.heap.size (.int .i64 (pa : Int)) (.int .i64 (re : Int))) := X1.out.later q2; have B2 : Hid (Below w.heap.size w w2) := B1.out.trans (q2.mono B1.out.size); obtain ⟨_, _⟩ := X2.out)))
        have M1 : Hid (wr.heap.size + 1 ≤ w1.heap.size) := World.block_lt_of_cell? w1 _ X1.out.1
        go_wp2_with fail
        have hbw : w.heap.size ≤ wr.heap.size := hbel'.out.size
        clear X0 X1 B1 O1 H1 NE LB BU hgw hO' hN'
        generalize wr.heap.size = bx at *
        go_loopw [3, 6] (fun vb vj wr => ∃ (j g' N' cp' : Nat), j ≤ pa ∧ vj = .int .i64 j ∧ vb = .slice (some ⟨g', 0, none⟩) N' cp' ∧ N' = (bs ++ [96] ++ vsB (pa : Int) j).length ∧ PutU.Own (bx + 1) wr (.slice (some ⟨g', 0, none⟩) N' cp') (bs ++ [96] ++ vsB (pa : Int) j) ∧ Box2 wr bx (.int .i64 (pa : Int)) (.int .i64 (re : Int)) ∧ Below w.heap.size w wr) (fun _ vj _ => pa - (intOf vj).toNat)
        case atStart => exact ⟨0, g2, N2, cp2, Nat.zero_le _, rfl, rfl, hN2.out, own_mono O2.out M1.out, X2.out, B2.out⟩
        case round =>
          obtain ⟨j, g', N', cp', hj, rfl, rfl, hNj, hOj, hXj, hBj⟩ := hrel
          have Nj : Hid (N' = (bs ++ [96] ++ vsB (pa : Int) j).length) := hNj
          have Oj : Hid (PutU.Own (bx + 1) wr (.slice (some ⟨g', 0, none⟩) N' cp') (bs ++ [96] ++ vsB (pa : Int) j)) := hOj
          have Xj : Hid (Box2 wr bx (.int .i64 (pa : Int)) (.int .i64 (re : Int))) := hXj
          have Bj : Hid (Below w.heap.size w wr) := hBj
          have lj := vsB_len (pa : Int) j
          have Sj : Hid (bx + 1 ≤ wr.heap.size) := World.block_lt_of_cell? wr _ hXj.1
          have gj : Hid (bx + 1 ≤ g') := (World.ownsRow.lt hOj g' rfl).1
          obtain ⟨d0, d1⟩ := hXj
          clear hNj hOj hBj
          by_cases hjl : j < pa
          · have hjl' : (j : Int) < (pa : Int) := by omega
            have sj : Hid ((bs ++ [96] ++ vsB (pa : Int) j).length ≤ 134217728) := by show _ ≤ _; simp; omega
            have NEj : Hid (some bx ≠ (Value.slice (some ⟨g', 0, none⟩) N' cp').ownBlock) := (by show some bx ≠ some g'; have := gj.out; simp; omega)
            have LBj : Hid (∀ k, (Value.slice (some ⟨g', 0, none⟩) N' cp').ownBlock = some k → w.heap.size ≤ k) := fun k hk => by
              have := (World.ownsRow.lt Oj.out k hk).1
              have := hbw
              omega
            go_wp2_with (at_builtin; refine wp_appc127 rfl _ _ rfl Oj.out Sj.out sj.out rfl _ _ (by simp) rfl ?_; intro g5 cp5 N5 w5 hN5 o5 q5; have O5 : Hid (PutU.Own (bx + 1) w5 (.slice (some ⟨g5, 0, none⟩) N5 cp5) (bs ++ [96] ++ vsB (pa : Int) j ++ [127])) := o5; have H5 : Hid (N5 = (bs ++ [96] ++ vsB (pa : Int) j ++ [127]).length) := hN5; have XB : Hid (Box2 w5 bx (.int .i64 (pa : Int)) (.int .i64 (re : Int)) ∧ Below w.heap.size w w5) := app_keep2 q5 NEj.out LBj.out (Xj.out.later (al _ _)) (b_al Bj.out (Nat.le_refl _) _) (Nat.le_refl _); clear o5 hN5 q5 Oj)
            go_roundw
            case rel =>
              have e5 : bs ++ [96] ++ vsB (pa : Int) j ++ [127] = bs ++ [96] ++ vsB (pa : Int) (j + 1) := by rw [List.append_assoc, vsB_step]
              exact ⟨j + 1, g5, N5, cp5, by omega, by go_num, rfl, by rw [← e5]; exact H5.out, by rw [← e5]; exact O5.out, XB.out.1, XB.out.2⟩
            case measure => simp [intOf]; omega
          · have hjp : j = pa := by omega
            rw [hjp] at Nj Oj
            have hjl' : ¬ (j : Int) < (pa : Int) := by omega
            clear hjl
            go_wp2_with (go_at_call 76; refine (kC.out _ _ _ _ Nj.out (own_rd' Nj.out Oj.out)).mono ?_; rintro e w6 ⟨v6, rfl, o6, q6⟩; clear kC; obtain ⟨g6, cp6, N6, rfl, hN6, _⟩ := blk_n o6 (by simp); have O6 : Hid (PutU.Own wr.heap.size w6 (.slice (some ⟨g6, 0, none⟩) N6 cp6) (bs ++ [96] ++ vsB (pa : Int) pa ++ vsB (re : Int) 0)) := o6; clear o6; have X6 : Hid (Box2 w6 bx (.int .i64 (pa : Int)) (.int .i64 (re : Int))) := Xj.out.later q6; have B6 : Hid (Below w.heap.size w w6) := Bj.out.trans (q6.mono Bj.out.size); obtain ⟨_, _⟩ := X6.out)
            go_loopw [3, 7] (fun vb vj wr => ∃ (j g' N' cp' : Nat), j ≤ re ∧ vj = .int .i64 j ∧ vb = .slice (some ⟨g', 0, none⟩) N' cp' ∧ N' = (bs ++ [96] ++ vsB (pa : Int) pa ++ vsB (re : Int) j).length ∧ PutU.Own (bx + 1) wr (.slice (some ⟨g', 0, none⟩) N' cp') (bs ++ [96] ++ vsB (pa : Int) pa ++ vsB (re : Int) j) ∧ Box2 wr bx (.int .i64 (pa : Int)) (.int .i64 (re : Int)) ∧ Below w.heap.size w wr) (fun _ vj _ => re - (intOf vj).toNat)
            case atStart => exact ⟨0, g6, N6, cp6, Nat.zero_le _, rfl, rfl, hN6.out, own_mono O6.out Sj.out, X6.out, B6.out⟩
            case round =>
              have lp := vsB_len (pa : Int) pa
              clear Nj Oj Xj Bj Sj gj lj hj hjp hjl' d0 d1
              obtain ⟨j, g', N', cp', hj, rfl, rfl, hNj, hOj, hXj, hBj⟩ := hrel
              have Nj : Hid (N' = (bs ++ [96] ++ vsB (pa : Int) pa ++ vsB (re : Int) j).length) := hNj
              have Oj : Hid (PutU.Own (bx + 1) wr (.slice (some ⟨g', 0, none⟩) N' cp') (bs ++ [96] ++ vsB (pa : Int) pa ++ vsB (re : Int) j)) := hOj
              have Xj : Hid (Box2 wr bx (.int .i64 (pa : Int)) (.int .i64 (re : Int))) := hXj
              have Bj : Hid (Below w.heap.size w wr) := hBj
              have lj := vsB_len (re : Int) j
              have Sj : Hid (bx + 1 ≤ wr.heap.size) := World.block_lt_of_cell? wr _ hXj.1
              have gj : Hid (bx + 1 ≤ g') := (World.ownsRow.lt hOj g' rfl).1
              obtain ⟨d0, d1⟩ := hXj
              clear hNj hOj hBj
              by_cases hjl : j < re
              · have hjl' : (j : Int) < (re : Int) := by omega
                have sj : Hid ((bs ++ [96] ++ vsB (pa : Int) pa ++ vsB (re : Int) j).length ≤ 134217728) := by show _ ≤ _; simp; omega
                have NEj : Hid (some bx ≠ (Value.slice (some ⟨g', 0, none⟩) N' cp').ownBlock) := (by show some bx ≠ some g'; have := gj.out; simp; omega)
                have LBj : Hid (∀ k, (Value.slice (some ⟨g', 0, none⟩) N' cp').ownBlock = some k → w.heap.size ≤ k) := fun k hk => by
                  have := (World.ownsRow.lt Oj.out k hk).1
                  have := hbw
                  omega
                go_wp2_with (at_builtin; refine wp_appc127 rfl _ _ rfl Oj.out Sj.out sj.out rfl _ _ (by simp) rfl ?_; intro g5 cp5 N5 w5 hN5 o5 q5; have O5 : Hid (PutU.Own (bx + 1) w5 (.slice (some ⟨g5, 0, none⟩) N5 cp5) (bs ++ [96] ++ vsB (pa : Int) pa ++ vsB (re : Int) j ++ [127])) := o5; have H5 : Hid (N5 = (bs ++ [96] ++ vsB (pa : Int) pa ++ vsB (re : Int) j ++ [127]).length) := hN5; have XB : Hid (Box2 w5 bx (.int .i64 (pa : Int)) (.int .i64 (re : Int)) ∧ Below w.heap.size w w5) := app_keep2 q5 NEj.out LBj.out (Xj.out.later (al _ _)) (b_al Bj.out (Nat.le_refl _) _) (Nat.le_refl _); clear o5 hN5 q5 Oj)
                go_roundw
                case rel =>
                  have e5 : bs ++ [96] ++ vsB (pa : Int) pa ++ vsB (re : Int) j ++ [127] = bs ++ [96] ++ vsB (pa : Int) pa ++ vsB (re : Int) (j + 1) := by rw [List.append_assoc, vsB_step]
                  exact ⟨j + 1, g5, N5, cp5, by omega, by go_num, rfl, by rw [← e5]; exact H5.out, by rw [← e5]; exact O5.out, XB.out.1, XB.out.2⟩
                case measure => simp [intOf]; omega
              · have hjp : j = re := by omega
                rw [hjp] at Nj Oj
                have hjl' : ¬ (j : Int) < (re : Int) := by omega
                clear hjl
                go_wp2_with fail
                go_roundw
                case rel => exact ⟨k + 1, g', N', cp', by omega, by go_num, rfl, by rw [e1.out]; exact Nj.out, by rw [e1.out]; exact own_mono Oj.out (by omega), Bj.out⟩
                case measure => simp [intOf]; omega
    · obtain rfl : k = l.length := by omega
      clear hbel
      go_wp2_with fail
      go_ret
      exact ⟨g, N, cp, rfl, hN'.out, hO'.out, hbel'.out⟩
end Go.Proofs.YtffngjgjhialnaaGreatDoor.SpecSigs
