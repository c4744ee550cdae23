/-
  What the program's ModuleBytes answers when it is called. (Written by my wrmodule.py.)
-/
import Derived.Test.YtffngjgjhialnaaGreatDoorModB
import Derived.Lib.SlBytesConst
namespace Go.Proofs.YtffngjgjhialnaaGreatDoor.WrModule
open Go.RowKit PlainOps NameCalls PlainNum PlainLeb NumCalls ByteMem PutU ImplPut ImplApp PlainBytes ByteWr InsCalls InsImpl PlainShape InsMem PlainAll EveryIns WrIns WrBody WrMod WrParts WrSec ModMem FormImpl ModB
/-- The head of all modules. -/
theorem head8 {p : Nat} {w0 u : World} {v0 v : Value} {bs : List UInt8} (h : WS p w0 v0 u v bs) (g : Nat) (t : TypeId) (fr : Nat × Nat) (hg : g = u.heap.size) (hl : bs.length ≤ 67000000) :
    Calls Tryz.prog 39 #[.pointer (some ⟨p, 0, none⟩), .slice (some ⟨g, 0, none⟩) 8 8] (u.alloc (.cells #[.int .u8 0, .int .u8 97, .int .u8 115, .int .u8 109, .int .u8 1, .int .u8 0, .int .u8 0, .int .u8 0] t fr)) (Done p w0 v0 (bs ++ headB)) := by
  subst hg
  obtain ⟨fr1, fr2⟩ := fr
  refine (h.alloc (.cells #[.int .u8 0, .int .u8 97, .int .u8 115, .int .u8 109, .int .u8 1, .int .u8 0, .int .u8 0, .int .u8 0] t (fr1, fr2))).put (b2 := headB) ⟨u.heap.size, 0, none⟩ 8 hl (by decide) (by decide) fun j x hj => ?_
  have hh := World.alloc_heap_new u (.cells #[.int .u8 0, .int .u8 97, .int .u8 115, .int .u8 109, .int .u8 1, .int .u8 0, .int .u8 0, .int .u8 0] t (fr1, fr2))
  match j with
  | 0 => simp [headB, Lib.byteCells] at hj; subst hj; show World.cell? _ ⟨u.heap.size, 0, none⟩ = _; unfold World.cell?; rw [hh]; rfl
  | 1 => simp [headB, Lib.byteCells] at hj; subst hj; show World.cell? _ ⟨u.heap.size, 1, none⟩ = _; unfold World.cell?; rw [hh]; rfl
  | 2 => simp [headB, Lib.byteCells] at hj; subst hj; show World.cell? _ ⟨u.heap.size, 2, none⟩ = _; unfold World.cell?; rw [hh]; rfl
  | 3 => simp [headB, Lib.byteCells] at hj; subst hj; show World.cell? _ ⟨u.heap.size, 3, none⟩ = _; unfold World.cell?; rw [hh]; rfl
  | 4 => simp [headB, Lib.byteCells] at hj; subst hj; show World.cell? _ ⟨u.heap.size, 4, none⟩ = _; unfold World.cell?; rw [hh]; rfl
  | 5 => simp [headB, Lib.byteCells] at hj; subst hj; show World.cell? _ ⟨u.heap.size, 5, none⟩ = _; unfold World.cell?; rw [hh]; rfl
  | 6 => simp [headB, Lib.byteCells] at hj; subst hj; show World.cell? _ ⟨u.heap.size, 6, none⟩ = _; unfold World.cell?; rw [hh]; rfl
  | 7 => simp [headB, Lib.byteCells] at hj; subst hj; show World.cell? _ ⟨u.heap.size, 7, none⟩ = _; unfold World.cell?; rw [hh]; rfl
  | j + 8 => simp [headB, Lib.byteCells] at hj
theorem own_below' {B : Nat} {w w' : World} {v : Value} {bs : List UInt8} (h : PutU.Own B w v bs) (hb : Below w.heap.size w w') : PutU.Own B w' v bs := by
  refine ⟨h.1, ?_⟩
  rcases h.2 with h0 | ⟨g, cap, cur, hv, hg, hh, r⟩
  · exact .inl h0
  · exact .inr ⟨g, cap, cur, hv, hg, by rw [hb.block g (Array.getElem?_eq_some_iff.1 hh).1]; exact hh, r⟩
theorem ws_below {p : Nat} {w0 u u' : World} {v0 v : Value} {bs : List UInt8} (h : WS p w0 v0 u v bs) (hb : Below u.heap.size u u') : WS p w0 v0 u' v bs := by
  have hg : u.grownBy u' none := ⟨hb.os, hb.tape, hb.output, hb.size, fun k hk _ => hb.block k hk⟩
  exact ⟨⟨h.wr.box.kept hg (by simp), own_below' h.wr.own hb⟩, h.wa.trans ⟨hb.os, hb.tape, hb.output, hb.size, fun k hk _ _ => hb.block k hk, .inl rfl⟩⟩
theorem secB_zero (id : UInt8) (b : List UInt8) : secB id 0 b = [] := rfl
set_option maxHeartbeats 2000000 in
theorem memoriesOf (p : P) (m : M) (w : World) :
    Calls Tryz.prog 47 #[val p m] w fun e w' => ∃ (a : Option Addr) (c : Nat) (l : List MemSig.E), e = .returned (.slice a l.length c) ∧ l.length = mc m ∧ (∀ k, k < l.length → MemSig.f0At l k = m.pages ∧ MemSig.f1At l k = m.most) ∧ MemSig.Rd w' a l ∧ Below w.heap.size w w' := by
  obtain ⟨a0, c0, a1, c1, a2, c2, a3, c3, a4, c4, a5, c5⟩ := p
  obtain ⟨sigs, imps, fns, pages, most, gls, exs, dat⟩ := m
  simp only [val, mc]
  generalize sigs.length = l0 at *
  generalize imps.length = l1 at *
  generalize fns.length = l2 at *
  generalize gls.length = l3 at *
  generalize exs.length = l4 at *
  generalize dat.length = l5 at *
  by_cases hp : pages = -1
  · have d1 : (pages == -1) = true := beq_iff_eq.2 hp
    have e1 : Hid ((if pages = -1 then 0 else 1) = 0) := if_pos hp
    rw [e1.out]
    clear hp
    go_enter Tryz.func47, Tryz.ntmps47
    go_wp2_with fail
    go_ret
    exact ⟨none, 0, [], rfl, rfl, fun k hk => by simp at hk, .inl rfl, (Below.refl _ _).alloc (Nat.le_refl _) _⟩
  · have d1 : (pages == -1) = false := beq_eq_false_iff_ne.2 hp
    have e1 : Hid ((if pages = -1 then 0 else 1) = 1) := if_neg hp
    rw [e1.out]
    clear hp
    go_enter Tryz.func47, Tryz.ntmps47
    go_wp2_with fail
    go_ret
    refine ⟨some ⟨w.heap.size + 1, 0, none⟩, 1, [(pages, most)], rfl, rfl, fun k hk => ?_, .inr ⟨_, 0, rfl, fun k hk => ?_⟩, ((Below.refl _ _).alloc (Nat.le_refl _) _).alloc (by simp) _⟩
    · obtain rfl : k = 0 := by simpa using hk
      exact ⟨rfl, rfl⟩
    · obtain rfl : k = 0 := by simpa using hk
      simp [MemSig.f0At, MemSig.f1At]
set_option maxRecDepth 20000 in
set_option maxHeartbeats 16000000 in
theorem impl_moduleBytes (w : World) (p : P) (m : M) (h : Rd w p m) (hs : Small m) (hd : ∀ k, k < m.dat.length → ∃ g off, (MemData.at1 m.dat k).ad = some ⟨g, off, none⟩) (ht : Tab w) (hU : FormCalls.Utf w) :
    Calls Tryz.prog 8 #[val p m] w fun e w' => ∃ v, e = .returned (.tuple #[v, .bool (formOk m)]) ∧ PutU.Own w.heap.size w' v (modB m) ∧ Below w.heap.size w w' := by
  have kF : Hid (∀ u, Below w.heap.size w u → Calls Tryz.prog 38 #[val p m] u fun e w' => e = .returned (.bool (formOk m)) ∧ Below u.heap.size u w') := fun u hu => impl_formOk u p m (h.later hu) hs (ht.later hu) (UtfLaw.tabs_later hU hu)
  cases hf : formOk m with
  | false =>
    have e1 : Hid (modB m = []) := if_neg (by rw [hf]; decide)
    rw [hf] at kF
    obtain ⟨a0, c0, a1, c1, a2, c2, a3, c3, a4, c4, a5, c5⟩ := p
    obtain ⟨sigs, imps, fns, pages, most, gls, exs, dat⟩ := m
    simp only [val] at kF ⊢
    clear h hs hd ht hU hf
    have ba : Hid (Below w.heap.size w (w.alloc (.cells #[.slice a0 sigs.length c0, .slice a1 imps.length c1, .slice a2 fns.length c2, .int .i64 pages, .int .i64 most, .slice a3 gls.length c3, .slice a4 exs.length c4, .slice a5 dat.length c5] 41))) := (Below.refl _ _).alloc (Nat.le_refl _) _
    go_enter Tryz.func8, Tryz.ntmps8
    go_wp2_with (go_at_call 38; refine (kF.out _ ba.out).mono ?_; rintro e w1 ⟨rfl, q1⟩)
    go_ret2
    exact ⟨_, rfl, by rw [e1.out]; exact World.ownsRow_nil _ _ _ _, ba.out.trans (q1.mono ba.out.size)⟩
  | true =>
    have g := good_of hf
    have e1 : Hid (modB m = allB m) := if_pos hf
    have hlen := allB_len g
    rw [hf] at kF
    have l0 := FS_len g
    have l1 := FI_len g
    have l2 := FF_len g
    have l3 := FM_len m
    have l4 := FG_len g
    have l5 := FE_len g
    have l6 := FB_len g
    have l7 := FD_len g
    have j0 : Hid (∀ P u v bs, Wr P u v bs → Below w.heap.size w u → bs.length ≤ 3000000 → Calls Tryz.prog 40 #[.pointer (some ⟨P, 0, none⟩), .int .u8 1, .slice p.a0 m.sigs.length p.c0, .func (.func 41) #[] #[]] u (Wrote P u v (bs ++ secs m 0))) := fun P u v bs hw hu hl =>
      sec_Sig P w u v bs 1 1 rfl p.a0 p.c0 m.sigs (FS m) h.1 hu hw hs.n0 (by omega) (by omega) (fun k u' v' bs' hk _ _ hw' hl' => by
        obtain ⟨x0, x1, x2, x3⟩ := g.g0 k hk
        have := putSig u.heap.size u' v' bs' (MemSig.f0At m.sigs k).toNat (MemSig.f1At m.sigs k).toNat hw' (by omega) (by omega) (by omega)
        rw [show (((MemSig.f0At m.sigs k).toNat : Nat) : Int) = MemSig.f0At m.sigs k by omega, show (((MemSig.f1At m.sigs k).toNat : Nat) : Int) = MemSig.f1At m.sigs k by omega] at this
        exact this)
    have j1 : Hid (∀ P u v bs, Wr P u v bs → Below w.heap.size w u → bs.length ≤ 3000000 → Calls Tryz.prog 42 #[.pointer (some ⟨P, 0, none⟩), .int .u8 2, .slice p.a1 m.imps.length p.c1, .func (.func 43) #[] #[]] u (Wrote P u v (bs ++ secs m 1))) := fun P u v bs hw hu hl =>
      sec_Import P w u v bs 2 2 rfl p.a1 p.c1 m.imps (FI m) h.2.1 hu hw hs.n1 (by omega) (by omega) (fun k u' v' bs' hk _ _ hw' hl' => putImport u.heap.size u' v' bs' _ _ _ hw' (by omega) (by have := g.g1 k hk; omega) (by have := g.g1 k hk; omega))
    have j2 : Hid (∀ P u v bs, Wr P u v bs → Below w.heap.size w u → bs.length ≤ 3000000 → Calls Tryz.prog 44 #[.pointer (some ⟨P, 0, none⟩), .int .u8 3, .slice p.a2 m.fns.length p.c2, .func (.func 45) #[] #[]] u (Wrote P u v (bs ++ secs m 2))) := fun P u v bs hw hu hl =>
      sec_FuncSig P w u v bs 3 3 rfl p.a2 p.c2 m.fns (FF m) h.2.2.1 hu hw hs.n2 (by omega) (by omega) (fun k u' v' bs' hk _ _ hw' hl' => putFuncSig u.heap.size u' v' bs' _ _ _ _ _ hw' (by omega))
    have kM : Hid (∀ u, Calls Tryz.prog 47 #[val p m] u fun e w' => ∃ (a : Option Addr) (c : Nat) (l : List MemSig.E), e = .returned (.slice a l.length c) ∧ l.length = mc m ∧ (∀ k, k < l.length → MemSig.f0At l k = m.pages ∧ MemSig.f1At l k = m.most) ∧ MemSig.Rd w' a l ∧ Below u.heap.size u w') := fun u => memoriesOf p m u
    have j3 : Hid (∀ P u v bs a c l, Wr P u v bs → l.length = mc m → (∀ k, k < l.length → MemSig.f0At l k = m.pages ∧ MemSig.f1At l k = m.most) → MemSig.Rd u a l → bs.length ≤ 3000000 → Calls Tryz.prog 46 #[.pointer (some ⟨P, 0, none⟩), .int .u8 5, .slice a l.length c, .func (.func 48) #[] #[]] u (Wrote P u v (bs ++ secs m 3))) := fun P u v bs a c l hw hn he hr hl => by
      have := sec_memory P u u v bs 5 5 rfl a c l (FM m) hr (Below.refl _ _) hw (by rw [hn]; unfold mc; split <;> omega) (by omega) (by rw [hn]; omega) (fun k u' v' bs' hk _ _ hw' hl' => by
        obtain ⟨x, y⟩ := he k hk
        rw [x, y]
        exact putMemory u.heap.size u' v' bs' _ _ hw' (by omega))
      rw [hn] at this ⊢
      exact this
    have j4 : Hid (∀ P u v bs, Wr P u v bs → Below w.heap.size w u → bs.length ≤ 3000000 → Calls Tryz.prog 49 #[.pointer (some ⟨P, 0, none⟩), .int .u8 6, .slice p.a3 m.gls.length p.c3, .func (.func 50) #[] #[]] u (Wrote P u v (bs ++ secs m 4))) := fun P u v bs hw hu hl =>
      sec_Global P w u v bs 6 6 rfl p.a3 p.c3 m.gls (FG m) h.2.2.2.1 hu hw hs.n3 (by omega) (by omega) (fun k u' v' bs' hk _ _ hw' hl' => putGlobal u.heap.size u' v' bs' _ _ hw' (by omega))
    have j5 : Hid (∀ P u v bs, Wr P u v bs → Below w.heap.size w u → bs.length ≤ 3000000 → Calls Tryz.prog 51 #[.pointer (some ⟨P, 0, none⟩), .int .u8 7, .slice p.a4 m.exs.length p.c4, .func (.func 52) #[] #[]] u (Wrote P u v (bs ++ secs m 5))) := fun P u v bs hw hu hl =>
      sec_Export P w u v bs 7 7 rfl p.a4 p.c4 m.exs (FE m) h.2.2.2.2.1 hu hw hs.n4 (by omega) (by omega) (fun k u' v' bs' hk _ _ hw' hl' => putExport u.heap.size u' v' bs' _ _ _ hw' (by omega) (by have := g.g4 k hk; omega))
    have j6 : Hid (∀ P u v bs, Wr P u v bs → Below w.heap.size w u → bs.length ≤ 3000000 → Calls Tryz.prog 44 #[.pointer (some ⟨P, 0, none⟩), .int .u8 10, .slice p.a2 m.fns.length p.c2, .func (.func 53) #[] #[]] u (Wrote P u v (bs ++ secs m 6))) := fun P u v bs hw hu hl =>
      sec_FuncBody P w u v bs 10 10 rfl p.a2 p.c2 m.fns (FB m) h.2.2.1 hu hw hs.n2 (by omega) (by omega) (fun k u' v' bs' hk hu' _ hw' hl' => putFuncBody u.heap.size w u' v' bs' _ _ _ _ _ (body_at h.2.2.1 hk) hu' (by have := (g.g2 k hk).1; omega) (g.g2 k hk).2.1 hw' (by omega) (by have := (g.g2 k hk).1; omega))
    have j7 : Hid (∀ P u v bs, Wr P u v bs → Below w.heap.size w u → bs.length ≤ 3000000 → Calls Tryz.prog 54 #[.pointer (some ⟨P, 0, none⟩), .int .u8 11, .slice p.a5 m.dat.length p.c5, .func (.func 55) #[] #[]] u (Wrote P u v (bs ++ secs m 7))) := fun P u v bs hw hu hl =>
      sec_Data P w u v bs 11 11 rfl p.a5 p.c5 m.dat (FD m) h.2.2.2.2.2 hu hw hs.n5 (by omega) (by omega) (fun k u' v' bs' hk hu' hq hw' hl' => by
        obtain ⟨gg, off, ead⟩ := hd k hk
        have hr := dB_rd (data_at h.2.2.2.2.2 hk)
        have hn5 := g.g5 k hk
        have hl5 := dB_len (MemData.at1 m.dat k)
        have hsz := hu.size
        rw [ead] at hr ⊢
        have := putData u.heap.size u' v' bs' (dB (MemData.at1 m.dat k)) (MemData.at1 m.dat k).pos gg off (MemData.at1 m.dat k).cp hw' (by omega) (by omega) (hr.later hu') (fun hne => ?_)
        · rw [hl5] at this
          exact this
        · have hb : gg < w.heap.size := rdb_block hr hne
          exact ⟨by omega, fun e => by have := (World.ownsRow.lt hw'.own gg e.symm).1; omega⟩)
    have hR : Hid (allB m = headB ++ secs m 0 ++ secs m 1 ++ secs m 2 ++ secs m 3 ++ secs m 4 ++ secs m 5 ++ secs m 6 ++ secs m 7) := rfl
    have hL : Hid ((headB ++ secs m 0 ++ secs m 1 ++ secs m 2 ++ secs m 3 ++ secs m 4 ++ secs m 5 ++ secs m 6 ++ secs m 7).length ≤ 2000000) := hlen
    generalize secs m 0 = s0 at *
    generalize secs m 1 = s1 at *
    generalize secs m 2 = s2 at *
    generalize secs m 3 = s3 at *
    generalize secs m 4 = s4 at *
    generalize secs m 5 = s5 at *
    generalize secs m 6 = s6 at *
    generalize secs m 7 = s7 at *
    have hL2 := hL.out
    simp only [List.length_append] at hL2
    generalize mc m = mcm at *
    obtain ⟨a0, c0, a1, c1, a2, c2, a3, c3, a4, c4, a5, c5⟩ := p
    obtain ⟨sigs, imps, fns, pages, most, gls, exs, dat⟩ := m
    simp only [val] at *
    clear h hs hd ht hU hf g hlen l0 l1 l2 l3 l4 l5 l6 l7
    have T0 : Hid (TI w (w.alloc (.cells #[.slice a0 sigs.length c0, .slice a1 imps.length c1, .slice a2 fns.length c2, .int .i64 pages, .int .i64 most, .slice a3 gls.length c3, .slice a4 exs.length c4, .slice a5 dat.length c5] 41)) (.slice a0 sigs.length c0) (.slice a1 imps.length c1) (.slice a2 fns.length c2) (.int .i64 pages) (.int .i64 most) (.slice a3 gls.length c3) (.slice a4 exs.length c4) (.slice a5 dat.length c5)) := ⟨r8_made w (.slice a0 sigs.length c0) (.slice a1 imps.length c1) (.slice a2 fns.length c2) (.int .i64 pages) (.int .i64 most) (.slice a3 gls.length c3) (.slice a4 exs.length c4) (.slice a5 dat.length c5) 41, (Below.refl _ _).alloc (Nat.le_refl _) _⟩
    go_enter Tryz.func8, Tryz.ntmps8
    go_wp2_with (go_at_call 38; refine (kF.out _ T0.out.bl).mono ?_; rintro e w1 ⟨rfl, q1⟩; have T1 : Hid (TI w w1 (.slice a0 sigs.length c0) (.slice a1 imps.length c1) (.slice a2 fns.length c2) (.int .i64 pages) (.int .i64 most) (.slice a3 gls.length c3) (.slice a4 exs.length c4) (.slice a5 dat.length c5)) := T0.out.call q1; have hsz1 := T1.out.ra.lt; have hS : Hid (WS w1.heap.size (wi w1) (.slice none 0 0) (wi w1) (.slice none 0 0) []) := WS.refl (wi_wr w1); have hK : Hid (∀ u v bs, WS w1.heap.size (wi w1) (.slice none 0 0) u v bs → TI w u (.slice a0 sigs.length c0) (.slice a1 imps.length c1) (.slice a2 fns.length c2) (.int .i64 pages) (.int .i64 most) (.slice a3 gls.length c3) (.slice a4 exs.length c4) (.slice a5 dat.length c5)) := fun u v bs hu => ⟨(T1.out.ra.alloc _).of_block (hu.wa.block _ (by simp; omega) (by omega) (by simp [Value.ownBlock])), (T1.out.bl.alloc T1.out.bl.size _).trans ((hu.wa.below (wi_wr w1)).mono T1.out.bl.size)⟩; clear kF; have hconv : (convert 31 31 (.slice (some ⟨w1.heap.size + 1, 0, none⟩) 8 8)).run Tryz.prog ((w1.alloc (.cells #[.slice none 0 0] 73)).alloc (.cells #[.int .u8 0, .int .u8 97, .int .u8 115, .int .u8 109, .int .u8 1, .int .u8 0, .int .u8 0, .int .u8 0] 5)) = .ok (.slice (some ⟨w1.heap.size + 1, 0, none⟩) 8 8) ((w1.alloc (.cells #[.slice none 0 0] 73)).alloc (.cells #[.int .u8 0, .int .u8 97, .int .u8 115, .int .u8 109, .int .u8 1, .int .u8 0, .int .u8 0, .int .u8 0] 5 (8, 9))) := by have := Lib.run_convert_bytes_const (P := Tryz.prog) (w1.alloc (.cells #[.slice none 0 0] 73)) 31 5 #[.int .u8 0, .int .u8 97, .int .u8 115, .int .u8 109, .int .u8 1, .int .u8 0, .int .u8 0, .int .u8 0] 8 8 Tryz.underlying31 Tryz.underlying5; simp only [World.size_alloc] at this; exact this)
    go_wp2_with (go_at_call 39; refine (head8 hS.out _ _ _ (by first | rfl | simp) (by simp)).mono ?_; rintro e x0 ⟨rfl, y0, z0⟩; have k0 : Hid (WS w1.heap.size (wi w1) (.slice none 0 0) x0 y0 (headB)) := z0; clear z0 hS; obtain ⟨_, _, _, _, _, _, _, _⟩ := r8 (hK.out _ _ _ k0.out).ra)
    go_wp2_with (go_at_call 40; refine (j0.out _ _ _ _ k0.out.wr (hK.out _ _ _ k0.out).bl (by first | omega | (simp only [List.length_append]; omega))).mono ?_; rintro e x1 ⟨rfl, y1, z1, u1⟩; have k1 : Hid (WS w1.heap.size (wi w1) (.slice none 0 0) x1 y1 (headB ++ s0)) := ⟨z1, k0.out.wa.trans u1⟩; clear z1 u1 j0 k0; obtain ⟨_, _, _, _, _, _, _, _⟩ := r8 (hK.out _ _ _ k1.out).ra)
    go_wp2_with (go_at_call 42; refine (j1.out _ _ _ _ k1.out.wr (hK.out _ _ _ k1.out).bl (by first | omega | (simp only [List.length_append]; omega))).mono ?_; rintro e x2 ⟨rfl, y2, z2, u2⟩; have k2 : Hid (WS w1.heap.size (wi w1) (.slice none 0 0) x2 y2 (headB ++ s0 ++ s1)) := ⟨z2, k1.out.wa.trans u2⟩; clear z2 u2 j1 k1; obtain ⟨_, _, _, _, _, _, _, _⟩ := r8 (hK.out _ _ _ k2.out).ra)
    go_wp2_with (go_at_call 44; refine (j2.out _ _ _ _ k2.out.wr (hK.out _ _ _ k2.out).bl (by first | omega | (simp only [List.length_append]; omega))).mono ?_; rintro e x3 ⟨rfl, y3, z3, u3⟩; have k3 : Hid (WS w1.heap.size (wi w1) (.slice none 0 0) x3 y3 (headB ++ s0 ++ s1 ++ s2)) := ⟨z3, k2.out.wa.trans u3⟩; clear z3 u3 j2 k2; obtain ⟨_, _, _, _, _, _, _, _⟩ := r8 (hK.out _ _ _ k3.out).ra)
    go_wp2_with (go_at_call 47; refine (kM.out _).mono ?_; rintro e xm ⟨am, cm, lm, rfl, m1, m2, m3, qm⟩; have k9 : Hid (WS w1.heap.size (wi w1) (.slice none 0 0) xm y3 (headB ++ s0 ++ s1 ++ s2)) := ws_below k3.out qm; have m2' : Hid (∀ k, k < lm.length → MemSig.f0At lm k = pages ∧ MemSig.f1At lm k = most) := m2; have m3' : Hid (MemSig.Rd xm am lm) := m3; have m1' : Hid (lm.length = mcm) := m1; clear m1 m2 m3 qm kM k3)
    go_wp2_with (go_at_call 46; refine (j3.out _ _ _ _ _ _ lm k9.out.wr m1'.out m2'.out m3'.out (by first | omega | (simp only [List.length_append]; omega))).mono ?_; rintro e x4 ⟨rfl, y4, z4, u4⟩; have k4 : Hid (WS w1.heap.size (wi w1) (.slice none 0 0) x4 y4 (headB ++ s0 ++ s1 ++ s2 ++ s3)) := ⟨z4, k9.out.wa.trans u4⟩; clear z4 u4 j3 k9; obtain ⟨_, _, _, _, _, _, _, _⟩ := r8 (hK.out _ _ _ k4.out).ra)
    go_wp2_with (go_at_call 49; refine (j4.out _ _ _ _ k4.out.wr (hK.out _ _ _ k4.out).bl (by first | omega | (simp only [List.length_append]; omega))).mono ?_; rintro e x5 ⟨rfl, y5, z5, u5⟩; have k5 : Hid (WS w1.heap.size (wi w1) (.slice none 0 0) x5 y5 (headB ++ s0 ++ s1 ++ s2 ++ s3 ++ s4)) := ⟨z5, k4.out.wa.trans u5⟩; clear z5 u5 j4 k4; obtain ⟨_, _, _, _, _, _, _, _⟩ := r8 (hK.out _ _ _ k5.out).ra)
    go_wp2_with (go_at_call 51; refine (j5.out _ _ _ _ k5.out.wr (hK.out _ _ _ k5.out).bl (by first | omega | (simp only [List.length_append]; omega))).mono ?_; rintro e x6 ⟨rfl, y6, z6, u6⟩; have k6 : Hid (WS w1.heap.size (wi w1) (.slice none 0 0) x6 y6 (headB ++ s0 ++ s1 ++ s2 ++ s3 ++ s4 ++ s5)) := ⟨z6, k5.out.wa.trans u6⟩; clear z6 u6 j5 k5; obtain ⟨_, _, _, _, _, _, _, _⟩ := r8 (hK.out _ _ _ k6.out).ra)
    go_wp2_with (go_at_call 44; refine (j6.out _ _ _ _ k6.out.wr (hK.out _ _ _ k6.out).bl (by first | omega | (simp only [List.length_append]; omega))).mono ?_; rintro e x7 ⟨rfl, y7, z7, u7⟩; have k7 : Hid (WS w1.heap.size (wi w1) (.slice none 0 0) x7 y7 (headB ++ s0 ++ s1 ++ s2 ++ s3 ++ s4 ++ s5 ++ s6)) := ⟨z7, k6.out.wa.trans u7⟩; clear z7 u7 j6 k6; obtain ⟨_, _, _, _, _, _, _, _⟩ := r8 (hK.out _ _ _ k7.out).ra)
    go_wp2_with (go_at_call 54; refine (j7.out _ _ _ _ k7.out.wr (hK.out _ _ _ k7.out).bl (by first | omega | (simp only [List.length_append]; omega))).mono ?_; rintro e x8 ⟨rfl, y8, z8, u8⟩; have k8 : Hid (WS w1.heap.size (wi w1) (.slice none 0 0) x8 y8 (headB ++ s0 ++ s1 ++ s2 ++ s3 ++ s4 ++ s5 ++ s6 ++ s7)) := ⟨z8, k7.out.wa.trans u8⟩; have hc8 := k8.out.wr.box.cell; clear z8 u8 j7 k7; obtain ⟨_, _, _, _, _, _, _, _⟩ := r8 (hK.out _ _ _ k8.out).ra)
    go_ret2
    refine ⟨y8, rfl, ?_, (hK.out _ _ _ k8.out).bl⟩
    rw [e1.out, hR.out]
    exact WrBody.own_mono k8.out.wr.own (by have := T1.out.bl.size; omega)
end Go.Proofs.YtffngjgjhialnaaGreatDoor.WrModule
