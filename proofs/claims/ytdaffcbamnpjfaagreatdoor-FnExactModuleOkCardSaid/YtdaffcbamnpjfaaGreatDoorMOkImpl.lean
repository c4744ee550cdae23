/-
  ModuleOk, as the program answers it: bodies, exports, names. (Written by my modok.py.)
-/
import Derived.Test.YtdaffcbamnpjfaaGreatDoorValidAll
import Derived.Test.YtdaffcbamnpjfaaGreatDoorFormEvery
namespace Go.Proofs.YtdaffcbamnpjfaaGreatDoor.MOkImpl
open Go.RowKit PlainOps NameCalls PlainNum NumCalls InsCalls InsImpl PlainShape InsMem PlainAll EveryIns ShapeCalls FormCalls FormEvery ModMem FormImpl PlainValid ValidCtx ValidMod Piles ValidIns ValidStep ValidWalk ValidHeights ValidFace ValidMax

def bRight (m : M) (k : Nat) : Bool := decide ((bodyOf m k).2 = -1)
/-- What is exported is there. -/
def xh (nf : Nat) (pg : Int) (ng : Nat) (kd' ix : Int) : Bool := if kd' = 0 then decide (ix < nf) else if kd' = 2 then decide (pg ≠ -1) && decide (ix = 0) else decide (ix < ng)
def xHas (m : M) (k : Nat) : Bool := xh (m.imps.length + m.fns.length) m.pages m.gls.length (MemExport.f1At m.exs k) (MemExport.f2At m.exs k)
/-- The name at k is none of those ahead of it. -/
def dif (l : List MemExport.E) (k : Nat) : Bool := allP (fun j => !decide (MemExport.f0At l k = MemExport.f0At l j)) k 0
def modOk (m : M) : Bool := formOk m && (allP (bRight m) m.fns.length 0 && (allP (dif m.exs) m.exs.length 0 && (allP (xHas m) m.exs.length 0 && (decide (m.dat.length = 0) || decide (m.pages ≠ -1)))))
theorem modOk_same {m m' : M} (s : Same m m') : modOk m' = modOk m := by
  unfold modOk
  have e1 : allP (bRight m') m.fns.length 0 = allP (bRight m) m.fns.length 0 := allP_congr _ _ (fun j _ hj => by unfold bRight; rw [bodyOf_same s (by omega)])
  have e2 : xHas m' = xHas m := by unfold xHas; funext k; rw [s.s1, s.n2, s.sp, s.s3, s.s4]
  rw [formOk_same s, s.n2, s.s4, s.n5, s.sp, e1, e2]
set_option maxRecDepth 20000 in
set_option maxHeartbeats 8000000 in
theorem every_right (w : World) (a : Option Addr) (cap : Nat) (l : List MemFunc.E) (h : MemFunc.Rd w a l) (hn : l.length ≤ 1048576) (mv : Value) (p : Nat → Bool)
    (hok : ∀ k u, k < l.length → Below w.heap.size w u → Calls Tryz.prog 49 #[mv, .agg #[.int .i64 (MemFunc.at1 l k).sig, .int .i64 (MemFunc.at1 l k).loc, .slice (MemFunc.at1 l k).ad (MemFunc.at1 l k).body.length (MemFunc.at1 l k).cp]] u fun e w' => e = .returned (.bool (p k)) ∧ Below u.heap.size u w') :
    Calls Tryz.prog 48 #[.slice a l.length cap, .func (.func 49) #[mv] #[]] w fun e w' => e = .returned (.bool (FormCalls.allP p l.length 0)) ∧ Below w.heap.size w w' := by
  obtain ⟨R, hR⟩ : ∃ R, FormCalls.allP p l.length 0 = R := ⟨_, rfl⟩
  have hF : Hid (FormCalls.allP p l.length 0 = R) := hR
  rw [hR]
  have h' : Hid (MemFunc.Rd w a l) := h
  have hok' : Hid (∀ k u, k < l.length → Below w.heap.size w u → Calls Tryz.prog 49 #[mv, .agg #[.int .i64 (MemFunc.at1 l k).sig, .int .i64 (MemFunc.at1 l k).loc, .slice (MemFunc.at1 l k).ad (MemFunc.at1 l k).body.length (MemFunc.at1 l k).cp]] u fun e w' => e = .returned (.bool (p k)) ∧ Below u.heap.size u w') := hok
  clear hR h hok
  go_enter Tryz.func48, Tryz.ntmps48
  go_wp2_with fail
  go_loopw [9] (fun vk wr => ∃ (k f : Nat), k + f = l.length ∧ vk = .int .i64 k ∧ FormCalls.allP p f k = R ∧ Below w.heap.size w wr) (fun vk _ => l.length - (intOf vk).toNat)
  case atStart => exact ⟨0, l.length, by omega, rfl, hF.out, Below.refl _ _⟩
  case round =>
    obtain ⟨k, f, hk, rfl, hall, hbel⟩ := hrel
    have hall' : Hid (FormCalls.allP p f k = R) := hall
    have hbel' : Hid (Below w.heap.size w wr) := hbel
    have hsz := hbel.size
    clear hall hF
    by_cases hlt : k < l.length
    · have hlt' : (k : Int) < (l.length : Int) := by omega
      obtain ⟨f, rfl⟩ : ∃ j, f = j + 1 := ⟨f - 1, by omega⟩
      rcases h'.out.later hbel with h0 | ⟨b, off, ha, hc⟩
      · omega
      · obtain ⟨c0, c1, c2, _⟩ := hc k hlt
        subst ha
        clear hc hbel
        have hk' : Hid (∀ u, Below w.heap.size w u → Calls Tryz.prog 49 #[mv, .agg #[.int .i64 (MemFunc.at1 l k).sig, .int .i64 (MemFunc.at1 l k).loc, .slice (MemFunc.at1 l k).ad (MemFunc.at1 l k).body.length (MemFunc.at1 l k).cp]] u fun e w' => e = .returned (.bool (p k)) ∧ Below u.heap.size u w') := fun u hu => hok'.out k u hlt hu
        have hno : Hid (p k = false → FormCalls.allP p (f + 1) k = false) := fun h => FormCalls.allP_no h
        have hyes : Hid (p k = true → FormCalls.allP p (f + 1) k = FormCalls.allP p f (k + 1)) := fun h => FormCalls.allP_yes h
        generalize p k = O at *
        generalize (MemFunc.at1 l k).sig = x0 at *
        generalize (MemFunc.at1 l k).loc = x1 at *
        generalize (MemFunc.at1 l k).ad = x2 at *
        generalize (MemFunc.at1 l k).body.length = x3 at *
        generalize (MemFunc.at1 l k).cp = x4 at *
        cases O with
        | false =>
          have e1 : Hid (FormCalls.allP p (f + 1) k = false) := hno.out rfl
          clear hno hyes
          go_wp2_with (go_at_call 49; refine (hk'.out _ (hbel'.out.alloc hsz _)).mono ?_; rintro e w1 ⟨rfl, hb⟩)
          go_ret
          exact ⟨by rw [← hall'.out, e1.out]; rfl, hbel'.out.trans (hb2 hsz hb)⟩
        | true =>
          have e1 : Hid (FormCalls.allP p (f + 1) k = FormCalls.allP p f (k + 1)) := hyes.out rfl
          clear hno hyes
          go_wp2_with (go_at_call 49; refine (hk'.out _ (hbel'.out.alloc hsz _)).mono ?_; rintro e w1 ⟨rfl, hb⟩)
          go_roundw
          case rel => exact ⟨k + 1, f, by omega, by go_num, by rw [← e1.out]; exact hall'.out, hbel'.out.trans (hb2 hsz hb)⟩
          case measure => simp [intOf]; omega
    · obtain rfl : k = l.length := by omega
      obtain rfl : f = 0 := by omega
      clear hbel
      go_wp2_with fail
      go_ret
      exact ⟨by rw [← hall'.out]; rfl, hbel'.out⟩
set_option maxRecDepth 20000 in
set_option maxHeartbeats 8000000 in
theorem every_exported (w : World) (a : Option Addr) (cap : Nat) (l : List MemExport.E) (h : MemExport.Rd w a l) (hn : l.length ≤ 1048576) (mv : Value) (p : Nat → Bool)
    (hok : ∀ k u, k < l.length → Below w.heap.size w u → Calls Tryz.prog 52 #[mv, .agg #[.string (MemExport.f0At l k), .int .i64 (MemExport.f1At l k), .int .i64 (MemExport.f2At l k)]] u fun e w' => e = .returned (.bool (p k)) ∧ Below u.heap.size u w') :
    Calls Tryz.prog 51 #[.slice a l.length cap, .func (.func 52) #[mv] #[]] w fun e w' => e = .returned (.bool (FormCalls.allP p l.length 0)) ∧ Below w.heap.size w w' := by
  obtain ⟨R, hR⟩ : ∃ R, FormCalls.allP p l.length 0 = R := ⟨_, rfl⟩
  have hF : Hid (FormCalls.allP p l.length 0 = R) := hR
  rw [hR]
  have h' : Hid (MemExport.Rd w a l) := h
  have hok' : Hid (∀ k u, k < l.length → Below w.heap.size w u → Calls Tryz.prog 52 #[mv, .agg #[.string (MemExport.f0At l k), .int .i64 (MemExport.f1At l k), .int .i64 (MemExport.f2At l k)]] u fun e w' => e = .returned (.bool (p k)) ∧ Below u.heap.size u w') := hok
  clear hR h hok
  go_enter Tryz.func51, Tryz.ntmps51
  go_wp2_with fail
  go_loopw [9] (fun vk wr => ∃ (k f : Nat), k + f = l.length ∧ vk = .int .i64 k ∧ FormCalls.allP p f k = R ∧ Below w.heap.size w wr) (fun vk _ => l.length - (intOf vk).toNat)
  case atStart => exact ⟨0, l.length, by omega, rfl, hF.out, Below.refl _ _⟩
  case round =>
    obtain ⟨k, f, hk, rfl, hall, hbel⟩ := hrel
    have hall' : Hid (FormCalls.allP p f k = R) := hall
    have hbel' : Hid (Below w.heap.size w wr) := hbel
    have hsz := hbel.size
    clear hall hF
    by_cases hlt : k < l.length
    · have hlt' : (k : Int) < (l.length : Int) := by omega
      obtain ⟨f, rfl⟩ : ∃ j, f = j + 1 := ⟨f - 1, by omega⟩
      rcases h'.out.later hbel with h0 | ⟨b, off, ha, hc⟩
      · omega
      · obtain ⟨c0, c1, c2⟩ := hc k hlt
        subst ha
        clear hc hbel
        have hk' : Hid (∀ u, Below w.heap.size w u → Calls Tryz.prog 52 #[mv, .agg #[.string (MemExport.f0At l k), .int .i64 (MemExport.f1At l k), .int .i64 (MemExport.f2At l k)]] u fun e w' => e = .returned (.bool (p k)) ∧ Below u.heap.size u w') := fun u hu => hok'.out k u hlt hu
        have hno : Hid (p k = false → FormCalls.allP p (f + 1) k = false) := fun h => FormCalls.allP_no h
        have hyes : Hid (p k = true → FormCalls.allP p (f + 1) k = FormCalls.allP p f (k + 1)) := fun h => FormCalls.allP_yes h
        generalize p k = O at *
        generalize (MemExport.f0At l k) = x0 at *
        generalize (MemExport.f1At l k) = x1 at *
        generalize (MemExport.f2At l k) = x2 at *
        cases O with
        | false =>
          have e1 : Hid (FormCalls.allP p (f + 1) k = false) := hno.out rfl
          clear hno hyes
          go_wp2_with (go_at_call 52; refine (hk'.out _ (hbel'.out.alloc hsz _)).mono ?_; rintro e w1 ⟨rfl, hb⟩)
          go_ret
          exact ⟨by rw [← hall'.out, e1.out]; rfl, hbel'.out.trans (hb2 hsz hb)⟩
        | true =>
          have e1 : Hid (FormCalls.allP p (f + 1) k = FormCalls.allP p f (k + 1)) := hyes.out rfl
          clear hno hyes
          go_wp2_with (go_at_call 52; refine (hk'.out _ (hbel'.out.alloc hsz _)).mono ?_; rintro e w1 ⟨rfl, hb⟩)
          go_roundw
          case rel => exact ⟨k + 1, f, by omega, by go_num, by rw [← e1.out]; exact hall'.out, hbel'.out.trans (hb2 hsz hb)⟩
          case measure => simp [intOf]; omega
    · obtain rfl : k = l.length := by omega
      obtain rfl : f = 0 := by omega
      clear hbel
      go_wp2_with fail
      go_ret
      exact ⟨by rw [← hall'.out]; rfl, hbel'.out⟩
set_option maxRecDepth 20000 in
set_option maxHeartbeats 4000000 in
theorem bodyRight (w : World) (p : P) (m : M) (k : Nat) (h : Mod w p m) (hf : formOk m = true) (hk : k < m.fns.length) :
    Calls Tryz.prog 49 #[.agg #[.slice p.a0 m.sigs.length p.c0, .slice p.a1 m.imps.length p.c1, .slice p.a2 m.fns.length p.c2, .int .i64 m.pages, .int .i64 m.most, .slice p.a3 m.gls.length p.c3, .slice p.a4 m.exs.length p.c4, .slice p.a5 m.dat.length p.c5], .agg #[.int .i64 (MemFunc.at1 m.fns k).sig, .int .i64 (MemFunc.at1 m.fns k).loc, .slice (MemFunc.at1 m.fns k).ad (MemFunc.at1 m.fns k).body.length (MemFunc.at1 m.fns k).cp]] w fun e w' => e = .returned (.bool (bRight m k)) ∧ Below w.heap.size w w' := by
  have kH : Hid (∀ u : World, Below w.heap.size w u → Calls Tryz.prog 39 #[.agg #[.slice p.a0 m.sigs.length p.c0, .slice p.a1 m.imps.length p.c1, .slice p.a2 m.fns.length p.c2, .int .i64 m.pages, .int .i64 m.most, .slice p.a3 m.gls.length p.c3, .slice p.a4 m.exs.length p.c4, .slice p.a5 m.dat.length p.c5], .agg #[.int .i64 (MemFunc.at1 m.fns k).sig, .int .i64 (MemFunc.at1 m.fns k).loc, .slice (MemFunc.at1 m.fns k).ad (MemFunc.at1 m.fns k).body.length (MemFunc.at1 m.fns k).cp]] u fun e w' => ∃ v, e = .returned (.tuple #[v, .int .i64 (bodyOf m k).2]) ∧ Below u.heap.size u w') := fun u hu => (heights p m _ _ _ _ _ u (bod_of (h.later hu) hf hk)).mono fun _ _ ⟨v, z1, _, z2⟩ => ⟨v, z1, z2⟩
  have bb : Hid (Below w.heap.size w ((w.alloc (.cells #[.slice p.a0 m.sigs.length p.c0, .slice p.a1 m.imps.length p.c1, .slice p.a2 m.fns.length p.c2, .int .i64 m.pages, .int .i64 m.most, .slice p.a3 m.gls.length p.c3, .slice p.a4 m.exs.length p.c4, .slice p.a5 m.dat.length p.c5] 39)).alloc (.cells #[.int .i64 (MemFunc.at1 m.fns k).sig, .int .i64 (MemFunc.at1 m.fns k).loc, .slice (MemFunc.at1 m.fns k).ad (MemFunc.at1 m.fns k).body.length (MemFunc.at1 m.fns k).cp] 60))) := ((Below.refl _ _).alloc (Nat.le_refl _) _).alloc (by simp) _
  unfold bRight
  generalize (bodyOf m k).2 = R at *
  clear h hf hk
  generalize (MemFunc.at1 m.fns k).sig = S at *
  generalize (MemFunc.at1 m.fns k).loc = X at *
  generalize (MemFunc.at1 m.fns k).ad = AD at *
  generalize (MemFunc.at1 m.fns k).body.length = NB at *
  generalize (MemFunc.at1 m.fns k).cp = CP at *
  generalize m.sigs.length = N0 at *
  generalize m.imps.length = N1 at *
  generalize m.fns.length = N2 at *
  generalize m.gls.length = N3 at *
  generalize m.exs.length = N4 at *
  generalize m.dat.length = N5 at *
  go_enter Tryz.func49, Tryz.ntmps49
  go_wp2_with (go_at_call 39; refine (kH.out _ bb.out).mono ?_; rintro e w1 ⟨v, rfl, q1⟩)
  go_ret
  refine ⟨?_, bb.out.trans (q1.mono (by simp; omega))⟩
  refine congrArg (fun x => Ending.returned (.bool x)) (?_ : (_ : Bool) = _)
  rw [Bool.eq_iff_iff]
  simp
set_option maxRecDepth 20000 in
set_option maxHeartbeats 4000000 in
theorem hasExported (w : World) (v0 : Value) (a1 : Option Addr) (n1 c1 : Nat) (a2 : Option Addr) (n2 c2 : Nat) (pg : Int) (v4 : Value) (a5 : Option Addr) (n5 c5 : Nat) (v6 v7 : Value) (s : ByteArray) (kd' ix : Int) (hn : n1 + n2 ≤ 1048576) :
    Calls Tryz.prog 52 #[.agg #[v0, .slice a1 n1 c1, .slice a2 n2 c2, .int .i64 pg, v4, .slice a5 n5 c5, v6, v7], .agg #[.string s, .int .i64 kd', .int .i64 ix]] w fun e w' => e = .returned (.bool (xh (n1 + n2) pg n5 kd' ix)) ∧ Below w.heap.size w w' := by
  have kN : Hid (∀ u : World, Calls Tryz.prog 100 #[.agg #[v0, .slice a1 n1 c1, .slice a2 n2 c2, .int .i64 pg, v4, .slice a5 n5 c5, v6, v7]] u fun e w' => e = .returned (.int .i64 ((n1 : Int) + (n2 : Int))) ∧ Below u.heap.size u w') := fun u => functions _ _ _ _ _ _ _ _ _ _ _ _ u hn
  have kM : Hid (∀ u : World, Calls Tryz.prog 53 #[.agg #[v0, .slice a1 n1 c1, .slice a2 n2 c2, .int .i64 pg, v4, .slice a5 n5 c5, v6, v7]] u fun e w' => e = .returned (.bool (decide (pg ≠ -1))) ∧ Below u.heap.size u w') := fun u => hasMemory _ _ _ _ _ _ _ _ u
  have bb : Hid (Below w.heap.size w ((w.alloc (.cells #[v0, .slice a1 n1 c1, .slice a2 n2 c2, .int .i64 pg, v4, .slice a5 n5 c5, v6, v7] 39)).alloc (.cells #[.string s, .int .i64 kd', .int .i64 ix] 84))) := ((Below.refl _ _).alloc (Nat.le_refl _) _).alloc (by simp) _
  have hbx : Hid (∀ u : World, Below ((w.alloc (.cells #[v0, .slice a1 n1 c1, .slice a2 n2 c2, .int .i64 pg, v4, .slice a5 n5 c5, v6, v7] 39)).alloc (.cells #[.string s, .int .i64 kd', .int .i64 ix] 84)).heap.size ((w.alloc (.cells #[v0, .slice a1 n1 c1, .slice a2 n2 c2, .int .i64 pg, v4, .slice a5 n5 c5, v6, v7] 39)).alloc (.cells #[.string s, .int .i64 kd', .int .i64 ix] 84)) u → u.cell? ⟨w.heap.size + 1, 2, none⟩ = some (.int .i64 ix)) := fun u hu => by
    have := (MemFunc.r3 (MemFunc.r3_made (w.alloc (.cells #[v0, .slice a1 n1 c1, .slice a2 n2 c2, .int .i64 pg, v4, .slice a5 n5 c5, v6, v7] 39)) (.string s) (.int .i64 kd') (.int .i64 ix) 84)).2.2.1
    simp only [World.size_alloc] at this
    rw [hu.cell (by simp)]
    exact this
  by_cases h0 : kd' = 0
  · subst h0
    have e1 : Hid (xh (n1 + n2) pg n5 0 ix = decide (ix < (n1 : Int) + (n2 : Int))) := by show _ = _; unfold xh; rw [if_pos rfl]; simp
    rw [e1.out]
    go_enter Tryz.func52, Tryz.ntmps52
    go_wp2_with fail
    go_region_with (go_at_call 100; refine (kN.out _).mono ?_; rintro e w1 ⟨rfl, q1⟩; have c1 := hbx.out _ (((Below.refl _ _).drew).trans q1))
    all_goals
      go_wp2_with fail
      go_ret
      exact ⟨rfl, bb.out.drew.trans (q1.mono (by simp; omega))⟩
  · have n0 : (kd' == 0) = false := by simpa using h0
    by_cases h2 : kd' = 2
    · subst h2
      have e1 : Hid (xh (n1 + n2) pg n5 2 ix = (decide (pg ≠ -1) && decide (ix = 0))) := rfl
      rw [e1.out]
      clear h0 e1
      generalize decide (pg ≠ -1) = R at *
      cases R with
      | false =>
        go_enter Tryz.func52, Tryz.ntmps52
        go_wp2_with (go_at_call 53; refine (kM.out _).mono ?_; rintro e w1 ⟨rfl, q1⟩; have c1 := hbx.out _ q1)
        go_ret
        exact ⟨rfl, bb.out.trans (q1.mono (by simp; omega))⟩
      | true =>
        go_enter Tryz.func52, Tryz.ntmps52
        go_wp2_with (go_at_call 53; refine (kM.out _).mono ?_; rintro e w1 ⟨rfl, q1⟩; have c1 := hbx.out _ q1)
        go_ret
        refine ⟨?_, bb.out.trans (q1.mono (by simp; omega))⟩
        refine congrArg (fun x => Ending.returned (.bool x)) (?_ : (_ : Bool) = _)
        rw [Bool.eq_iff_iff]
        simp
    · have n2' : (kd' == 2) = false := by simpa using h2
      have e1 : Hid (xh (n1 + n2) pg n5 kd' ix = decide (ix < (n5 : Int))) := by show _ = _; unfold xh; rw [if_neg h0, if_neg h2]
      rw [e1.out]
      clear h0 h2 e1
      go_enter Tryz.func52, Tryz.ntmps52
      go_wp2_with fail
      go_ret
      exact ⟨rfl, bb.out⟩
end Go.Proofs.YtdaffcbamnpjfaaGreatDoor.MOkImpl
