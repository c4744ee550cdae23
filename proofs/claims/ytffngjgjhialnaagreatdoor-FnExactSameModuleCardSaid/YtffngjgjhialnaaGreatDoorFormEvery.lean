/-
  The program's every, at each type of a module's parts. (Written by my formgen.py.)
-/
import Derived.Test.YtffngjgjhialnaaGreatDoorFormCalls
namespace Go.Proofs.YtffngjgjhialnaaGreatDoor.FormEvery
open Go.RowKit PlainShape InsMem EveryIns

set_option maxRecDepth 20000 in
set_option maxHeartbeats 8000000 in
theorem every_Sig (w : World) (a : Option Addr) (cap : Nat) (l : List MemSig.E) (h : MemSig.Rd w a l) (hn : l.length ≤ 1048576) (p : Nat → Bool)
    (hok : ∀ k u, k < l.length → Below w.heap.size w u → Calls Tryz.prog 89 #[.agg #[.int .i64 (MemSig.f0At l k), .int .i64 (MemSig.f1At l k)]] u fun e w' => e = .returned (.bool (p k)) ∧ Below u.heap.size u w') :
    Calls Tryz.prog 88 #[.slice a l.length cap, .func (.func 89) #[] #[]] w fun e w' => e = .returned (.bool (FormCalls.allP p l.length 0)) ∧ Below w.heap.size w w' := by
  obtain ⟨R, hR⟩ : ∃ R, FormCalls.allP p l.length 0 = R := ⟨_, rfl⟩
  have hF : Hid (FormCalls.allP p l.length 0 = R) := hR
  rw [hR]
  have h' : Hid (MemSig.Rd w a l) := h
  have hok' : Hid (∀ k u, k < l.length → Below w.heap.size w u → Calls Tryz.prog 89 #[.agg #[.int .i64 (MemSig.f0At l k), .int .i64 (MemSig.f1At l k)]] u fun e w' => e = .returned (.bool (p k)) ∧ Below u.heap.size u w') := hok
  clear hR h hok
  go_enter Tryz.func88, Tryz.ntmps88
  go_wp2_with fail
  go_loopw [9] (fun vk wr => ∃ (k f : Nat), k + f = l.length ∧ vk = .int .i64 k ∧ FormCalls.allP p f k = R ∧ Below w.heap.size w wr) (fun vk _ => l.length - (intOf vk).toNat)
  case atStart => exact ⟨0, l.length, by omega, rfl, hF.out, Below.refl _ _⟩
  case round =>
    obtain ⟨k, f, hk, rfl, hall, hbel⟩ := hrel
    have hall' : Hid (FormCalls.allP p f k = R) := hall
    have hbel' : Hid (Below w.heap.size w wr) := hbel
    have hsz := hbel.size
    clear hall hF
    by_cases hlt : k < l.length
    · have hlt' : (k : Int) < (l.length : Int) := by omega
      obtain ⟨f, rfl⟩ : ∃ j, f = j + 1 := ⟨f - 1, by omega⟩
      rcases h'.out.later hbel with h0 | ⟨b, off, ha, hc⟩
      · omega
      · obtain ⟨c0, c1⟩ := hc k hlt
        subst ha
        clear hc hbel
        have hk' : Hid (∀ u, Below w.heap.size w u → Calls Tryz.prog 89 #[.agg #[.int .i64 (MemSig.f0At l k), .int .i64 (MemSig.f1At l k)]] u fun e w' => e = .returned (.bool (p k)) ∧ Below u.heap.size u w') := fun u hu => hok'.out k u hlt hu
        have hno : Hid (p k = false → FormCalls.allP p (f + 1) k = false) := fun h => FormCalls.allP_no h
        have hyes : Hid (p k = true → FormCalls.allP p (f + 1) k = FormCalls.allP p f (k + 1)) := fun h => FormCalls.allP_yes h
        generalize p k = O at *
        generalize (MemSig.f0At l k) = x0 at *
        generalize (MemSig.f1At l k) = x1 at *
        cases O with
        | false =>
          have e1 : Hid (FormCalls.allP p (f + 1) k = false) := hno.out rfl
          clear hno hyes
          go_wp2_with (go_at_call 89; refine (hk'.out _ (hbel'.out.alloc hsz _)).mono ?_; rintro e w1 ⟨rfl, hb⟩)
          go_ret
          exact ⟨by rw [← hall'.out, e1.out]; rfl, hbel'.out.trans (hb2 hsz hb)⟩
        | true =>
          have e1 : Hid (FormCalls.allP p (f + 1) k = FormCalls.allP p f (k + 1)) := hyes.out rfl
          clear hno hyes
          go_wp2_with (go_at_call 89; refine (hk'.out _ (hbel'.out.alloc hsz _)).mono ?_; rintro e w1 ⟨rfl, hb⟩)
          go_roundw
          case rel => exact ⟨k + 1, f, by omega, by go_num, by rw [← e1.out]; exact hall'.out, hbel'.out.trans (hb2 hsz hb)⟩
          case measure => simp [intOf]; omega
    · obtain rfl : k = l.length := by omega
      obtain rfl : f = 0 := by omega
      clear hbel
      go_wp2_with fail
      go_ret
      exact ⟨by rw [← hall'.out]; rfl, hbel'.out⟩
set_option maxRecDepth 20000 in
set_option maxHeartbeats 8000000 in
theorem every_Import (w : World) (a : Option Addr) (cap : Nat) (l : List MemImport.E) (h : MemImport.Rd w a l) (hn : l.length ≤ 1048576) (mv : Value) (p : Nat → Bool)
    (hok : ∀ k u, k < l.length → Below w.heap.size w u → Calls Tryz.prog 91 #[mv, .agg #[.string (MemImport.f0At l k), .string (MemImport.f1At l k), .int .i64 (MemImport.f2At l k)]] u fun e w' => e = .returned (.bool (p k)) ∧ Below u.heap.size u w') :
    Calls Tryz.prog 90 #[.slice a l.length cap, .func (.func 91) #[mv] #[]] w fun e w' => e = .returned (.bool (FormCalls.allP p l.length 0)) ∧ Below w.heap.size w w' := by
  obtain ⟨R, hR⟩ : ∃ R, FormCalls.allP p l.length 0 = R := ⟨_, rfl⟩
  have hF : Hid (FormCalls.allP p l.length 0 = R) := hR
  rw [hR]
  have h' : Hid (MemImport.Rd w a l) := h
  have hok' : Hid (∀ k u, k < l.length → Below w.heap.size w u → Calls Tryz.prog 91 #[mv, .agg #[.string (MemImport.f0At l k), .string (MemImport.f1At l k), .int .i64 (MemImport.f2At l k)]] u fun e w' => e = .returned (.bool (p k)) ∧ Below u.heap.size u w') := hok
  clear hR h hok
  go_enter Tryz.func90, Tryz.ntmps90
  go_wp2_with fail
  go_loopw [9] (fun vk wr => ∃ (k f : Nat), k + f = l.length ∧ vk = .int .i64 k ∧ FormCalls.allP p f k = R ∧ Below w.heap.size w wr) (fun vk _ => l.length - (intOf vk).toNat)
  case atStart => exact ⟨0, l.length, by omega, rfl, hF.out, Below.refl _ _⟩
  case round =>
    obtain ⟨k, f, hk, rfl, hall, hbel⟩ := hrel
    have hall' : Hid (FormCalls.allP p f k = R) := hall
    have hbel' : Hid (Below w.heap.size w wr) := hbel
    have hsz := hbel.size
    clear hall hF
    by_cases hlt : k < l.length
    · have hlt' : (k : Int) < (l.length : Int) := by omega
      obtain ⟨f, rfl⟩ : ∃ j, f = j + 1 := ⟨f - 1, by omega⟩
      rcases h'.out.later hbel with h0 | ⟨b, off, ha, hc⟩
      · omega
      · obtain ⟨c0, c1, c2⟩ := hc k hlt
        subst ha
        clear hc hbel
        have hk' : Hid (∀ u, Below w.heap.size w u → Calls Tryz.prog 91 #[mv, .agg #[.string (MemImport.f0At l k), .string (MemImport.f1At l k), .int .i64 (MemImport.f2At l k)]] u fun e w' => e = .returned (.bool (p k)) ∧ Below u.heap.size u w') := fun u hu => hok'.out k u hlt hu
        have hno : Hid (p k = false → FormCalls.allP p (f + 1) k = false) := fun h => FormCalls.allP_no h
        have hyes : Hid (p k = true → FormCalls.allP p (f + 1) k = FormCalls.allP p f (k + 1)) := fun h => FormCalls.allP_yes h
        generalize p k = O at *
        generalize (MemImport.f0At l k) = x0 at *
        generalize (MemImport.f1At l k) = x1 at *
        generalize (MemImport.f2At l k) = x2 at *
        cases O with
        | false =>
          have e1 : Hid (FormCalls.allP p (f + 1) k = false) := hno.out rfl
          clear hno hyes
          go_wp2_with (go_at_call 91; refine (hk'.out _ (hbel'.out.alloc hsz _)).mono ?_; rintro e w1 ⟨rfl, hb⟩)
          go_ret
          exact ⟨by rw [← hall'.out, e1.out]; rfl, hbel'.out.trans (hb2 hsz hb)⟩
        | true =>
          have e1 : Hid (FormCalls.allP p (f + 1) k = FormCalls.allP p f (k + 1)) := hyes.out rfl
          clear hno hyes
          go_wp2_with (go_at_call 91; refine (hk'.out _ (hbel'.out.alloc hsz _)).mono ?_; rintro e w1 ⟨rfl, hb⟩)
          go_roundw
          case rel => exact ⟨k + 1, f, by omega, by go_num, by rw [← e1.out]; exact hall'.out, hbel'.out.trans (hb2 hsz hb)⟩
          case measure => simp [intOf]; omega
    · obtain rfl : k = l.length := by omega
      obtain rfl : f = 0 := by omega
      clear hbel
      go_wp2_with fail
      go_ret
      exact ⟨by rw [← hall'.out]; rfl, hbel'.out⟩
set_option maxRecDepth 20000 in
set_option maxHeartbeats 8000000 in
theorem every_Global (w : World) (a : Option Addr) (cap : Nat) (l : List MemGlobal.E) (h : MemGlobal.Rd w a l) (hn : l.length ≤ 1048576) (p : Nat → Bool)
    (hok : ∀ k u, k < l.length → Below w.heap.size w u → Calls Tryz.prog 95 #[.agg #[.bool (MemGlobal.f0At l k), .int .i64 (MemGlobal.f1At l k)]] u fun e w' => e = .returned (.bool (p k)) ∧ Below u.heap.size u w') :
    Calls Tryz.prog 94 #[.slice a l.length cap, .func (.func 95) #[] #[]] w fun e w' => e = .returned (.bool (FormCalls.allP p l.length 0)) ∧ Below w.heap.size w w' := by
  obtain ⟨R, hR⟩ : ∃ R, FormCalls.allP p l.length 0 = R := ⟨_, rfl⟩
  have hF : Hid (FormCalls.allP p l.length 0 = R) := hR
  rw [hR]
  have h' : Hid (MemGlobal.Rd w a l) := h
  have hok' : Hid (∀ k u, k < l.length → Below w.heap.size w u → Calls Tryz.prog 95 #[.agg #[.bool (MemGlobal.f0At l k), .int .i64 (MemGlobal.f1At l k)]] u fun e w' => e = .returned (.bool (p k)) ∧ Below u.heap.size u w') := hok
  clear hR h hok
  go_enter Tryz.func94, Tryz.ntmps94
  go_wp2_with fail
  go_loopw [9] (fun vk wr => ∃ (k f : Nat), k + f = l.length ∧ vk = .int .i64 k ∧ FormCalls.allP p f k = R ∧ Below w.heap.size w wr) (fun vk _ => l.length - (intOf vk).toNat)
  case atStart => exact ⟨0, l.length, by omega, rfl, hF.out, Below.refl _ _⟩
  case round =>
    obtain ⟨k, f, hk, rfl, hall, hbel⟩ := hrel
    have hall' : Hid (FormCalls.allP p f k = R) := hall
    have hbel' : Hid (Below w.heap.size w wr) := hbel
    have hsz := hbel.size
    clear hall hF
    by_cases hlt : k < l.length
    · have hlt' : (k : Int) < (l.length : Int) := by omega
      obtain ⟨f, rfl⟩ : ∃ j, f = j + 1 := ⟨f - 1, by omega⟩
      rcases h'.out.later hbel with h0 | ⟨b, off, ha, hc⟩
      · omega
      · obtain ⟨c0, c1⟩ := hc k hlt
        subst ha
        clear hc hbel
        have hk' : Hid (∀ u, Below w.heap.size w u → Calls Tryz.prog 95 #[.agg #[.bool (MemGlobal.f0At l k), .int .i64 (MemGlobal.f1At l k)]] u fun e w' => e = .returned (.bool (p k)) ∧ Below u.heap.size u w') := fun u hu => hok'.out k u hlt hu
        have hno : Hid (p k = false → FormCalls.allP p (f + 1) k = false) := fun h => FormCalls.allP_no h
        have hyes : Hid (p k = true → FormCalls.allP p (f + 1) k = FormCalls.allP p f (k + 1)) := fun h => FormCalls.allP_yes h
        generalize p k = O at *
        generalize (MemGlobal.f0At l k) = x0 at *
        generalize (MemGlobal.f1At l k) = x1 at *
        cases O with
        | false =>
          have e1 : Hid (FormCalls.allP p (f + 1) k = false) := hno.out rfl
          clear hno hyes
          go_wp2_with (go_at_call 95; refine (hk'.out _ (hbel'.out.alloc hsz _)).mono ?_; rintro e w1 ⟨rfl, hb⟩)
          go_ret
          exact ⟨by rw [← hall'.out, e1.out]; rfl, hbel'.out.trans (hb2 hsz hb)⟩
        | true =>
          have e1 : Hid (FormCalls.allP p (f + 1) k = FormCalls.allP p f (k + 1)) := hyes.out rfl
          clear hno hyes
          go_wp2_with (go_at_call 95; refine (hk'.out _ (hbel'.out.alloc hsz _)).mono ?_; rintro e w1 ⟨rfl, hb⟩)
          go_roundw
          case rel => exact ⟨k + 1, f, by omega, by go_num, by rw [← e1.out]; exact hall'.out, hbel'.out.trans (hb2 hsz hb)⟩
          case measure => simp [intOf]; omega
    · obtain rfl : k = l.length := by omega
      obtain rfl : f = 0 := by omega
      clear hbel
      go_wp2_with fail
      go_ret
      exact ⟨by rw [← hall'.out]; rfl, hbel'.out⟩
set_option maxRecDepth 20000 in
set_option maxHeartbeats 8000000 in
theorem every_Export (w : World) (a : Option Addr) (cap : Nat) (l : List MemExport.E) (h : MemExport.Rd w a l) (hn : l.length ≤ 1048576) (p : Nat → Bool)
    (hok : ∀ k u, k < l.length → Below w.heap.size w u → Calls Tryz.prog 97 #[.agg #[.string (MemExport.f0At l k), .int .i64 (MemExport.f1At l k), .int .i64 (MemExport.f2At l k)]] u fun e w' => e = .returned (.bool (p k)) ∧ Below u.heap.size u w') :
    Calls Tryz.prog 96 #[.slice a l.length cap, .func (.func 97) #[] #[]] w fun e w' => e = .returned (.bool (FormCalls.allP p l.length 0)) ∧ Below w.heap.size w w' := by
  obtain ⟨R, hR⟩ : ∃ R, FormCalls.allP p l.length 0 = R := ⟨_, rfl⟩
  have hF : Hid (FormCalls.allP p l.length 0 = R) := hR
  rw [hR]
  have h' : Hid (MemExport.Rd w a l) := h
  have hok' : Hid (∀ k u, k < l.length → Below w.heap.size w u → Calls Tryz.prog 97 #[.agg #[.string (MemExport.f0At l k), .int .i64 (MemExport.f1At l k), .int .i64 (MemExport.f2At l k)]] u fun e w' => e = .returned (.bool (p k)) ∧ Below u.heap.size u w') := hok
  clear hR h hok
  go_enter Tryz.func96, Tryz.ntmps96
  go_wp2_with fail
  go_loopw [9] (fun vk wr => ∃ (k f : Nat), k + f = l.length ∧ vk = .int .i64 k ∧ FormCalls.allP p f k = R ∧ Below w.heap.size w wr) (fun vk _ => l.length - (intOf vk).toNat)
  case atStart => exact ⟨0, l.length, by omega, rfl, hF.out, Below.refl _ _⟩
  case round =>
    obtain ⟨k, f, hk, rfl, hall, hbel⟩ := hrel
    have hall' : Hid (FormCalls.allP p f k = R) := hall
    have hbel' : Hid (Below w.heap.size w wr) := hbel
    have hsz := hbel.size
    clear hall hF
    by_cases hlt : k < l.length
    · have hlt' : (k : Int) < (l.length : Int) := by omega
      obtain ⟨f, rfl⟩ : ∃ j, f = j + 1 := ⟨f - 1, by omega⟩
      rcases h'.out.later hbel with h0 | ⟨b, off, ha, hc⟩
      · omega
      · obtain ⟨c0, c1, c2⟩ := hc k hlt
        subst ha
        clear hc hbel
        have hk' : Hid (∀ u, Below w.heap.size w u → Calls Tryz.prog 97 #[.agg #[.string (MemExport.f0At l k), .int .i64 (MemExport.f1At l k), .int .i64 (MemExport.f2At l k)]] u fun e w' => e = .returned (.bool (p k)) ∧ Below u.heap.size u w') := fun u hu => hok'.out k u hlt hu
        have hno : Hid (p k = false → FormCalls.allP p (f + 1) k = false) := fun h => FormCalls.allP_no h
        have hyes : Hid (p k = true → FormCalls.allP p (f + 1) k = FormCalls.allP p f (k + 1)) := fun h => FormCalls.allP_yes h
        generalize p k = O at *
        generalize (MemExport.f0At l k) = x0 at *
        generalize (MemExport.f1At l k) = x1 at *
        generalize (MemExport.f2At l k) = x2 at *
        cases O with
        | false =>
          have e1 : Hid (FormCalls.allP p (f + 1) k = false) := hno.out rfl
          clear hno hyes
          go_wp2_with (go_at_call 97; refine (hk'.out _ (hbel'.out.alloc hsz _)).mono ?_; rintro e w1 ⟨rfl, hb⟩)
          go_ret
          exact ⟨by rw [← hall'.out, e1.out]; rfl, hbel'.out.trans (hb2 hsz hb)⟩
        | true =>
          have e1 : Hid (FormCalls.allP p (f + 1) k = FormCalls.allP p f (k + 1)) := hyes.out rfl
          clear hno hyes
          go_wp2_with (go_at_call 97; refine (hk'.out _ (hbel'.out.alloc hsz _)).mono ?_; rintro e w1 ⟨rfl, hb⟩)
          go_roundw
          case rel => exact ⟨k + 1, f, by omega, by go_num, by rw [← e1.out]; exact hall'.out, hbel'.out.trans (hb2 hsz hb)⟩
          case measure => simp [intOf]; omega
    · obtain rfl : k = l.length := by omega
      obtain rfl : f = 0 := by omega
      clear hbel
      go_wp2_with fail
      go_ret
      exact ⟨by rw [← hall'.out]; rfl, hbel'.out⟩
set_option maxRecDepth 20000 in
set_option maxHeartbeats 8000000 in
theorem every_Func (w : World) (a : Option Addr) (cap : Nat) (l : List MemFunc.E) (h : MemFunc.Rd w a l) (hn : l.length ≤ 1048576) (mv : Value) (p : Nat → Bool)
    (hok : ∀ k u, k < l.length → Below w.heap.size w u → Calls Tryz.prog 93 #[mv, .agg #[.int .i64 (MemFunc.at1 l k).sig, .int .i64 (MemFunc.at1 l k).loc, .slice (MemFunc.at1 l k).ad (MemFunc.at1 l k).body.length (MemFunc.at1 l k).cp]] u fun e w' => e = .returned (.bool (p k)) ∧ Below u.heap.size u w') :
    Calls Tryz.prog 92 #[.slice a l.length cap, .func (.func 93) #[mv] #[]] w fun e w' => e = .returned (.bool (FormCalls.allP p l.length 0)) ∧ Below w.heap.size w w' := by
  obtain ⟨R, hR⟩ : ∃ R, FormCalls.allP p l.length 0 = R := ⟨_, rfl⟩
  have hF : Hid (FormCalls.allP p l.length 0 = R) := hR
  rw [hR]
  have h' : Hid (MemFunc.Rd w a l) := h
  have hok' : Hid (∀ k u, k < l.length → Below w.heap.size w u → Calls Tryz.prog 93 #[mv, .agg #[.int .i64 (MemFunc.at1 l k).sig, .int .i64 (MemFunc.at1 l k).loc, .slice (MemFunc.at1 l k).ad (MemFunc.at1 l k).body.length (MemFunc.at1 l k).cp]] u fun e w' => e = .returned (.bool (p k)) ∧ Below u.heap.size u w') := hok
  clear hR h hok
  go_enter Tryz.func92, Tryz.ntmps92
  go_wp2_with fail
  go_loopw [9] (fun vk wr => ∃ (k f : Nat), k + f = l.length ∧ vk = .int .i64 k ∧ FormCalls.allP p f k = R ∧ Below w.heap.size w wr) (fun vk _ => l.length - (intOf vk).toNat)
  case atStart => exact ⟨0, l.length, by omega, rfl, hF.out, Below.refl _ _⟩
  case round =>
    obtain ⟨k, f, hk, rfl, hall, hbel⟩ := hrel
    have hall' : Hid (FormCalls.allP p f k = R) := hall
    have hbel' : Hid (Below w.heap.size w wr) := hbel
    have hsz := hbel.size
    clear hall hF
    by_cases hlt : k < l.length
    · have hlt' : (k : Int) < (l.length : Int) := by omega
      obtain ⟨f, rfl⟩ : ∃ j, f = j + 1 := ⟨f - 1, by omega⟩
      rcases h'.out.later hbel with h0 | ⟨b, off, ha, hc⟩
      · omega
      · obtain ⟨c0, c1, c2, _⟩ := hc k hlt
        subst ha
        clear hc hbel
        have hk' : Hid (∀ u, Below w.heap.size w u → Calls Tryz.prog 93 #[mv, .agg #[.int .i64 (MemFunc.at1 l k).sig, .int .i64 (MemFunc.at1 l k).loc, .slice (MemFunc.at1 l k).ad (MemFunc.at1 l k).body.length (MemFunc.at1 l k).cp]] u fun e w' => e = .returned (.bool (p k)) ∧ Below u.heap.size u w') := fun u hu => hok'.out k u hlt hu
        have hno : Hid (p k = false → FormCalls.allP p (f + 1) k = false) := fun h => FormCalls.allP_no h
        have hyes : Hid (p k = true → FormCalls.allP p (f + 1) k = FormCalls.allP p f (k + 1)) := fun h => FormCalls.allP_yes h
        generalize p k = O at *
        generalize (MemFunc.at1 l k).sig = x0 at *
        generalize (MemFunc.at1 l k).loc = x1 at *
        generalize (MemFunc.at1 l k).ad = x2 at *
        generalize (MemFunc.at1 l k).body.length = x3 at *
        generalize (MemFunc.at1 l k).cp = x4 at *
        cases O with
        | false =>
          have e1 : Hid (FormCalls.allP p (f + 1) k = false) := hno.out rfl
          clear hno hyes
          go_wp2_with (go_at_call 93; refine (hk'.out _ (hbel'.out.alloc hsz _)).mono ?_; rintro e w1 ⟨rfl, hb⟩)
          go_ret
          exact ⟨by rw [← hall'.out, e1.out]; rfl, hbel'.out.trans (hb2 hsz hb)⟩
        | true =>
          have e1 : Hid (FormCalls.allP p (f + 1) k = FormCalls.allP p f (k + 1)) := hyes.out rfl
          clear hno hyes
          go_wp2_with (go_at_call 93; refine (hk'.out _ (hbel'.out.alloc hsz _)).mono ?_; rintro e w1 ⟨rfl, hb⟩)
          go_roundw
          case rel => exact ⟨k + 1, f, by omega, by go_num, by rw [← e1.out]; exact hall'.out, hbel'.out.trans (hb2 hsz hb)⟩
          case measure => simp [intOf]; omega
    · obtain rfl : k = l.length := by omega
      obtain rfl : f = 0 := by omega
      clear hbel
      go_wp2_with fail
      go_ret
      exact ⟨by rw [← hall'.out]; rfl, hbel'.out⟩
set_option maxRecDepth 20000 in
set_option maxHeartbeats 8000000 in
theorem every_Data (w : World) (a : Option Addr) (cap : Nat) (l : List MemData.E) (h : MemData.Rd w a l) (hn : l.length ≤ 1048576) (p : Nat → Bool)
    (hok : ∀ k u, k < l.length → Below w.heap.size w u → Calls Tryz.prog 99 #[.agg #[.int .i64 (MemData.at1 l k).pos, .slice (MemData.at1 l k).ad (MemData.at1 l k).n (MemData.at1 l k).cp]] u fun e w' => e = .returned (.bool (p k)) ∧ Below u.heap.size u w') :
    Calls Tryz.prog 98 #[.slice a l.length cap, .func (.func 99) #[] #[]] w fun e w' => e = .returned (.bool (FormCalls.allP p l.length 0)) ∧ Below w.heap.size w w' := by
  obtain ⟨R, hR⟩ : ∃ R, FormCalls.allP p l.length 0 = R := ⟨_, rfl⟩
  have hF : Hid (FormCalls.allP p l.length 0 = R) := hR
  rw [hR]
  have h' : Hid (MemData.Rd w a l) := h
  have hok' : Hid (∀ k u, k < l.length → Below w.heap.size w u → Calls Tryz.prog 99 #[.agg #[.int .i64 (MemData.at1 l k).pos, .slice (MemData.at1 l k).ad (MemData.at1 l k).n (MemData.at1 l k).cp]] u fun e w' => e = .returned (.bool (p k)) ∧ Below u.heap.size u w') := hok
  clear hR h hok
  go_enter Tryz.func98, Tryz.ntmps98
  go_wp2_with fail
  go_loopw [9] (fun vk wr => ∃ (k f : Nat), k + f = l.length ∧ vk = .int .i64 k ∧ FormCalls.allP p f k = R ∧ Below w.heap.size w wr) (fun vk _ => l.length - (intOf vk).toNat)
  case atStart => exact ⟨0, l.length, by omega, rfl, hF.out, Below.refl _ _⟩
  case round =>
    obtain ⟨k, f, hk, rfl, hall, hbel⟩ := hrel
    have hall' : Hid (FormCalls.allP p f k = R) := hall
    have hbel' : Hid (Below w.heap.size w wr) := hbel
    have hsz := hbel.size
    clear hall hF
    by_cases hlt : k < l.length
    · have hlt' : (k : Int) < (l.length : Int) := by omega
      obtain ⟨f, rfl⟩ : ∃ j, f = j + 1 := ⟨f - 1, by omega⟩
      rcases h'.out.later hbel with h0 | ⟨b, off, ha, hc⟩
      · omega
      · obtain ⟨c0, c1, _⟩ := hc k hlt
        subst ha
        clear hc hbel
        have hk' : Hid (∀ u, Below w.heap.size w u → Calls Tryz.prog 99 #[.agg #[.int .i64 (MemData.at1 l k).pos, .slice (MemData.at1 l k).ad (MemData.at1 l k).n (MemData.at1 l k).cp]] u fun e w' => e = .returned (.bool (p k)) ∧ Below u.heap.size u w') := fun u hu => hok'.out k u hlt hu
        have hno : Hid (p k = false → FormCalls.allP p (f + 1) k = false) := fun h => FormCalls.allP_no h
        have hyes : Hid (p k = true → FormCalls.allP p (f + 1) k = FormCalls.allP p f (k + 1)) := fun h => FormCalls.allP_yes h
        generalize p k = O at *
        generalize (MemData.at1 l k).pos = x0 at *
        generalize (MemData.at1 l k).ad = x1 at *
        generalize (MemData.at1 l k).n = x2 at *
        generalize (MemData.at1 l k).cp = x3 at *
        cases O with
        | false =>
          have e1 : Hid (FormCalls.allP p (f + 1) k = false) := hno.out rfl
          clear hno hyes
          go_wp2_with (go_at_call 99; refine (hk'.out _ (hbel'.out.alloc hsz _)).mono ?_; rintro e w1 ⟨rfl, hb⟩)
          go_ret
          exact ⟨by rw [← hall'.out, e1.out]; rfl, hbel'.out.trans (hb2 hsz hb)⟩
        | true =>
          have e1 : Hid (FormCalls.allP p (f + 1) k = FormCalls.allP p f (k + 1)) := hyes.out rfl
          clear hno hyes
          go_wp2_with (go_at_call 99; refine (hk'.out _ (hbel'.out.alloc hsz _)).mono ?_; rintro e w1 ⟨rfl, hb⟩)
          go_roundw
          case rel => exact ⟨k + 1, f, by omega, by go_num, by rw [← e1.out]; exact hall'.out, hbel'.out.trans (hb2 hsz hb)⟩
          case measure => simp [intOf]; omega
    · obtain rfl : k = l.length := by omega
      obtain rfl : f = 0 := by omega
      clear hbel
      go_wp2_with fail
      go_ret
      exact ⟨by rw [← hall'.out]; rfl, hbel'.out⟩
end Go.Proofs.YtffngjgjhialnaaGreatDoor.FormEvery
