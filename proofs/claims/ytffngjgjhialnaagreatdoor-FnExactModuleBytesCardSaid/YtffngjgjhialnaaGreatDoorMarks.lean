/-
  The text that the laws write as a mark: that there is one.
  Marks on a module's flat rows. (Written by my markmod.py.)
  A copy of a module is marked: all its parts, and nothing else. (Written by my markall.py.)
  A copy of a module whose parts can be marked; lists of numbers that are told. (Written by my stacklaw.py.)
-/
import Derived.Test.YtffngjgjhialnaaGreatDoorNumCalls
import Derived.WalkSpells
import Derived.WalkLawsBesides
import Derived.Laws.IdiomStrings
import Derived.Laws.Concat
import Derived.Deep.RegionWith
import Derived.Test.YtffngjgjhialnaaGreatDoorMarkIns
import Derived.Test.YtffngjgjhialnaaGreatDoorModMem
import Derived.Test.YtffngjgjhialnaaGreatDoorFormLaw
import Derived.Test.YtffngjgjhialnaaGreatDoorShapeCalls
import Derived.Test.YtffngjgjhialnaaGreatDoorNumMem2
namespace Go.Proofs.YtffngjgjhialnaaGreatDoor.MarkText
open Go.RowKit PlainNum NumCalls
theorem conv1 (c : UInt8) (d : Int) (hd : (c.toNat : Int) = d) (W : World) (b : Nat) (hc : W.cell? ⟨b, 0, none⟩ = some (.int .u8 d)) :
    (convert 31 9 (.slice (some ⟨b, 0, none⟩) 1 1)).run Tryz.prog W = .ok (.string ⟨#[c]⟩) W := by
  have h := run_convert_bytes_back (P := Tryz.prog) W 31 9 5 ⟨b, 0, none⟩ 1 [c] Tryz.underlying31 Tryz.underlying5 Tryz.underlying9 (fun j hj => by
    have hj0 : j = 0 := by simp at hj; exact hj
    subst hj0
    show W.cell? ((⟨b, 0, none⟩ : Addr).add 0) = some (.int .u8 (c.toNat : Int))
    rw [hd]; simpa [Addr.add] using hc)
  simpa using h
theorem pow_step {u f : Nat} (hp : 0 < u) (h : u < 10 ^ f) : ∃ g, f = g + 1 ∧ u / 10 < 10 ^ g := by
  cases f with
  | zero => rw [Nat.pow_zero] at h; omega
  | succ g => exact ⟨g, rfl, by rw [Nat.pow_succ] at h; omega⟩
set_option maxHeartbeats 4000000 in
theorem markText (q : Int) (q0 : 1 ≤ q) (q1 : q ≤ 35184372088832) (w : World) :
    Calls Tryz.prog 114 #[.int .i64 q] w fun e w' => (∃ s, e = .returned (.string s)) ∧ Below w.heap.size w w' := by
  obtain ⟨n, rfl⟩ : ∃ n : Nat, q = n := ⟨q.toNat, by omega⟩
  have hn : n ≤ 35184372088832 := by omega
  have hz : ¬ (n : Int) ≤ 0 := by omega
  go_enter Tryz.func114, Tryz.ntmps114
  go_wp2_with fail
  go_loopw [0, 3] (fun vq vs wr => ∃ (u f : Nat) (s : ByteArray), vq = .int .i64 u ∧ vs = .string s ∧ u ≤ n ∧ u < 10 ^ f ∧ s.size + f ≤ 14 ∧ Below w.heap.size w wr) (fun vq _ _ => (intOf vq).toNat)
  case atStart => exact ⟨n, 14, ⟨#[]⟩, rfl, rfl, Nat.le_refl _, by omega, by decide, Below.refl _ _⟩
  case round =>
    obtain ⟨u, f, s, rfl, rfl, hu, hf, hs, hb⟩ := hrel
    have hf' : Hid (u < 10 ^ f) := hf
    have hb' : Hid (Below w.heap.size w wr) := hb
    clear hf hb
    by_cases hp : 0 < u
    · have hp' : (u : Int) > 0 := by omega
      have hp2 : (0 : Int) < u := by omega
      obtain ⟨g, hg, hlt⟩ := pow_step hp hf'.out
      have hlt' : Hid (u / 10 < 10 ^ g) := hlt
      have q2 : (u : Int).tmod 10 = (u : Int) % 10 := Int.tmod_eq_emod_of_nonneg (by omega)
      have q3 : IntKind.i64.wrap (48 + (u : Int) % 10) = 48 + (u : Int) % 10 := IntWalk.i64_in _ (by omega)
      have q4 : IntKind.u8.wrap (48 + (u : Int) % 10) = 48 + (u : Int) % 10 := IntWalk.u8_in _ (by omega)
      have hc : ((UInt8.ofNat (48 + u % 10)).toNat : Int) = 48 + (u : Int) % 10 := by rw [UInt8.toNat_ofNat']; omega
      have hcv := conv1 (UInt8.ofNat (48 + u % 10)) (48 + (u : Int) % 10) hc
      generalize UInt8.ofNat (48 + u % 10) = c at *
      have q5 : IntKind.i64.wrap ((u : Int) / 10) = (u : Int) / 10 := IntWalk.i64_in _ (by omega)
      have q6 : (u : Int).tdiv 10 = (u : Int) / 10 := Int.tdiv_eq_ediv_of_nonneg (by omega)
      have hsz : Hid (((⟨#[c]⟩ : ByteArray) ++ s).size = s.size + 1) := by show _ = _; rw [ByteArray.size_append]; show 1 + s.size = _; omega
      clear hlt hc hf'
      go_wp2_with fail
      go_roundw
      case rel => exact ⟨u / 10, g, _, by go_num, rfl, by omega, hlt'.out, by rw [hsz.out]; omega, hb'.out.alloc hb'.out.size _⟩
      case measure => simp [intOf]; omega
    · obtain rfl : u = 0 := by omega
      go_wp2_with fail
      go_ret
      exact ⟨⟨_, rfl⟩, hb'.out⟩
end Go.Proofs.YtffngjgjhialnaaGreatDoor.MarkText
namespace Go.Proofs.YtffngjgjhialnaaGreatDoor.MarkMod
open Go.RowKit PlainShape InsMem
/-- A cell that can be written. -/
def Wc (w : World) (b i : Nat) : Prop := (∃ v, w.cell? ⟨b, i, none⟩ = some v) ∧ w.frozen? ⟨b, i, none⟩ = false
/-- A slice whose n cells can be written. -/
def Wr (w : World) (a : Option Addr) (n : Nat) : Prop := n = 0 ∨ ∃ b off, a = some ⟨b, off, none⟩ ∧ ∀ j, j < n → Wc w b (off + j)
/-- Nothing that was there has changed but the block at a; what could be written can be written. -/
def Mk (a : Option Addr) (w w' : World) : Prop := w.grownBy w' (a.map (·.block)) ∧ ∀ b i, Wc w b i → Wc w' b i
theorem Mk.refl (a : Option Addr) (w : World) : Mk a w w := ⟨⟨rfl, rfl, rfl, Nat.le_refl _, fun _ _ _ => rfl⟩, fun _ _ h => h⟩
theorem wc_set {w : World} {b i b' i' : Nat} (v : Value) (h : Wc w b i) : Wc (w.setCell ⟨b', i', none⟩ v) b i := by
  have hf : (w.setCell ⟨b', i', none⟩ v).frozen? ⟨b, i, none⟩ = w.frozen? ⟨b, i, none⟩ := by
    rw [World.frozen?_setCell]
  refine ⟨?_, hf.trans h.2⟩
  obtain ⟨x, hx⟩ := h.1
  by_cases e : (⟨b', i', none⟩ : Addr) = ⟨b, i, none⟩
  · rw [e]; exact ⟨v, World.cell?_setCell_same (w := w) (a := ⟨b, i, none⟩) (v := v) hx⟩
  · exact ⟨x, (World.cell?_setCell_other (w := w) (a := ⟨b', i', none⟩) (b := ⟨b, i, none⟩) (v := v) e).trans hx⟩
theorem Mk.set {w w' : World} {b off j : Nat} (h : Mk (some ⟨b, off, none⟩) w w') (v : Value) : Mk (some ⟨b, off, none⟩) w (w'.setCell ⟨b, j, none⟩ v) := by
  refine ⟨⟨h.1.os, h.1.tape, h.1.output, ?_, fun k hk hne => ?_⟩, fun b i hb => wc_set v (h.2 b i hb)⟩
  · rw [World.size_setCell]; exact h.1.size
  · rw [Below.heap_setCell w' _ v k (fun e => hne (by simp [e]))]; exact h.1.block k hk hne
theorem Mk.call {a : Option Addr} {w u w' : World} (h : Mk a w u) (hb : Below u.heap.size u w') : Mk a w w' := by
  refine ⟨⟨hb.os.trans h.1.os, hb.tape.trans h.1.tape, hb.output.trans h.1.output, Nat.le_trans h.1.size hb.size, fun k hk hne => (hb.block k (Nat.lt_of_lt_of_le hk h.1.size)).trans (h.1.block k hk hne)⟩, fun b i hw => ?_⟩
  obtain ⟨⟨v, hv⟩, hf⟩ := h.2 b i hw
  have hlt : b < u.heap.size := World.block_lt_of_cell? u _ hv
  refine ⟨⟨v, (hb.cell (p := ⟨b, i, none⟩) hlt).trans hv⟩, ?_⟩
  rw [← hf]
  unfold World.frozen?
  rw [hb.block b hlt]
set_option maxHeartbeats 4000000 in
theorem markInsS (w : World) (a : Option Addr) (n cap : Nat) (q : Int) (h : Wr w a (n * 3)) (hn : n ≤ 1099511627776) (q0 : 0 ≤ q) (q1 : q ≤ 70368744177664) :
    Calls Tryz.prog 115 #[.slice a n cap, .int .i64 q] w fun e w' => e = .returned (.int .i64 (q + 3 * n)) ∧ Mk a w w' := by
  rcases h with h0 | ⟨b, off, rfl, hc⟩
  · obtain rfl : n = 0 := by omega
    go_enter Tryz.func115, Tryz.ntmps115
    go_wp2_with fail
    refine wp_loop_rounds 1 ?_
    rw [rounds_succ]
    go_wp2_with fail
    go_ret
    exact ⟨by simp, Mk.refl _ _⟩
  · have hc' : Hid (∀ j, j < n * 3 → Wc w b (off + j)) := hc
    clear hc
    go_enter Tryz.func115, Tryz.ntmps115
    go_wp2_with fail
    go_loopw [1, 5] (fun q' i wr => ∃ k : Nat, k ≤ n ∧ i = .int .i64 k ∧ q' = .int .i64 (q + 3 * k) ∧ Mk (some ⟨b, off, none⟩) w wr) (fun _ i _ => n - (intOf i).toNat)
    case atStart => exact ⟨0, Nat.zero_le _, rfl, by simp, Mk.refl _ _⟩
    case round =>
      obtain ⟨k, hk, rfl, rfl, ho⟩ := hrel
      have ho' : Hid (Mk (some ⟨b, off, none⟩) w wr) := ho
      clear ho
      by_cases hlt : k < n
      · have hlt' : (k : Int) < (n : Int) := by omega
        have hs : Hid (∀ j, j < n * 3 → Wc wr b (off + j)) := fun j hj => ho'.out.2 _ _ (hc'.out j hj)
        obtain ⟨⟨v0, c0⟩, f0⟩ := hs.out (k * 3) (by omega)
        obtain ⟨⟨v1, c1⟩, f1⟩ := hs.out (k * 3 + 1) (by omega)
        rw [← Nat.add_assoc] at c1 f1
        obtain ⟨⟨v2, c2⟩, f2⟩ := hs.out (k * 3 + 2) (by omega)
        rw [← Nat.add_assoc] at c2 f2
        have d1 : ∀ x, (wr.setCell ⟨b, off + k * 3, none⟩ x).cell? ⟨b, off + k * 3 + 1, none⟩ = some v1 := fun x => (MarkIns.set_other (by omega)).trans c1
        have d2 : ∀ x y, ((wr.setCell ⟨b, off + k * 3, none⟩ x).setCell ⟨b, off + k * 3 + 1, none⟩ y).cell? ⟨b, off + k * 3 + 2, none⟩ = some v2 := fun x y => (MarkIns.set_other (by omega)).trans ((MarkIns.set_other (by omega)).trans c2)
        go_wp2_with fail
        go_roundw
        case rel => exact ⟨k + 1, by omega, by go_num, by go_num, ((ho'.out.set _).set _).set _⟩
        case measure => simp [intOf]; omega
      · obtain rfl : k = n := by omega
        go_wp2_with fail
        go_ret
        exact ⟨rfl, ho'.out⟩
set_option maxHeartbeats 4000000 in
theorem markByteS (w : World) (a : Option Addr) (n cap : Nat) (q : Int) (h : Wr w a n) (hn : n ≤ 1099511627776) (q0 : 0 ≤ q) (q1 : q ≤ 70368744177664) :
    Calls Tryz.prog 12 #[.slice a n cap, .int .i64 q] w fun e w' => e = .returned (.int .i64 (q + n)) ∧ Mk a w w' := by
  rcases h with h0 | ⟨b, off, rfl, hc⟩
  · obtain rfl : n = 0 := by omega
    go_enter Tryz.func12, Tryz.ntmps12
    go_wp2_with fail
    refine wp_loop_rounds 1 ?_
    rw [rounds_succ]
    go_wp2_with fail
    go_ret
    exact ⟨by simp, Mk.refl _ _⟩
  · have hc' : Hid (∀ j, j < n → Wc w b (off + j)) := hc
    clear hc
    go_enter Tryz.func12, Tryz.ntmps12
    go_wp2_with fail
    go_loopw [1, 5] (fun q' i wr => ∃ k : Nat, k ≤ n ∧ i = .int .i64 k ∧ q' = .int .i64 (q + k) ∧ Mk (some ⟨b, off, none⟩) w wr) (fun _ i _ => n - (intOf i).toNat)
    case atStart => exact ⟨0, Nat.zero_le _, rfl, by simp, Mk.refl _ _⟩
    case round =>
      obtain ⟨k, hk, rfl, rfl, ho⟩ := hrel
      have ho' : Hid (Mk (some ⟨b, off, none⟩) w wr) := ho
      clear ho
      by_cases hlt : k < n
      · have hlt' : (k : Int) < (n : Int) := by omega
        have hs : Hid (∀ j, j < n → Wc wr b (off + j)) := fun j hj => ho'.out.2 _ _ (hc'.out j hj)
        obtain ⟨⟨v0, c0⟩, f0⟩ := hs.out (k) (by omega)
        go_wp2_with fail
        go_roundw
        case rel => exact ⟨k + 1, by omega, by go_num, by go_num, ho'.out.set _⟩
        case measure => simp [intOf]; omega
      · obtain rfl : k = n := by omega
        go_wp2_with fail
        go_ret
        exact ⟨rfl, ho'.out⟩
set_option maxHeartbeats 4000000 in
theorem markSigS (w : World) (a : Option Addr) (n cap : Nat) (q : Int) (h : Wr w a (n * 2)) (hn : n ≤ 1099511627776) (q0 : 0 ≤ q) (q1 : q ≤ 8796093022208) :
    Calls Tryz.prog 62 #[.slice a n cap, .int .i64 q] w fun e w' => e = .returned (.int .i64 (q + 2 * n)) ∧ Mk a w w' := by
  rcases h with h0 | ⟨b, off, rfl, hc⟩
  · obtain rfl : n = 0 := by omega
    go_enter Tryz.func62, Tryz.ntmps62
    go_wp2_with fail
    refine wp_loop_rounds 1 ?_
    rw [rounds_succ]
    go_wp2_with fail
    go_ret
    exact ⟨by simp, Mk.refl _ _⟩
  · have hc' : Hid (∀ j, j < n * 2 → Wc w b (off + j)) := hc
    clear hc
    go_enter Tryz.func62, Tryz.ntmps62
    go_wp2_with fail
    go_loopw [1, 5] (fun q' i wr => ∃ k : Nat, k ≤ n ∧ i = .int .i64 k ∧ q' = .int .i64 (q + 2 * k) ∧ Mk (some ⟨b, off, none⟩) w wr) (fun _ i _ => n - (intOf i).toNat)
    case atStart => exact ⟨0, Nat.zero_le _, rfl, by simp, Mk.refl _ _⟩
    case round =>
      obtain ⟨k, hk, rfl, rfl, ho⟩ := hrel
      have ho' : Hid (Mk (some ⟨b, off, none⟩) w wr) := ho
      clear ho
      by_cases hlt : k < n
      · have hlt' : (k : Int) < (n : Int) := by omega
        have hs : Hid (∀ j, j < n * 2 → Wc wr b (off + j)) := fun j hj => ho'.out.2 _ _ (hc'.out j hj)
        obtain ⟨⟨v0, c0⟩, f0⟩ := hs.out (k * 2) (by omega)
        obtain ⟨⟨v1, c1⟩, f1⟩ := hs.out (k * 2 + 1) (by omega)
        rw [← Nat.add_assoc] at c1 f1
        have d1 : ∀ x, (wr.setCell ⟨b, off + k * 2, none⟩ x).cell? ⟨b, off + k * 2 + 1, none⟩ = some v1 := fun x => (MarkIns.set_other (by omega)).trans c1
        go_wp2_with fail
        go_roundw
        case rel => exact ⟨k + 1, by omega, by go_num, by go_num, (ho'.out.set _).set _⟩
        case measure => simp [intOf]; omega
      · obtain rfl : k = n := by omega
        go_wp2_with fail
        go_ret
        exact ⟨rfl, ho'.out⟩
set_option maxHeartbeats 4000000 in
theorem markGlobalS (w : World) (a : Option Addr) (n cap : Nat) (q : Int) (h : Wr w a (n * 2)) (hn : n ≤ 1099511627776) (q0 : 0 ≤ q) (q1 : q ≤ 8796093022208) :
    Calls Tryz.prog 65 #[.slice a n cap, .int .i64 q] w fun e w' => e = .returned (.int .i64 (q + 2 * n)) ∧ Mk a w w' := by
  rcases h with h0 | ⟨b, off, rfl, hc⟩
  · obtain rfl : n = 0 := by omega
    go_enter Tryz.func65, Tryz.ntmps65
    go_wp2_with fail
    refine wp_loop_rounds 1 ?_
    rw [rounds_succ]
    go_wp2_with fail
    go_ret
    exact ⟨by simp, Mk.refl _ _⟩
  · have hc' : Hid (∀ j, j < n * 2 → Wc w b (off + j)) := hc
    clear hc
    go_enter Tryz.func65, Tryz.ntmps65
    go_wp2_with fail
    go_loopw [1, 5] (fun q' i wr => ∃ k : Nat, k ≤ n ∧ i = .int .i64 k ∧ q' = .int .i64 (q + 2 * k) ∧ Mk (some ⟨b, off, none⟩) w wr) (fun _ i _ => n - (intOf i).toNat)
    case atStart => exact ⟨0, Nat.zero_le _, rfl, by simp, Mk.refl _ _⟩
    case round =>
      obtain ⟨k, hk, rfl, rfl, ho⟩ := hrel
      have ho' : Hid (Mk (some ⟨b, off, none⟩) w wr) := ho
      clear ho
      by_cases hlt : k < n
      · have hlt' : (k : Int) < (n : Int) := by omega
        have hs : Hid (∀ j, j < n * 2 → Wc wr b (off + j)) := fun j hj => ho'.out.2 _ _ (hc'.out j hj)
        obtain ⟨⟨v0, c0⟩, f0⟩ := hs.out (k * 2) (by omega)
        obtain ⟨⟨v1, c1⟩, f1⟩ := hs.out (k * 2 + 1) (by omega)
        rw [← Nat.add_assoc] at c1 f1
        have d1 : ∀ x, (wr.setCell ⟨b, off + k * 2, none⟩ x).cell? ⟨b, off + k * 2 + 1, none⟩ = some v1 := fun x => (MarkIns.set_other (by omega)).trans c1
        go_wp2_with fail
        go_roundw
        case rel => exact ⟨k + 1, by omega, by go_num, by go_num, (ho'.out.set _).set _⟩
        case measure => simp [intOf]; omega
      · obtain rfl : k = n := by omega
        go_wp2_with fail
        go_ret
        exact ⟨rfl, ho'.out⟩
set_option maxHeartbeats 4000000 in
theorem markImportS (w : World) (a : Option Addr) (n cap : Nat) (q : Int) (h : Wr w a (n * 3)) (hn : n ≤ 1048576) (q0 : 1 ≤ q) (q1 : q ≤ 8796093022208) :
    Calls Tryz.prog 63 #[.slice a n cap, .int .i64 q] w fun e w' => e = .returned (.int .i64 (q + 3 * n)) ∧ Mk a w w' := by
  rcases h with h0 | ⟨b, off, rfl, hc⟩
  · obtain rfl : n = 0 := by omega
    go_enter Tryz.func63, Tryz.ntmps63
    go_wp2_with fail
    refine wp_loop_rounds 1 ?_
    rw [rounds_succ]
    go_wp2_with fail
    go_ret
    exact ⟨by simp, Mk.refl _ _⟩
  · have hc' : Hid (∀ j, j < n * 3 → Wc w b (off + j)) := hc
    clear hc
    go_enter Tryz.func63, Tryz.ntmps63
    go_wp2_with fail
    go_loopw [1, 5] (fun q' i wr => ∃ k : Nat, k ≤ n ∧ i = .int .i64 k ∧ q' = .int .i64 (q + 3 * k) ∧ Mk (some ⟨b, off, none⟩) w wr) (fun _ i _ => n - (intOf i).toNat)
    case atStart => exact ⟨0, Nat.zero_le _, rfl, by simp, Mk.refl _ _⟩
    case round =>
      obtain ⟨k, hk, rfl, rfl, ho⟩ := hrel
      have ho' : Hid (Mk (some ⟨b, off, none⟩) w wr) := ho
      clear ho
      by_cases hlt : k < n
      · have hlt' : (k : Int) < (n : Int) := by omega
        have hw : Hid (∀ j, j < n * 3 → Wc wr b (off + j)) := (fun j hj => ho'.out.2 _ _ (hc'.out j hj))
        have z0 := hw.out (k * 3) (by omega); obtain ⟨⟨v0, c0⟩, f0⟩ := z0; have z1 := hw.out (k * 3 + 1) (by omega); obtain ⟨⟨v1, c1⟩, f1⟩ := z1; rw [← Nat.add_assoc] at c1 f1; have z2 := hw.out (k * 3 + 2) (by omega); obtain ⟨⟨v2, c2⟩, f2⟩ := z2; rw [← Nat.add_assoc] at c2 f2; have d1 : ∀ x, (wr.setCell ⟨b, off + k * 3, none⟩ x).cell? ⟨b, off + k * 3 + 1, none⟩ = some v1 := (fun x => (MarkIns.set_other (by omega)).trans c1); have d2 : ∀ x y, ((wr.setCell ⟨b, off + k * 3, none⟩ x).setCell ⟨b, off + k * 3 + 1, none⟩ y).cell? ⟨b, off + k * 3 + 2, none⟩ = some v2 := (fun x y => (MarkIns.set_other (by omega)).trans ((MarkIns.set_other (by omega)).trans c2)); clear hw
        go_wp2_with (first | (go_at_call 114; refine (MarkText.markText _ (by omega) (by omega) _).mono ?_; rintro e w1 ⟨⟨s1, rfl⟩, q1⟩; have M1 : Hid (Mk (some ⟨b, off, none⟩) w w1) := ho'.out.call q1; clear ho' q1; have hw : Hid (∀ j, j < n * 3 → Wc w1 b (off + j)) := (fun j hj => M1.out.2 _ _ (hc'.out j hj)); have z0 := hw.out (k * 3) (by omega); obtain ⟨⟨v0, c0⟩, f0⟩ := z0; have z1 := hw.out (k * 3 + 1) (by omega); obtain ⟨⟨v1, c1⟩, f1⟩ := z1; rw [← Nat.add_assoc] at c1 f1; have z2 := hw.out (k * 3 + 2) (by omega); obtain ⟨⟨v2, c2⟩, f2⟩ := z2; rw [← Nat.add_assoc] at c2 f2; have d1 : ∀ x, (w1.setCell ⟨b, off + k * 3, none⟩ x).cell? ⟨b, off + k * 3 + 1, none⟩ = some v1 := (fun x => (MarkIns.set_other (by omega)).trans c1); have d2 : ∀ x y, ((w1.setCell ⟨b, off + k * 3, none⟩ x).setCell ⟨b, off + k * 3 + 1, none⟩ y).cell? ⟨b, off + k * 3 + 2, none⟩ = some v2 := (fun x y => (MarkIns.set_other (by omega)).trans ((MarkIns.set_other (by omega)).trans c2)); clear hw) | (go_at_call 114; refine (MarkText.markText _ (by omega) (by omega) _).mono ?_; rintro e w2 ⟨⟨s2, rfl⟩, q2⟩; have M2 : Hid (Mk (some ⟨b, off, none⟩) w w2) := (M1.out.set _).call q2; clear M1 q2; have hw : Hid (∀ j, j < n * 3 → Wc w2 b (off + j)) := (fun j hj => M2.out.2 _ _ (hc'.out j hj)); have z0 := hw.out (k * 3) (by omega); obtain ⟨⟨v0, c0⟩, f0⟩ := z0; have z1 := hw.out (k * 3 + 1) (by omega); obtain ⟨⟨v1, c1⟩, f1⟩ := z1; rw [← Nat.add_assoc] at c1 f1; have z2 := hw.out (k * 3 + 2) (by omega); obtain ⟨⟨v2, c2⟩, f2⟩ := z2; rw [← Nat.add_assoc] at c2 f2; have d2 : ∀ y, (w2.setCell ⟨b, off + k * 3 + 1, none⟩ y).cell? ⟨b, off + k * 3 + 2, none⟩ = some v2 := (fun y => (MarkIns.set_other (by omega)).trans c2); clear hw))
        go_roundw
        case rel => exact ⟨k + 1, by omega, by go_num, by go_num, (M2.out.set _).set _⟩
        case measure => simp [intOf]; omega
      · obtain rfl : k = n := by omega
        go_wp2_with fail
        go_ret
        exact ⟨rfl, ho'.out⟩
set_option maxHeartbeats 4000000 in
theorem markExportS (w : World) (a : Option Addr) (n cap : Nat) (q : Int) (h : Wr w a (n * 3)) (hn : n ≤ 1048576) (q0 : 1 ≤ q) (q1 : q ≤ 8796093022208) :
    Calls Tryz.prog 66 #[.slice a n cap, .int .i64 q] w fun e w' => e = .returned (.int .i64 (q + 3 * n)) ∧ Mk a w w' := by
  rcases h with h0 | ⟨b, off, rfl, hc⟩
  · obtain rfl : n = 0 := by omega
    go_enter Tryz.func66, Tryz.ntmps66
    go_wp2_with fail
    refine wp_loop_rounds 1 ?_
    rw [rounds_succ]
    go_wp2_with fail
    go_ret
    exact ⟨by simp, Mk.refl _ _⟩
  · have hc' : Hid (∀ j, j < n * 3 → Wc w b (off + j)) := hc
    clear hc
    go_enter Tryz.func66, Tryz.ntmps66
    go_wp2_with fail
    go_loopw [1, 5] (fun q' i wr => ∃ k : Nat, k ≤ n ∧ i = .int .i64 k ∧ q' = .int .i64 (q + 3 * k) ∧ Mk (some ⟨b, off, none⟩) w wr) (fun _ i _ => n - (intOf i).toNat)
    case atStart => exact ⟨0, Nat.zero_le _, rfl, by simp, Mk.refl _ _⟩
    case round =>
      obtain ⟨k, hk, rfl, rfl, ho⟩ := hrel
      have ho' : Hid (Mk (some ⟨b, off, none⟩) w wr) := ho
      clear ho
      by_cases hlt : k < n
      · have hlt' : (k : Int) < (n : Int) := by omega
        have hw : Hid (∀ j, j < n * 3 → Wc wr b (off + j)) := (fun j hj => ho'.out.2 _ _ (hc'.out j hj))
        have z0 := hw.out (k * 3) (by omega); obtain ⟨⟨v0, c0⟩, f0⟩ := z0; have z1 := hw.out (k * 3 + 1) (by omega); obtain ⟨⟨v1, c1⟩, f1⟩ := z1; rw [← Nat.add_assoc] at c1 f1; have z2 := hw.out (k * 3 + 2) (by omega); obtain ⟨⟨v2, c2⟩, f2⟩ := z2; rw [← Nat.add_assoc] at c2 f2; have d1 : ∀ x, (wr.setCell ⟨b, off + k * 3, none⟩ x).cell? ⟨b, off + k * 3 + 1, none⟩ = some v1 := (fun x => (MarkIns.set_other (by omega)).trans c1); have d2 : ∀ x y, ((wr.setCell ⟨b, off + k * 3, none⟩ x).setCell ⟨b, off + k * 3 + 1, none⟩ y).cell? ⟨b, off + k * 3 + 2, none⟩ = some v2 := (fun x y => (MarkIns.set_other (by omega)).trans ((MarkIns.set_other (by omega)).trans c2)); clear hw
        go_wp2_with ((go_at_call 114; refine (MarkText.markText _ (by omega) (by omega) _).mono ?_; rintro e w1 ⟨⟨s1, rfl⟩, q1⟩; have M1 : Hid (Mk (some ⟨b, off, none⟩) w w1) := ho'.out.call q1; clear ho' q1; have hw : Hid (∀ j, j < n * 3 → Wc w1 b (off + j)) := (fun j hj => M1.out.2 _ _ (hc'.out j hj)); have z0 := hw.out (k * 3) (by omega); obtain ⟨⟨v0, c0⟩, f0⟩ := z0; have z1 := hw.out (k * 3 + 1) (by omega); obtain ⟨⟨v1, c1⟩, f1⟩ := z1; rw [← Nat.add_assoc] at c1 f1; have z2 := hw.out (k * 3 + 2) (by omega); obtain ⟨⟨v2, c2⟩, f2⟩ := z2; rw [← Nat.add_assoc] at c2 f2; have d1 : ∀ x, (w1.setCell ⟨b, off + k * 3, none⟩ x).cell? ⟨b, off + k * 3 + 1, none⟩ = some v1 := (fun x => (MarkIns.set_other (by omega)).trans c1); have d2 : ∀ x y, ((w1.setCell ⟨b, off + k * 3, none⟩ x).setCell ⟨b, off + k * 3 + 1, none⟩ y).cell? ⟨b, off + k * 3 + 2, none⟩ = some v2 := (fun x y => (MarkIns.set_other (by omega)).trans ((MarkIns.set_other (by omega)).trans c2)); clear hw))
        go_roundw
        case rel => exact ⟨k + 1, by omega, by go_num, by go_num, ((M1.out.set _).set _).set _⟩
        case measure => simp [intOf]; omega
      · obtain rfl : k = n := by omega
        go_wp2_with fail
        go_ret
        exact ⟨rfl, ho'.out⟩
/-- Nothing that was there has changed but blocks in S. -/
def MkR (S : Nat → Prop) (w w' : World) : Prop := (w'.os = w.os ∧ w'.tape = w.tape ∧ w'.output = w.output ∧ w.heap.size ≤ w'.heap.size ∧ ∀ k, k < w.heap.size → ¬ S k → w'.heap[k]? = w.heap[k]?) ∧ ∀ b i, Wc w b i → Wc w' b i
theorem MkR.refl (S : Nat → Prop) (w : World) : MkR S w w := ⟨⟨rfl, rfl, rfl, Nat.le_refl _, fun _ _ _ => rfl⟩, fun _ _ h => h⟩
theorem MkR.trans {S : Nat → Prop} {w u v : World} (h : MkR S w u) (h' : MkR S u v) : MkR S w v :=
  ⟨⟨h'.1.1.trans h.1.1, h'.1.2.1.trans h.1.2.1, h'.1.2.2.1.trans h.1.2.2.1, Nat.le_trans h.1.2.2.2.1 h'.1.2.2.2.1, fun k hk hn => (h'.1.2.2.2.2 k (Nat.lt_of_lt_of_le hk h.1.2.2.2.1) hn).trans (h.1.2.2.2.2 k hk hn)⟩, fun b i hw => h'.2 b i (h.2 b i hw)⟩
theorem Mk.range {S : Nat → Prop} {a : Option Addr} {w w' : World} (h : Mk a w w') (ha : ∀ p, a = some p → S p.block) : MkR S w w' := by
  refine ⟨⟨h.1.os, h.1.tape, h.1.output, h.1.size, fun k hk hn => h.1.block k hk ?_⟩, h.2⟩
  intro e
  cases a with
  | none => cases e
  | some p =>
    exact hn (by rw [show k = p.block by simpa using e]; exact ha p rfl)
theorem MkR.set {S : Nat → Prop} {w w' : World} {b j : Nat} (h : MkR S w w') (hb : S b) (v : Value) : MkR S w (w'.setCell ⟨b, j, none⟩ v) := by
  refine ⟨⟨h.1.1, h.1.2.1, h.1.2.2.1, ?_, fun k hk hne => ?_⟩, fun b' i' hb' => wc_set v (h.2 b' i' hb')⟩
  · rw [World.size_setCell]; exact h.1.2.2.2.1
  · rw [Below.heap_setCell w' _ v k (fun e => hne (by rw [show k = b from e]; exact hb))]; exact h.1.2.2.2.2 k hk hne
/-- A slice of functions whose cells, and whose bodies' cells, can be written; no body that has instructions lies in the row itself. -/
def WrF (S : Nat → Prop) (w : World) (b n : Nat) (G : Nat → Nat) (L K : Nat → Nat) : Prop :=
  S b ∧ ∀ j, j < n → Wc w b (j * 3) ∧ Wc w b (j * 3 + 1) ∧ w.cell? ⟨b, j * 3 + 2, none⟩ = some (.slice (some ⟨G j, 0, none⟩) (L j) (K j)) ∧ L j ≤ 1048576 ∧ (L j = 0 ∨ (G j ≠ b ∧ S (G j) ∧ ∀ i, i < L j * 3 → Wc w (G j) i))
theorem markIns0 (w : World) (a : Option Addr) (cap : Nat) (q : Int) :
    Calls Tryz.prog 115 #[.slice a 0 cap, .int .i64 q] w fun e w' => e = .returned (.int .i64 q) ∧ w' = w := by
  go_enter Tryz.func115, Tryz.ntmps115
  go_wp2_with fail
  refine wp_loop_rounds 1 ?_
  rw [rounds_succ]
  go_wp2_with fail
  go_ret
  exact ⟨rfl, rfl⟩
set_option maxHeartbeats 4000000 in
theorem markFuncS (S : Nat → Prop) (w : World) (b n cap : Nat) (G L K : Nat → Nat) (q : Int) (h : WrF S w b n G L K) (hn : n ≤ 1048576) (q0 : 0 ≤ q) (q1 : q ≤ 8796093022208) :
    Calls Tryz.prog 64 #[.slice (some ⟨b, 0, none⟩) n cap, .int .i64 q] w fun e w' => ∃ r : Int, e = .returned (.int .i64 r) ∧ q ≤ r ∧ r ≤ q + 3145730 * n ∧ MkR S w w' := by
  obtain ⟨hB, hc⟩ := h
  have hc' : Hid (∀ j, j < n → Wc w b (j * 3) ∧ Wc w b (j * 3 + 1) ∧ w.cell? ⟨b, j * 3 + 2, none⟩ = some (.slice (some ⟨G j, 0, none⟩) (L j) (K j)) ∧ L j ≤ 1048576 ∧ (L j = 0 ∨ (G j ≠ b ∧ S (G j) ∧ ∀ i, i < L j * 3 → Wc w (G j) i))) := hc
  clear hc
  go_enter Tryz.func64, Tryz.ntmps64
  go_wp2_with fail
  go_loopw [1, 5] (fun q' i wr => ∃ (k : Nat) (r : Int), k ≤ n ∧ i = .int .i64 k ∧ q' = .int .i64 r ∧ q ≤ r ∧ r ≤ q + 3145730 * k ∧ MkR S w wr ∧ ∀ j, j < n → wr.cell? ⟨b, j * 3 + 2, none⟩ = w.cell? ⟨b, j * 3 + 2, none⟩) (fun _ i _ => n - (intOf i).toNat)
  case atStart => exact ⟨0, q, Nat.zero_le _, rfl, rfl, Int.le_refl _, by omega, MkR.refl _ _, fun _ _ => rfl⟩
  case round =>
    obtain ⟨k, r, hk, rfl, rfl, r0, r1, ho, hsl⟩ := hrel
    have ho' : Hid (MkR S w wr) := ho
    have hsl' : Hid (∀ j, j < n → wr.cell? ⟨b, j * 3 + 2, none⟩ = w.cell? ⟨b, j * 3 + 2, none⟩) := hsl
    clear ho hsl
    by_cases hlt : k < n
    · have hlt' : (k : Int) < (n : Int) := by omega
      obtain ⟨w0, w1, c2', hL, hG⟩ := hc'.out k hlt
      obtain ⟨⟨v0, c0⟩, f0⟩ := ho'.out.2 _ _ w0
      obtain ⟨⟨v1, c1⟩, f1⟩ := ho'.out.2 _ _ w1
      have c2 : wr.cell? ⟨b, k * 3 + 2, none⟩ = some (.slice (some ⟨G k, 0, none⟩) (L k) (K k)) := (hsl'.out k hlt).trans c2'
      have d1 : ∀ x, (wr.setCell ⟨b, k * 3, none⟩ x).cell? ⟨b, k * 3 + 1, none⟩ = some v1 := fun x => (MarkIns.set_other (by omega)).trans c1
      have d2 : ∀ x y, ((wr.setCell ⟨b, k * 3, none⟩ x).setCell ⟨b, k * 3 + 1, none⟩ y).cell? ⟨b, k * 3 + 2, none⟩ = some (.slice (some ⟨G k, 0, none⟩) (L k) (K k)) := fun x y => (MarkIns.set_other (by omega)).trans ((MarkIns.set_other (by omega)).trans c2)
      have hG' : Hid (L k = 0 ∨ (G k ≠ b ∧ S (G k) ∧ ∀ i, i < L k * 3 → Wc w (G k) i)) := hG
      have kM : Hid (∀ u : World, MkR S w u → ∀ s : Int, 0 ≤ s → s ≤ 70368744177664 → Calls Tryz.prog 115 #[.slice (some ⟨G k, 0, none⟩) (L k) (K k), .int .i64 s] u fun e w' => e = .returned (.int .i64 (s + 3 * (L k : Nat))) ∧ MkR S u w' ∧ ∀ j, w'.cell? ⟨b, j, none⟩ = u.cell? ⟨b, j, none⟩) := fun u hu s s0 s1 => by
        rcases hG'.out with h0 | ⟨g1, g2, g4⟩
        · rw [h0]
          exact (markIns0 u (some ⟨G k, 0, none⟩) (K k) s).mono fun e w' ⟨he, hm⟩ => by subst hm; exact ⟨by rw [he]; simp, MkR.refl _ _, fun _ => rfl⟩
        · refine (markInsS u (some ⟨G k, 0, none⟩) (L k) (K k) s (.inr ⟨G k, 0, rfl, fun j hj => by rw [Nat.zero_add]; exact hu.2 _ _ (g4 j hj)⟩) (by omega) s0 s1).mono fun e w' ⟨he, hm⟩ => ⟨he, hm.range (fun p hp => by cases hp; exact g2), fun j => ?_⟩
          obtain ⟨⟨x, hx⟩, _⟩ := hu.2 _ _ w0
          have hlt2 : b < u.heap.size := World.block_lt_of_cell? u _ hx
          unfold World.cell?
          rw [hm.1.block b hlt2 (fun e => g1 (by simpa using e.symm))]
      clear w0 w1 c2' hG
      generalize L k = LL at *
      generalize K k = KK at *
      generalize G k = GG at *
      go_wp2_with (go_at_call 115; refine (kM.out _ ((ho'.out.set hB _).set hB _) _ (by omega) (by omega)).mono ?_; rintro e w3 ⟨rfl, q3, q4⟩; have x3 : Hid (MkR S w w3) := ((ho'.out.set hB _).set hB _).trans q3; have x4 : Hid (∀ j, j < n → w3.cell? ⟨b, j * 3 + 2, none⟩ = w.cell? ⟨b, j * 3 + 2, none⟩) := (fun j hj => (q4 _).trans ((MarkIns.set_other (by omega)).trans ((MarkIns.set_other (by omega)).trans (hsl'.out j hj)))); clear q3 q4)
      go_roundw
      case rel => exact ⟨k + 1, _, by omega, by go_num, rfl, by omega, by omega, x3.out, x4.out⟩
      case measure => simp [intOf]; omega
    · obtain rfl : k = n := by omega
      go_wp2_with fail
      go_ret
      exact ⟨r, rfl, r0, r1, ho'.out⟩
/-- A slice of Data whose cells, and whose bytes' cells, can be written; no bytes, where there are any, lie in the row itself. -/
def WrD (S : Nat → Prop) (w : World) (b n : Nat) (G : Nat → Nat) (L K : Nat → Nat) : Prop :=
  S b ∧ ∀ j, j < n → Wc w b (j * 2) ∧ w.cell? ⟨b, j * 2 + 1, none⟩ = some (.slice (some ⟨G j, 0, none⟩) (L j) (K j)) ∧ L j ≤ 1048576 ∧ (L j = 0 ∨ (G j ≠ b ∧ S (G j) ∧ ∀ i, i < L j → Wc w (G j) i))
theorem markByte0 (w : World) (a : Option Addr) (cap : Nat) (q : Int) :
    Calls Tryz.prog 12 #[.slice a 0 cap, .int .i64 q] w fun e w' => e = .returned (.int .i64 q) ∧ w' = w := by
  go_enter Tryz.func12, Tryz.ntmps12
  go_wp2_with fail
  refine wp_loop_rounds 1 ?_
  rw [rounds_succ]
  go_wp2_with fail
  go_ret
  exact ⟨rfl, rfl⟩
set_option maxHeartbeats 4000000 in
theorem markDataS (S : Nat → Prop) (w : World) (b n cap : Nat) (G L K : Nat → Nat) (q : Int) (h : WrD S w b n G L K) (hn : n ≤ 1048576) (q0 : 0 ≤ q) (q1 : q ≤ 8796093022208) :
    Calls Tryz.prog 67 #[.slice (some ⟨b, 0, none⟩) n cap, .int .i64 q] w fun e w' => ∃ r : Int, e = .returned (.int .i64 r) ∧ q ≤ r ∧ r ≤ q + 1048577 * n ∧ MkR S w w' := by
  obtain ⟨hB, hc⟩ := h
  have hc' : Hid (∀ j, j < n → Wc w b (j * 2) ∧ w.cell? ⟨b, j * 2 + 1, none⟩ = some (.slice (some ⟨G j, 0, none⟩) (L j) (K j)) ∧ L j ≤ 1048576 ∧ (L j = 0 ∨ (G j ≠ b ∧ S (G j) ∧ ∀ i, i < L j → Wc w (G j) i))) := hc
  clear hc
  go_enter Tryz.func67, Tryz.ntmps67
  go_wp2_with fail
  go_loopw [1, 5] (fun q' i wr => ∃ (k : Nat) (r : Int), k ≤ n ∧ i = .int .i64 k ∧ q' = .int .i64 r ∧ q ≤ r ∧ r ≤ q + 1048577 * k ∧ MkR S w wr ∧ ∀ j, j < n → wr.cell? ⟨b, j * 2 + 1, none⟩ = w.cell? ⟨b, j * 2 + 1, none⟩) (fun _ i _ => n - (intOf i).toNat)
  case atStart => exact ⟨0, q, Nat.zero_le _, rfl, rfl, Int.le_refl _, by omega, MkR.refl _ _, fun _ _ => rfl⟩
  case round =>
    obtain ⟨k, r, hk, rfl, rfl, r0, r1, ho, hsl⟩ := hrel
    have ho' : Hid (MkR S w wr) := ho
    have hsl' : Hid (∀ j, j < n → wr.cell? ⟨b, j * 2 + 1, none⟩ = w.cell? ⟨b, j * 2 + 1, none⟩) := hsl
    clear ho hsl
    by_cases hlt : k < n
    · have hlt' : (k : Int) < (n : Int) := by omega
      obtain ⟨w0, c2', hL, hG⟩ := hc'.out k hlt
      obtain ⟨⟨v0, c0⟩, f0⟩ := ho'.out.2 _ _ w0
      have c2 : wr.cell? ⟨b, k * 2 + 1, none⟩ = some (.slice (some ⟨G k, 0, none⟩) (L k) (K k)) := (hsl'.out k hlt).trans c2'
      have d2 : ∀ x, (wr.setCell ⟨b, k * 2, none⟩ x).cell? ⟨b, k * 2 + 1, none⟩ = some (.slice (some ⟨G k, 0, none⟩) (L k) (K k)) := fun x => (MarkIns.set_other (by omega)).trans c2
      have hG' : Hid (L k = 0 ∨ (G k ≠ b ∧ S (G k) ∧ ∀ i, i < L k → Wc w (G k) i)) := hG
      have kM : Hid (∀ u : World, MkR S w u → ∀ s : Int, 0 ≤ s → s ≤ 70368744177664 → Calls Tryz.prog 12 #[.slice (some ⟨G k, 0, none⟩) (L k) (K k), .int .i64 s] u fun e w' => e = .returned (.int .i64 (s + (L k : Nat))) ∧ MkR S u w' ∧ ∀ j, w'.cell? ⟨b, j, none⟩ = u.cell? ⟨b, j, none⟩) := fun u hu s s0 s1 => by
        rcases hG'.out with h0 | ⟨g1, g2, g4⟩
        · rw [h0]
          exact (markByte0 u (some ⟨G k, 0, none⟩) (K k) s).mono fun e w' ⟨he, hm⟩ => by subst hm; exact ⟨by rw [he]; simp, MkR.refl _ _, fun _ => rfl⟩
        · refine (markByteS u (some ⟨G k, 0, none⟩) (L k) (K k) s (.inr ⟨G k, 0, rfl, fun j hj => by rw [Nat.zero_add]; exact hu.2 _ _ (g4 j hj)⟩) (by omega) s0 s1).mono fun e w' ⟨he, hm⟩ => ⟨he, hm.range (fun p hp => by cases hp; exact g2), fun j => ?_⟩
          obtain ⟨⟨x, hx⟩, _⟩ := hu.2 _ _ w0
          have hlt2 : b < u.heap.size := World.block_lt_of_cell? u _ hx
          unfold World.cell?
          rw [hm.1.block b hlt2 (fun e => g1 (by simpa using e.symm))]
      clear w0 c2' hG
      generalize L k = LL at *
      generalize K k = KK at *
      generalize G k = GG at *
      go_wp2_with (go_at_call 12; refine (kM.out _ (ho'.out.set hB _) _ (by omega) (by omega)).mono ?_; rintro e w3 ⟨rfl, q3, q4⟩; have x3 : Hid (MkR S w w3) := (ho'.out.set hB _).trans q3; have x4 : Hid (∀ j, j < n → w3.cell? ⟨b, j * 2 + 1, none⟩ = w.cell? ⟨b, j * 2 + 1, none⟩) := (fun j hj => (q4 _).trans ((MarkIns.set_other (by omega)).trans (hsl'.out j hj))); clear q3 q4)
      go_roundw
      case rel => exact ⟨k + 1, _, by omega, by go_num, rfl, by omega, by omega, x3.out, x4.out⟩
      case measure => simp [intOf]; omega
    · obtain rfl : k = n := by omega
      go_wp2_with fail
      go_ret
      exact ⟨r, rfl, r0, r1, ho'.out⟩
end Go.Proofs.YtffngjgjhialnaaGreatDoor.MarkMod
namespace Go.Proofs.YtffngjgjhialnaaGreatDoor.MarkAll
open Go.RowKit PlainShape InsMem ModMem MarkMod

theorem row_ne {w : World} {a b n n' : Nat} {t t' : TypeId} {f f' : Nat → Value} (h : w.rowIs a t n f) (h' : w.rowIs b t' n' f') (ht : t ≠ t') : a ≠ b := by
  rintro rfl
  obtain ⟨cs, h1, _⟩ := h
  obtain ⟨cs', h2, _⟩ := h'
  rw [h1] at h2
  simp at h2
  exact ht h2.2
theorem wc_row {w : World} {g n : Nat} {t : TypeId} {f : Nat → Value} (h : w.rowIs g t n f) {i : Nat} (hi : i < n) : Wc w g i := ⟨⟨_, h.cell hi⟩, h.frozen i⟩
theorem MkR.mono {S S' : Nat → Prop} {w w' : World} (h : MkR S w w') (hs : ∀ k, S k → S' k) : MkR S' w w' := ⟨⟨h.1.1, h.1.2.1, h.1.2.2.1, h.1.2.2.2.1, fun k hk hn => h.1.2.2.2.2 k hk (fun x => hn (hs k x))⟩, h.2⟩
theorem MkR.below {S : Nat → Prop} {w w' : World} (hb : Below w.heap.size w w') : MkR S w w' := by
  refine ⟨⟨hb.os, hb.tape, hb.output, hb.size, fun k hk _ => hb.block k hk⟩, fun b i hw => ?_⟩
  obtain ⟨⟨v, hv⟩, hf⟩ := hw
  have hlt : b < w.heap.size := World.block_lt_of_cell? w _ hv
  refine ⟨⟨v, (hb.cell (p := ⟨b, i, none⟩) hlt).trans hv⟩, ?_⟩
  rw [← hf]
  unfold World.frozen?
  rw [hb.block b hlt]
theorem Mk.cell {a : Option Addr} {w w' : World} (h : Mk a w w') {b i : Nat} {v : Value} (hc : w.cell? ⟨b, i, none⟩ = some v) (hne : ∀ p, a = some p → b ≠ p.block) : w'.cell? ⟨b, i, none⟩ = some v := by
  have hlt : b < w.heap.size := World.block_lt_of_cell? w _ hc
  rw [← hc]
  unfold World.cell?
  rw [h.1.block b hlt (fun e => by
    cases a with
    | none => cases e
    | some p => exact hne p rfl (by simpa using e))]
theorem MkR.cell {S : Nat → Prop} {w w' : World} (h : MkR S w w') {b i : Nat} {v : Value} (hc : w.cell? ⟨b, i, none⟩ = some v) (hne : ¬ S b) : w'.cell? ⟨b, i, none⟩ = some v := by
  have hlt : b < w.heap.size := World.block_lt_of_cell? w _ hc
  rw [← hc]
  unfold World.cell?
  rw [h.1.2.2.2.2 b hlt hne]
theorem Mk.row {a : Option Addr} {w w' : World} (h : Mk a w w') {b n : Nat} {t : TypeId} {f : Nat → Value} (hr : w.rowIs b t n f) (hne : ∀ p, a = some p → b ≠ p.block) : w'.rowIs b t n f :=
  hr.of_block (h.1.block b hr.lt (fun e => by
    cases a with
    | none => cases e
    | some p => exact hne p rfl (by simpa using e)))
theorem MkR.row {S : Nat → Prop} {w w' : World} (h : MkR S w w') {b n : Nat} {t : TypeId} {f : Nat → Value} (hr : w.rowIs b t n f) (hne : ¬ S b) : w'.rowIs b t n f := hr.of_block (h.1.2.2.2.2 b hr.lt hne)
/-- The parts of a copy that can be marked, between B and C. -/
structure Parts (B C : Nat) (w : World) (g0 g1 g2 g3 g4 g5 n0 n1 n2 n3 n4 n5 : Nat) (G L K D E H : Nat → Nat) : Prop where
  b0 : B ≤ g0 ∧ g0 < C
  b1 : B ≤ g1 ∧ g1 < C
  b2 : B ≤ g2 ∧ g2 < C
  b3 : B ≤ g3 ∧ g3 < C
  b4 : B ≤ g4 ∧ g4 < C
  b5 : B ≤ g5 ∧ g5 < C
  r0 : ∃ f, w.rowIs g0 77 (n0 * 2) f
  r1 : ∃ f, w.rowIs g1 82 (n1 * 3) f
  r2 : ∃ f, w.rowIs g2 87 (n2 * 3) f
  r3 : ∃ f, w.rowIs g3 97 (n3 * 2) f
  r4 : ∃ f, w.rowIs g4 101 (n4 * 3) f
  r5 : ∃ f, w.rowIs g5 105 (n5 * 2) f
  q2 : ∀ j, j < n2 → w.cell? ⟨g2, j * 3 + 2, none⟩ = some (.slice (some ⟨G j, 0, none⟩) (L j) (K j)) ∧ L j ≤ 1048576 ∧ (L j = 0 ∨ (B ≤ G j ∧ G j < C ∧ ∀ i, i < L j * 3 → (∃ z, w.cell? ⟨G j, i, none⟩ = some (.int .i64 z)) ∧ w.frozen? ⟨G j, i, none⟩ = false))
  q5 : ∀ j, j < n5 → w.cell? ⟨g5, j * 2 + 1, none⟩ = some (.slice (some ⟨D j, 0, none⟩) (E j) (H j)) ∧ w.cell? ⟨g5, j * 2, none⟩ ≠ none ∧ (∀ z, w.cell? ⟨g5, j * 2, none⟩ ≠ some (.int .u8 z)) ∧ E j ≤ 1048576 ∧ (E j = 0 ∨ (B ≤ D j ∧ D j < C ∧ ∀ i, i < E j → (∃ z, w.cell? ⟨D j, i, none⟩ = some (.int .u8 z)) ∧ w.frozen? ⟨D j, i, none⟩ = false))
theorem Parts.later {B C : Nat} {w w' : World} {g0 g1 g2 g3 g4 g5 n0 n1 n2 n3 n4 n5 : Nat} {G L K D E H : Nat → Nat} (h : Parts B C w g0 g1 g2 g3 g4 g5 n0 n1 n2 n3 n4 n5 G L K D E H) (hb : Below w.heap.size w w') : Parts B C w' g0 g1 g2 g3 g4 g5 n0 n1 n2 n3 n4 n5 G L K D E H := by
  have hcell : ∀ (b i : Nat) v, w.cell? ⟨b, i, none⟩ = some v → w'.cell? ⟨b, i, none⟩ = some v := fun b i v hv => (hb.cell (p := ⟨b, i, none⟩) (World.block_lt_of_cell? w _ hv)).trans hv
  have hfz : ∀ (b i : Nat) v, w.cell? ⟨b, i, none⟩ = some v → w.frozen? ⟨b, i, none⟩ = false → w'.frozen? ⟨b, i, none⟩ = false := fun b i v hv hf => by
    rw [← hf]
    unfold World.frozen?
    rw [hb.block b (World.block_lt_of_cell? w _ hv)]
  refine ⟨h.b0, h.b1, h.b2, h.b3, h.b4, h.b5, h.r0.imp fun _ r => row_later r hb, h.r1.imp fun _ r => row_later r hb, h.r2.imp fun _ r => row_later r hb, h.r3.imp fun _ r => row_later r hb, h.r4.imp fun _ r => row_later r hb, h.r5.imp fun _ r => row_later r hb, fun j hj => ?_, fun j hj => ?_⟩
  · obtain ⟨a, b, c⟩ := h.q2 j hj
    refine ⟨hcell _ _ _ a, b, c.imp id fun ⟨d, e, k⟩ => ⟨d, e, fun i hi => ?_⟩⟩
    obtain ⟨⟨z, hz⟩, hf⟩ := k i hi
    exact ⟨⟨z, hcell _ _ _ hz⟩, hfz _ _ _ hz hf⟩
  · obtain ⟨a, a1, a2, b, c⟩ := h.q5 j hj
    obtain ⟨x, hx⟩ := Option.ne_none_iff_exists'.1 a1
    refine ⟨hcell _ _ _ a, by rw [hcell _ _ _ hx]; simp, fun z => by rw [hcell _ _ _ hx, ← hx]; exact a2 z, b, c.imp id fun ⟨d, e, k⟩ => ⟨d, e, fun i hi => ?_⟩⟩
    obtain ⟨⟨z, hz⟩, hf⟩ := k i hi
    exact ⟨⟨z, hcell _ _ _ hz⟩, hfz _ _ _ hz hf⟩
set_option maxRecDepth 20000 in
set_option maxHeartbeats 4000000 in
theorem markM (B C : Nat) (w : World) (g0 g1 g2 g3 g4 g5 n0 n1 n2 n3 n4 n5 c0 c1 c2 c3 c4 c5 : Nat) (pg mo : Int) (G L K D E H : Nat → Nat) (h : Parts B C w g0 g1 g2 g3 g4 g5 n0 n1 n2 n3 n4 n5 G L K D E H) (hC : C ≤ w.heap.size) (z0 : n0 ≤ 1048576) (z1 : n1 ≤ 1048576) (z2 : n2 ≤ 1048576) (z3 : n3 ≤ 1048576) (z4 : n4 ≤ 1048576) (z5 : n5 ≤ 1048576) :
    Calls Tryz.prog 11 #[.agg #[.slice (some ⟨g0, 0, none⟩) n0 c0, .slice (some ⟨g1, 0, none⟩) n1 c1, .slice (some ⟨g2, 0, none⟩) n2 c2, .int .i64 pg, .int .i64 mo, .slice (some ⟨g3, 0, none⟩) n3 c3, .slice (some ⟨g4, 0, none⟩) n4 c4, .slice (some ⟨g5, 0, none⟩) n5 c5], .int .i64 1] w fun e w' => ∃ r : Int, e = .returned (.int .i64 r) ∧ 1 ≤ r ∧ MkR (fun k => B ≤ k ∧ k < C) w w' := by
  have b0 := h.b0
  have b1 := h.b1
  have b2 := h.b2
  have b3 := h.b3
  have b4 := h.b4
  have b5 := h.b5
  have P := h.later ((Below.refl w.heap.size w).alloc (Nat.le_refl _) (.cells #[.slice (some ⟨g0, 0, none⟩) n0 c0, .slice (some ⟨g1, 0, none⟩) n1 c1, .slice (some ⟨g2, 0, none⟩) n2 c2, .int .i64 pg, .int .i64 mo, .slice (some ⟨g3, 0, none⟩) n3 c3, .slice (some ⟨g4, 0, none⟩) n4 c4, .slice (some ⟨g5, 0, none⟩) n5 c5] 41))
  have X0 : Hid ((w.alloc (.cells #[.slice (some ⟨g0, 0, none⟩) n0 c0, .slice (some ⟨g1, 0, none⟩) n1 c1, .slice (some ⟨g2, 0, none⟩) n2 c2, .int .i64 pg, .int .i64 mo, .slice (some ⟨g3, 0, none⟩) n3 c3, .slice (some ⟨g4, 0, none⟩) n4 c4, .slice (some ⟨g5, 0, none⟩) n5 c5] 41)).rowIs w.heap.size 41 8 (R8 (.slice (some ⟨g0, 0, none⟩) n0 c0) (.slice (some ⟨g1, 0, none⟩) n1 c1) (.slice (some ⟨g2, 0, none⟩) n2 c2) (.int .i64 pg) (.int .i64 mo) (.slice (some ⟨g3, 0, none⟩) n3 c3) (.slice (some ⟨g4, 0, none⟩) n4 c4) (.slice (some ⟨g5, 0, none⟩) n5 c5))) := r8_made w _ _ _ _ _ _ _ _ _
  obtain ⟨f0, r0⟩ := P.r0
  obtain ⟨f1, r1⟩ := P.r1
  obtain ⟨f2, r2⟩ := P.r2
  obtain ⟨f3, r3⟩ := P.r3
  obtain ⟨f4, r4⟩ := P.r4
  obtain ⟨f5, r5⟩ := P.r5
  have ne20 : g2 ≠ g0 := row_ne r2 r0 (by decide)
  have ne21 : g2 ≠ g1 := row_ne r2 r1 (by decide)
  have ne50 : g5 ≠ g0 := row_ne r5 r0 (by decide)
  have ne51 : g5 ≠ g1 := row_ne r5 r1 (by decide)
  have ne52 : g5 ≠ g2 := row_ne r5 r2 (by decide)
  have ne53 : g5 ≠ g3 := row_ne r5 r3 (by decide)
  have ne54 : g5 ≠ g4 := row_ne r5 r4 (by decide)
  have neG2 : ∀ j, j < n2 → L j ≠ 0 → G j ≠ g2 := fun j hj hl e => by
    obtain ⟨_, _, c⟩ := P.q2 j hj
    rcases c with c | ⟨_, _, c⟩
    · exact hl c
    · obtain ⟨⟨z, hz⟩, _⟩ := c 2 (by omega)
      have := (P.q2 0 (by omega)).1
      rw [e] at hz
      rw [show 0 * 3 + 2 = 2 from rfl, hz] at this
      cases this
  have neG5 : ∀ j, j < n2 → L j ≠ 0 → 0 < n5 → g5 ≠ G j := fun j hj hl h5 e => by
    obtain ⟨_, _, c⟩ := P.q2 j hj
    rcases c with c | ⟨_, _, c⟩
    · exact hl c
    · obtain ⟨⟨z, hz⟩, _⟩ := c 1 (by omega)
      have := (P.q5 0 h5).1
      rw [← e] at hz
      rw [show 0 * 2 + 1 = 1 from rfl, hz] at this
      cases this
  have neD5 : ∀ j, j < n5 → E j ≠ 0 → D j ≠ g5 := fun j hj hl e => by
    obtain ⟨_, _, _, _, c⟩ := P.q5 j hj
    rcases c with c | ⟨_, _, c⟩
    · exact hl c
    · obtain ⟨⟨z, hz⟩, _⟩ := c 0 (by omega)
      rw [e] at hz
      exact (P.q5 0 (by omega)).2.2.1 z hz
  have S3 : Hid (∀ k, (k = g2 ∨ ∃ j, j < n2 ∧ L j ≠ 0 ∧ k = G j) → B ≤ k ∧ k < C) := fun k hk => by
    rcases hk with rfl | ⟨j, hj, hl, rfl⟩
    · exact b2
    · rcases (P.q2 j hj).2.2 with c | ⟨x, y, _⟩
      · exact absurd c hl
      · exact ⟨x, y⟩
  have S6 : Hid (∀ k, (k = g5 ∨ ∃ j, j < n5 ∧ E j ≠ 0 ∧ k = D j) → B ≤ k ∧ k < C) := fun k hk => by
    rcases hk with rfl | ⟨j, hj, hl, rfl⟩
    · exact b5
    · rcases (P.q5 j hj).2.2.2.2 with c | ⟨x, y, _⟩
      · exact absurd c hl
      · exact ⟨x, y⟩
  have k0 : Hid (Calls Tryz.prog 62 #[.slice (some ⟨g0, 0, none⟩) n0 c0, .int .i64 1] (w.alloc (.cells #[.slice (some ⟨g0, 0, none⟩) n0 c0, .slice (some ⟨g1, 0, none⟩) n1 c1, .slice (some ⟨g2, 0, none⟩) n2 c2, .int .i64 pg, .int .i64 mo, .slice (some ⟨g3, 0, none⟩) n3 c3, .slice (some ⟨g4, 0, none⟩) n4 c4, .slice (some ⟨g5, 0, none⟩) n5 c5] 41)) fun e w' => e = .returned (.int .i64 (1 + 2 * n0)) ∧ Mk (some ⟨g0, 0, none⟩) (w.alloc (.cells #[.slice (some ⟨g0, 0, none⟩) n0 c0, .slice (some ⟨g1, 0, none⟩) n1 c1, .slice (some ⟨g2, 0, none⟩) n2 c2, .int .i64 pg, .int .i64 mo, .slice (some ⟨g3, 0, none⟩) n3 c3, .slice (some ⟨g4, 0, none⟩) n4 c4, .slice (some ⟨g5, 0, none⟩) n5 c5] 41)) w') := markSigS _ _ n0 c0 1 (.inr ⟨g0, 0, rfl, fun j hj => by rw [Nat.zero_add]; exact wc_row r0 hj⟩) (by omega) (by omega) (by omega)
  have k1 : Hid (∀ u, Mk (some ⟨g0, 0, none⟩) (w.alloc (.cells #[.slice (some ⟨g0, 0, none⟩) n0 c0, .slice (some ⟨g1, 0, none⟩) n1 c1, .slice (some ⟨g2, 0, none⟩) n2 c2, .int .i64 pg, .int .i64 mo, .slice (some ⟨g3, 0, none⟩) n3 c3, .slice (some ⟨g4, 0, none⟩) n4 c4, .slice (some ⟨g5, 0, none⟩) n5 c5] 41)) u → Calls Tryz.prog 63 #[.slice (some ⟨g1, 0, none⟩) n1 c1, .int .i64 (1 + 2 * n0)] u fun e w' => e = .returned (.int .i64 (1 + 2 * n0 + 3 * n1)) ∧ Mk (some ⟨g1, 0, none⟩) u w') := fun u hu => markImportS _ _ n1 c1 _ (.inr ⟨g1, 0, rfl, fun j hj => by rw [Nat.zero_add]; exact hu.2 _ _ (wc_row r1 hj)⟩) (by omega) (by omega) (by omega)
  have k2 : Hid (∀ u v, Mk (some ⟨g0, 0, none⟩) (w.alloc (.cells #[.slice (some ⟨g0, 0, none⟩) n0 c0, .slice (some ⟨g1, 0, none⟩) n1 c1, .slice (some ⟨g2, 0, none⟩) n2 c2, .int .i64 pg, .int .i64 mo, .slice (some ⟨g3, 0, none⟩) n3 c3, .slice (some ⟨g4, 0, none⟩) n4 c4, .slice (some ⟨g5, 0, none⟩) n5 c5] 41)) u → Mk (some ⟨g1, 0, none⟩) u v → Calls Tryz.prog 64 #[.slice (some ⟨g2, 0, none⟩) n2 c2, .int .i64 (1 + 2 * n0 + 3 * n1)] v fun e w' => ∃ r : Int, e = .returned (.int .i64 r) ∧ (1 + 2 * n0 + 3 * n1 : Int) ≤ r ∧ r ≤ 1 + 2 * n0 + 3 * n1 + 3145730 * n2 ∧ MkR (fun k => k = g2 ∨ ∃ j, j < n2 ∧ L j ≠ 0 ∧ k = G j) v w') := fun u v hu hv => markFuncS _ v g2 n2 c2 G L K _ ⟨.inl rfl, fun j hj => by
    obtain ⟨a, b, c⟩ := P.q2 j hj
    refine ⟨hv.2 _ _ (hu.2 _ _ (wc_row r2 (by omega))), hv.2 _ _ (hu.2 _ _ (wc_row r2 (by omega))), Mk.cell hv (Mk.cell hu a (fun p hp => by cases hp; exact ne20)) (fun p hp => by cases hp; exact ne21), b, ?_⟩
    by_cases hl : L j = 0
    · exact .inl hl
    · refine .inr ⟨neG2 j hj hl, .inr ⟨j, hj, hl, rfl⟩, fun i hi => hv.2 _ _ (hu.2 _ _ ?_)⟩
      rcases c with c | ⟨_, _, c⟩
      · exact absurd c hl
      · obtain ⟨⟨z, hz⟩, hf⟩ := c i hi
        exact ⟨⟨_, hz⟩, hf⟩⟩ z2 (by omega) (by omega)
  have k3 : Hid (∀ v (q : Int), (∀ b i, Wc (w.alloc (.cells #[.slice (some ⟨g0, 0, none⟩) n0 c0, .slice (some ⟨g1, 0, none⟩) n1 c1, .slice (some ⟨g2, 0, none⟩) n2 c2, .int .i64 pg, .int .i64 mo, .slice (some ⟨g3, 0, none⟩) n3 c3, .slice (some ⟨g4, 0, none⟩) n4 c4, .slice (some ⟨g5, 0, none⟩) n5 c5] 41)) b i → Wc v b i) → 1 ≤ q → q ≤ 4398046511104 → Calls Tryz.prog 65 #[.slice (some ⟨g3, 0, none⟩) n3 c3, .int .i64 q] v fun e w' => e = .returned (.int .i64 (q + 2 * n3)) ∧ Mk (some ⟨g3, 0, none⟩) v w') := fun v q hu q0 q1 => markGlobalS _ _ n3 c3 _ (.inr ⟨g3, 0, rfl, fun j hj => by rw [Nat.zero_add]; exact hu _ _ (wc_row r3 hj)⟩) (by omega) (by omega) (by omega)
  have k4 : Hid (∀ v (q : Int), (∀ b i, Wc (w.alloc (.cells #[.slice (some ⟨g0, 0, none⟩) n0 c0, .slice (some ⟨g1, 0, none⟩) n1 c1, .slice (some ⟨g2, 0, none⟩) n2 c2, .int .i64 pg, .int .i64 mo, .slice (some ⟨g3, 0, none⟩) n3 c3, .slice (some ⟨g4, 0, none⟩) n4 c4, .slice (some ⟨g5, 0, none⟩) n5 c5] 41)) b i → Wc v b i) → 1 ≤ q → q ≤ 4398048608256 → Calls Tryz.prog 66 #[.slice (some ⟨g4, 0, none⟩) n4 c4, .int .i64 q] v fun e w' => e = .returned (.int .i64 (q + 3 * n4)) ∧ Mk (some ⟨g4, 0, none⟩) v w') := fun v q hu q0 q1 => markExportS _ _ n4 c4 _ (.inr ⟨g4, 0, rfl, fun j hj => by rw [Nat.zero_add]; exact hu _ _ (wc_row r4 hj)⟩) (by omega) (by omega) (by omega)
  have k5 : Hid (∀ v (q : Int), (∀ b i, Wc (w.alloc (.cells #[.slice (some ⟨g0, 0, none⟩) n0 c0, .slice (some ⟨g1, 0, none⟩) n1 c1, .slice (some ⟨g2, 0, none⟩) n2 c2, .int .i64 pg, .int .i64 mo, .slice (some ⟨g3, 0, none⟩) n3 c3, .slice (some ⟨g4, 0, none⟩) n4 c4, .slice (some ⟨g5, 0, none⟩) n5 c5] 41)) b i → Wc v b i) → (0 < n5 → ∀ i x, (w.alloc (.cells #[.slice (some ⟨g0, 0, none⟩) n0 c0, .slice (some ⟨g1, 0, none⟩) n1 c1, .slice (some ⟨g2, 0, none⟩) n2 c2, .int .i64 pg, .int .i64 mo, .slice (some ⟨g3, 0, none⟩) n3 c3, .slice (some ⟨g4, 0, none⟩) n4 c4, .slice (some ⟨g5, 0, none⟩) n5 c5] 41)).cell? ⟨g5, i, none⟩ = some x → v.cell? ⟨g5, i, none⟩ = some x) → 1 ≤ q → q ≤ 4398051753984 → Calls Tryz.prog 67 #[.slice (some ⟨g5, 0, none⟩) n5 c5, .int .i64 q] v fun e w' => ∃ r : Int, e = .returned (.int .i64 r) ∧ q ≤ r ∧ r ≤ q + 1048577 * n5 ∧ MkR (fun k => k = g5 ∨ ∃ j, j < n5 ∧ E j ≠ 0 ∧ k = D j) v w') := fun v q hu hc q0 q1 => markDataS _ v g5 n5 c5 D E H _ ⟨.inl rfl, fun j hj => by
    obtain ⟨a, _, _, b, c⟩ := P.q5 j hj
    refine ⟨hu _ _ (wc_row r5 (by omega)), hc (by omega) _ _ a, b, ?_⟩
    by_cases hl : E j = 0
    · exact .inl hl
    · refine .inr ⟨neD5 j hj hl, .inr ⟨j, hj, hl, rfl⟩, fun i hi => hu _ _ ?_⟩
      rcases c with c | ⟨_, _, c⟩
      · exact absurd c hl
      · obtain ⟨⟨z, hz⟩, hf⟩ := c i hi
        exact ⟨⟨_, hz⟩, hf⟩⟩ z5 (by omega) (by omega)
  have hN : Hid (∀ j, j < n2 → L j ≠ 0 → 0 < n5 → g5 ≠ G j) := neG5
  clear h P r0 r1 r2 r3 r4 r5 neG2 neG5 neD5
  go_enter Tryz.func11, Tryz.ntmps11
  go_wp2_with (go_at_call 62; refine k0.out.mono ?_; rintro e w1 ⟨rfl, m1⟩; clear k0; have X1 : Hid (w1.rowIs w.heap.size 41 8 (R8 (.slice (some ⟨g0, 0, none⟩) n0 c0) (.slice (some ⟨g1, 0, none⟩) n1 c1) (.slice (some ⟨g2, 0, none⟩) n2 c2) (.int .i64 pg) (.int .i64 mo) (.slice (some ⟨g3, 0, none⟩) n3 c3) (.slice (some ⟨g4, 0, none⟩) n4 c4) (.slice (some ⟨g5, 0, none⟩) n5 c5))) := Mk.row m1 X0.out (fun p hp => by cases hp; show w.heap.size ≠ g0; omega); have M1 : Hid _ := m1; clear m1; obtain ⟨_, _, _, _, _, _, _, _⟩ := r8 X1.out)
  go_wp2_with (go_at_call 63; refine (k1.out _ M1.out).mono ?_; rintro e w2 ⟨rfl, m2⟩; clear k1; have X2 : Hid (w2.rowIs w.heap.size 41 8 (R8 (.slice (some ⟨g0, 0, none⟩) n0 c0) (.slice (some ⟨g1, 0, none⟩) n1 c1) (.slice (some ⟨g2, 0, none⟩) n2 c2) (.int .i64 pg) (.int .i64 mo) (.slice (some ⟨g3, 0, none⟩) n3 c3) (.slice (some ⟨g4, 0, none⟩) n4 c4) (.slice (some ⟨g5, 0, none⟩) n5 c5))) := Mk.row m2 X1.out (fun p hp => by cases hp; show w.heap.size ≠ g1; omega); have M2 : Hid _ := m2; clear m2; obtain ⟨_, _, _, _, _, _, _, _⟩ := r8 X2.out)
  go_wp2_with (go_at_call 64; refine (k2.out _ _ M1.out M2.out).mono ?_; rintro e w3 ⟨r3, rfl, l3, u3, m3⟩; clear k2; have X3 : Hid (w3.rowIs w.heap.size 41 8 (R8 (.slice (some ⟨g0, 0, none⟩) n0 c0) (.slice (some ⟨g1, 0, none⟩) n1 c1) (.slice (some ⟨g2, 0, none⟩) n2 c2) (.int .i64 pg) (.int .i64 mo) (.slice (some ⟨g3, 0, none⟩) n3 c3) (.slice (some ⟨g4, 0, none⟩) n4 c4) (.slice (some ⟨g5, 0, none⟩) n5 c5))) := MkR.row m3 X2.out (fun hk => by have := (S3.out _ hk).2; omega); have M3 : Hid _ := m3; clear m3; obtain ⟨_, _, _, _, _, _, _, _⟩ := r8 X3.out)
  have V3 : Hid (∀ b i, Wc (w.alloc (.cells #[.slice (some ⟨g0, 0, none⟩) n0 c0, .slice (some ⟨g1, 0, none⟩) n1 c1, .slice (some ⟨g2, 0, none⟩) n2 c2, .int .i64 pg, .int .i64 mo, .slice (some ⟨g3, 0, none⟩) n3 c3, .slice (some ⟨g4, 0, none⟩) n4 c4, .slice (some ⟨g5, 0, none⟩) n5 c5] 41)) b i → Wc w3 b i) := fun b i hw => M3.out.2 _ _ (M2.out.2 _ _ (M1.out.2 _ _ hw))
  go_wp2_with (go_at_call 65; refine (k3.out _ _ V3.out (by omega) (by omega)).mono ?_; rintro e w4 ⟨rfl, m4⟩; clear k3; have X4 : Hid (w4.rowIs w.heap.size 41 8 (R8 (.slice (some ⟨g0, 0, none⟩) n0 c0) (.slice (some ⟨g1, 0, none⟩) n1 c1) (.slice (some ⟨g2, 0, none⟩) n2 c2) (.int .i64 pg) (.int .i64 mo) (.slice (some ⟨g3, 0, none⟩) n3 c3) (.slice (some ⟨g4, 0, none⟩) n4 c4) (.slice (some ⟨g5, 0, none⟩) n5 c5))) := Mk.row m4 X3.out (fun p hp => by cases hp; show w.heap.size ≠ g3; omega); have M4 : Hid _ := m4; clear m4; obtain ⟨_, _, _, _, _, _, _, _⟩ := r8 X4.out)
  have V4 : Hid (∀ b i, Wc (w.alloc (.cells #[.slice (some ⟨g0, 0, none⟩) n0 c0, .slice (some ⟨g1, 0, none⟩) n1 c1, .slice (some ⟨g2, 0, none⟩) n2 c2, .int .i64 pg, .int .i64 mo, .slice (some ⟨g3, 0, none⟩) n3 c3, .slice (some ⟨g4, 0, none⟩) n4 c4, .slice (some ⟨g5, 0, none⟩) n5 c5] 41)) b i → Wc w4 b i) := fun b i hw => M4.out.2 _ _ (V3.out _ _ hw)
  go_wp2_with (go_at_call 66; refine (k4.out _ _ V4.out (by omega) (by omega)).mono ?_; rintro e w5 ⟨rfl, m5⟩; clear k4; have X5 : Hid (w5.rowIs w.heap.size 41 8 (R8 (.slice (some ⟨g0, 0, none⟩) n0 c0) (.slice (some ⟨g1, 0, none⟩) n1 c1) (.slice (some ⟨g2, 0, none⟩) n2 c2) (.int .i64 pg) (.int .i64 mo) (.slice (some ⟨g3, 0, none⟩) n3 c3) (.slice (some ⟨g4, 0, none⟩) n4 c4) (.slice (some ⟨g5, 0, none⟩) n5 c5))) := Mk.row m5 X4.out (fun p hp => by cases hp; show w.heap.size ≠ g4; omega); have M5 : Hid _ := m5; clear m5; obtain ⟨_, _, _, _, _, _, _, _⟩ := r8 X5.out)
  have V5 : Hid (∀ b i, Wc (w.alloc (.cells #[.slice (some ⟨g0, 0, none⟩) n0 c0, .slice (some ⟨g1, 0, none⟩) n1 c1, .slice (some ⟨g2, 0, none⟩) n2 c2, .int .i64 pg, .int .i64 mo, .slice (some ⟨g3, 0, none⟩) n3 c3, .slice (some ⟨g4, 0, none⟩) n4 c4, .slice (some ⟨g5, 0, none⟩) n5 c5] 41)) b i → Wc w5 b i) := fun b i hw => M5.out.2 _ _ (V4.out _ _ hw)
  have H5 : Hid (0 < n5 → ∀ i x, (w.alloc (.cells #[.slice (some ⟨g0, 0, none⟩) n0 c0, .slice (some ⟨g1, 0, none⟩) n1 c1, .slice (some ⟨g2, 0, none⟩) n2 c2, .int .i64 pg, .int .i64 mo, .slice (some ⟨g3, 0, none⟩) n3 c3, .slice (some ⟨g4, 0, none⟩) n4 c4, .slice (some ⟨g5, 0, none⟩) n5 c5] 41)).cell? ⟨g5, i, none⟩ = some x → w5.cell? ⟨g5, i, none⟩ = some x) := fun h5 i x hx =>
    Mk.cell M5.out (Mk.cell M4.out (MkR.cell M3.out (Mk.cell M2.out (Mk.cell M1.out hx (fun p hp => by cases hp; exact ne50)) (fun p hp => by cases hp; exact ne51)) (fun hk => by
      rcases hk with hk | ⟨j, hj, hl, hk⟩
      · exact ne52 hk
      · exact hN.out j hj hl h5 hk)) (fun p hp => by cases hp; exact ne53)) (fun p hp => by cases hp; exact ne54)
  go_wp2_with (go_at_call 67; refine (k5.out _ _ V5.out H5.out (by omega) (by omega)).mono ?_; rintro e w6 ⟨r6, rfl, l6, u6, m6⟩; clear k5; have M6 : Hid _ := m6; clear m6)
  go_ret
  refine ⟨_, rfl, by omega, ?_⟩
  exact (((((((MkR.below ((Below.refl w.heap.size w).alloc (Nat.le_refl _) _)).trans (Mk.range M1.out (fun p hp => by cases hp; exact b0))).trans (Mk.range M2.out (fun p hp => by cases hp; exact b1))).trans (MkR.mono M3.out S3.out)).trans (Mk.range M4.out (fun p hp => by cases hp; exact b3))).trans (Mk.range M5.out (fun p hp => by cases hp; exact b4))).trans (MkR.mono M6.out S6.out))
end Go.Proofs.YtffngjgjhialnaaGreatDoor.MarkAll
namespace Go.Proofs.YtffngjgjhialnaaGreatDoor.CopyMark
open Go.RowKit NameCalls InsMem FormCalls ModMem FormImpl FormLaw NumMem2 MarkMod MarkAll PlainShape

theorem own_on {B : Nat} {W : World} {v : Value} {l : List Int} (h : ShapeCalls.OwnS B W v l) : ∃ a cap, v = .slice a l.length cap ∧ ON B W a l := by
  rcases h.2 with ⟨hv, h0⟩ | ⟨g, cap, cur, hv, hg, hb, hn, _, hs, hc⟩
  · have h1 : l = [] := List.length_eq_zero_iff.1 h0
    exact ⟨none, 0, by rw [hv, h1]; rfl, .inl ⟨rfl, h1⟩⟩
  · exact ⟨_, cap, hv, .inr ⟨g, rfl, hg, cur, hb, by omega, by simpa using hc⟩⟩
theorem ans_is {f : FuncId} {args : Array Value} {w : World} {x : Option (List Int)}
    (h : Calls Tryz.prog f args w fun e w' => (match x with
    | none => e = .returned (.tuple #[.slice none 0 0, .bool false])
    | some l => ∃ v, e = .returned (.tuple #[v, .bool true]) ∧ ShapeCalls.OwnS w.heap.size w' v l) ∧ Below w.heap.size w w') :
    Calls Tryz.prog f args w fun e w' => ∃ a c, e = .returned (.tuple #[.slice a (x.getD []).length c, .bool x.isSome]) ∧ ON w.heap.size w' a (x.getD []) ∧ Below w.heap.size w w' := by
  refine h.mono fun e w' ⟨he, hb⟩ => ?_
  cases x with
  | none => exact ⟨none, 0, he, .inl ⟨rfl, rfl⟩, hb⟩
  | some l =>
    obtain ⟨v, rfl, ho⟩ := he
    obtain ⟨a, c, rfl, hon⟩ := own_on ho
    exact ⟨a, c, rfl, hon, hb⟩
theorem ON.mkR {B : Nat} {S : Nat → Prop} {W W' : World} {a : Option Addr} {l : List Int} (h : ON B W a l) (hm : MkR S W W') (hn : ∀ g, a = some ⟨g, 0, none⟩ → ¬ S g) : ON B W' a l := h.of fun g hg hlt => hm.1.2.2.2.2 g hlt (hn g hg)
theorem below_dn (w : World) (m : Nat) : Below w.heap.size w (w.drewN m) := ⟨rfl, rfl, rfl, Nat.le_refl _, fun _ _ => rfl⟩
theorem TS.mkR {w u u' : World} {x0 x1 x2 x3 x4 x5 x6 x7 : Value} {S : Nat → Prop} (h : TS w u x0 x1 x2 x3 x4 x5 x6 x7) (hm : MkR S u u') (hS : ∀ k, k ≤ w.heap.size → ¬ S k) : TS w u' x0 x1 x2 x3 x4 x5 x6 x7 :=
  ⟨MkR.row hm h.ra (hS _ (Nat.le_refl _)), hm.1.1.trans h.bl.os, hm.1.2.1.trans h.bl.tape, hm.1.2.2.1.trans h.bl.output, Nat.le_trans h.bl.size hm.1.2.2.2.1, fun k hk => (hm.1.2.2.2.2 k (Nat.lt_of_lt_of_le hk h.bl.size) (hS k (by omega))).trans (h.bl.block k hk)⟩
theorem TS.only {w u u' : World} {x0 x1 x2 x3 x4 x5 x6 x7 : Value} {a : Option Addr} (h : TS w u x0 x1 x2 x3 x4 x5 x6 x7) (ho : ByteMem.Only u u' a) (ha : ∀ p, a = some p → w.heap.size < p.block) : TS w u' x0 x1 x2 x3 x4 x5 x6 x7 := by
  have hb : ∀ k, k ≤ w.heap.size → k < u.heap.size → u'.heap[k]? = u.heap[k]? := fun k hk hlt => ho.1.block k hlt (fun e => by
    cases a with
    | none => cases e
    | some p =>
      have := ha p rfl
      simp at e
      omega)
  exact ⟨h.ra.of_block (hb _ (Nat.le_refl _) h.ra.lt), ho.1.os.trans h.bl.os, ho.1.tape.trans h.bl.tape, ho.1.output.trans h.bl.output, Nat.le_trans h.bl.size ho.1.size, fun k hk => (hb k (by omega) (Nat.lt_of_lt_of_le hk h.bl.size)).trans (h.bl.block k hk)⟩
/-- The parts of a copy. -/
theorem parts_of {B : Nat} {w : World} {m : M} {g0 g1 g2 g3 g4 g5 : Nat} {G D : Nat → Nat} (h : Made B w m g0 g1 g2 g3 g4 g5 G D) (hs : Small m) :
    Parts B w.heap.size w g0 g1 g2 g3 g4 g5 m.sigs.length m.imps.length m.fns.length m.gls.length m.exs.length m.dat.length G (fun j => (MemFunc.at1 m.fns j).body.length) (fun j => (MemFunc.at1 m.fns j).body.length) D (fun j => (MemData.at1 m.dat j).n) (fun j => (MemData.at1 m.dat j).n) := by
  refine ⟨⟨h.b0, h.r0.lt⟩, ⟨h.b1, h.r1.lt⟩, ⟨h.b2, h.r2.lt⟩, ⟨h.b3, h.r3.lt⟩, ⟨h.b4, h.r4.lt⟩, ⟨h.b5, h.r5.lt⟩, ⟨_, h.r0⟩, ⟨_, h.r1⟩, ⟨_, h.r2⟩, ⟨_, h.r3⟩, ⟨_, h.r4⟩, ⟨_, h.r5⟩, fun j hj => ?_, fun j hj => ?_⟩
  · obtain ⟨a, rd, fz⟩ := h.q2 j hj
    refine ⟨by rw [h.r2.cell (by omega), MemFunc.cvF2], hs.z2 j hj, ?_⟩
    rcases rd with h0 | ⟨b, off, hb, hc⟩
    · exact .inl h0
    · simp only [Option.some.injEq, Addr.mk.injEq, and_true] at hb
      obtain ⟨rfl, rfl⟩ := hb
      refine .inr ⟨a, fz.1, fun k hk => ⟨?_, fz.2 k⟩⟩
      obtain ⟨c0, c1, c2⟩ := hc (k / 3) (by omega)
      rw [Nat.zero_add] at c0 c1 c2
      have : k % 3 = 0 ∨ k % 3 = 1 ∨ k % 3 = 2 := by omega
      rcases this with e | e | e
      · exact ⟨_, by rw [show k = k / 3 * 3 by omega]; exact c0⟩
      · exact ⟨_, by rw [show k = k / 3 * 3 + 1 by omega]; exact c1⟩
      · exact ⟨_, by rw [show k = k / 3 * 3 + 2 by omega]; exact c2⟩
  · obtain ⟨a, rd, fz⟩ := h.q5 j hj
    refine ⟨by rw [h.r5.cell (by omega), MemData.cvD1], by rw [h.r5.cell (by omega)]; simp, fun z => by rw [h.r5.cell (by omega), MemData.cvD0]; simp, hs.z5 j hj, ?_⟩
    rcases rd.2 with h0 | ⟨b, off, hb, hc⟩
    · exact .inl h0
    · simp only [Option.some.injEq, Addr.mk.injEq, and_true] at hb
      obtain ⟨rfl, rfl⟩ := hb
      exact .inr ⟨a, fz.1, fun k hk => ⟨⟨_, by have := hc k hk; rw [Nat.zero_add] at this; exact this⟩, fz.2 k⟩⟩
/-- A module is copied, and the copy's parts can be marked. -/
theorem copyX (w u : World) (p : P) (m : M) (V : Value) (hV : V = val p m) (h : Rd w p m) (hs : Small m) (hb : Below w.heap.size w u) :
    Calls Tryz.prog 7 #[V] u fun e w' => ∃ (g0 g1 g2 g3 g4 g5 n0 n1 n2 n3 n4 n5 : Nat) (pg mo : Int) (GG LL KK DD EE HH : Nat → Nat) (p' : P) (m' : M), e = .returned (.agg #[.slice (some ⟨g0, 0, none⟩) n0 n0, .slice (some ⟨g1, 0, none⟩) n1 n1, .slice (some ⟨g2, 0, none⟩) n2 n2, .int .i64 pg, .int .i64 mo, .slice (some ⟨g3, 0, none⟩) n3 n3, .slice (some ⟨g4, 0, none⟩) n4 n4, .slice (some ⟨g5, 0, none⟩) n5 n5]) ∧ Value.agg #[.slice (some ⟨g0, 0, none⟩) n0 n0, .slice (some ⟨g1, 0, none⟩) n1 n1, .slice (some ⟨g2, 0, none⟩) n2 n2, .int .i64 pg, .int .i64 mo, .slice (some ⟨g3, 0, none⟩) n3 n3, .slice (some ⟨g4, 0, none⟩) n4 n4, .slice (some ⟨g5, 0, none⟩) n5 n5] = val p' m' ∧ Rd w' p' m' ∧ Same m m' ∧ (n0 ≤ 1048576 ∧ n1 ≤ 1048576 ∧ n2 ≤ 1048576 ∧ n3 ≤ 1048576 ∧ n4 ≤ 1048576 ∧ n5 ≤ 1048576) ∧ Parts u.heap.size w'.heap.size w' g0 g1 g2 g3 g4 g5 n0 n1 n2 n3 n4 n5 GG LL KK DD EE HH ∧ Below u.heap.size u w' := by
  subst hV
  refine (toM u p m (h.later hb) hs).mono fun e w' ⟨g0, g1, g2, g3, g4, g5, G, D, he, hm, hb'⟩ => ?_
  have hv : Value.agg #[.slice (some ⟨g0, 0, none⟩) m.sigs.length m.sigs.length, .slice (some ⟨g1, 0, none⟩) m.imps.length m.imps.length, .slice (some ⟨g2, 0, none⟩) m.fns.length m.fns.length, .int .i64 m.pages, .int .i64 m.most, .slice (some ⟨g3, 0, none⟩) m.gls.length m.gls.length, .slice (some ⟨g4, 0, none⟩) m.exs.length m.exs.length, .slice (some ⟨g5, 0, none⟩) m.dat.length m.dat.length] = val (newP m g0 g1 g2 g3 g4 g5) (newM G D m) := by
    simp [val, newP, newM, newF_len, newD_len]
  exact ⟨g0, g1, g2, g3, g4, g5, _, _, _, _, _, _, _, _, G, _, _, D, _, _, _, _, he.trans (by rw [hv]), hv, hm.rd, newM_same G D m, ⟨hs.n0, hs.n1, hs.n2, hs.n3, hs.n4, hs.n5⟩, parts_of hm hs, hb'⟩
end Go.Proofs.YtffngjgjhialnaaGreatDoor.CopyMark
