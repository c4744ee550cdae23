/-
  The law's marks on a list of tokens: written, and held.
-/
import Derived.Test.YtjndgjheehjohaaDoorOwnTok
import Derived.Test.YtjndgjheehjohaaDoorMarkText
import Derived.Deep.RegionHeld
namespace Go.Proofs.YtjndgjheehjohaaDoor.MarkTok
open Go.RowKit InsMem PlainOps PlainLex PlainScan OwnTok PlainNum NumCalls MarkText

def mkD : Nat → Nat → ByteArray → ByteArray
  | 0, _, s => s
  | f + 1, u, s => if u = 0 then s else mkD f (u / 10) (⟨#[UInt8.ofNat (48 + u % 10)]⟩ ++ s)
theorem mkD_zero (f : Nat) (s : ByteArray) : mkD f 0 s = s := by cases f <;> rfl
/-- The text that is written as the mark n. -/
def markS (n : Nat) : ByteArray := ⟨#[109]⟩ ++ mkD 14 n ⟨#[]⟩
set_option maxHeartbeats 4000000 in
theorem mark_text (n : Nat) (q0 : 1 ≤ n) (q1 : n ≤ 35184372088832) (w : World) :
    Calls Tryd.prog 39 #[.int .i64 (n : Int)] w fun e w' => e = .returned (.string (markS n)) ∧ Below w.heap.size w w' := by
  have hz : ¬ (n : Int) ≤ 0 := by omega
  obtain ⟨R, hR⟩ : ∃ R, mkD 14 n ⟨#[]⟩ = R := ⟨_, rfl⟩
  have hR' : Hid (mkD 14 n ⟨#[]⟩ = R) := hR
  have hM : Hid (markS n = ⟨#[109]⟩ ++ R) := by show _ = _; rw [← hR]; rfl
  rw [hM.out]
  clear hR hM
  go_enter Tryd.func39, Tryd.ntmps39
  go_wp2_with fail
  go_loopw [0, 3] (fun vq vs wr => ∃ (u f : Nat) (s : ByteArray), vq = .int .i64 u ∧ vs = .string s ∧ u ≤ n ∧ u < 10 ^ f ∧ s.size + f ≤ 14 ∧ mkD f u s = R ∧ Below w.heap.size w wr) (fun vq _ _ => (intOf vq).toNat)
  case atStart => exact ⟨n, 14, ⟨#[]⟩, rfl, rfl, Nat.le_refl _, by omega, by decide, hR'.out, Below.refl _ _⟩
  case round =>
    obtain ⟨u, f, s, rfl, rfl, hu, hf, hs, hm, hb⟩ := hrel
    have hf' : Hid (u < 10 ^ f) := hf
    have hb' : Hid (Below w.heap.size w wr) := hb
    have hm' : Hid (mkD f u s = R) := hm
    clear hf hb hm
    by_cases hp : 0 < u
    · have hp' : (u : Int) > 0 := by omega
      have hp2 : (0 : Int) < u := by omega
      obtain ⟨g, hg, hlt⟩ := pow_step hp hf'.out
      have hlt' : Hid (u / 10 < 10 ^ g) := hlt
      have q2 : (u : Int).tmod 10 = (u : Int) % 10 := Int.tmod_eq_emod_of_nonneg (by omega)
      have q3 : IntKind.i64.wrap (48 + (u : Int) % 10) = 48 + (u : Int) % 10 := IntWalk.i64_in _ (by omega)
      have q4 : IntKind.u8.wrap (48 + (u : Int) % 10) = 48 + (u : Int) % 10 := IntWalk.u8_in _ (by omega)
      have hc : ((UInt8.ofNat (48 + u % 10)).toNat : Int) = 48 + (u : Int) % 10 := by rw [UInt8.toNat_ofNat']; omega
      have hcv := conv1 (UInt8.ofNat (48 + u % 10)) (48 + (u : Int) % 10) hc
      have hm2 : Hid (mkD g (u / 10) (⟨#[UInt8.ofNat (48 + u % 10)]⟩ ++ s) = R) := by
        show _ = _
        rw [← hm'.out, hg]
        conv => rhs; unfold mkD
        rw [if_neg (by omega)]
      generalize UInt8.ofNat (48 + u % 10) = c at *
      have q5 : IntKind.i64.wrap ((u : Int) / 10) = (u : Int) / 10 := IntWalk.i64_in _ (by omega)
      have q6 : (u : Int).tdiv 10 = (u : Int) / 10 := Int.tdiv_eq_ediv_of_nonneg (by omega)
      have hsz : Hid (((⟨#[c]⟩ : ByteArray) ++ s).size = s.size + 1) := by show _ = _; rw [ByteArray.size_append]; show 1 + s.size = _; omega
      clear hlt hc hf'
      go_wp2_with fail
      go_roundw
      case rel => exact ⟨u / 10, g, _, by go_num, rfl, by omega, hlt'.out, by rw [hsz.out]; omega, hm2.out, hb'.out.alloc hb'.out.size _⟩
      case measure => simp [intOf]; omega
    · obtain rfl : u = 0 := by omega
      have hs2 : Hid (s = R) := by show _ = _; rw [← hm'.out, mkD_zero]
      go_wp2_with fail
      go_ret
      exact ⟨by rw [← hs2.out]; rfl, hb'.out⟩
/-- The mark of cell j. -/
def mkV (j : Nat) : Value := if j % 4 = 2 then .string (markS (1 + j)) else .int .i64 ((1 + j : Nat) : Int)
theorem mkV0 (k : Nat) : mkV (k * 4) = .int .i64 ((1 + k * 4 : Nat) : Int) := if_neg (by omega)
theorem mkV1 (k : Nat) : mkV (k * 4 + 1) = .int .i64 ((1 + (k * 4 + 1) : Nat) : Int) := if_neg (by omega)
theorem mkV2 (k : Nat) : mkV (k * 4 + 2) = .string (markS (1 + (k * 4 + 2))) := if_pos (by omega)
theorem mkV3 (k : Nat) : mkV (k * 4 + 3) = .int .i64 ((1 + (k * 4 + 3) : Nat) : Int) := if_neg (by omega)
theorem room2 {w : World} {b m i : Nat} {t : TypeId} {f : Nat → Value} (h : w.rowIs b t m f) (hi : i + 4 ≤ m) (v0 v1 : Value) :
    (∃ x, w.cell? ⟨b, i, none⟩ = some x) ∧ (∃ x, (w.setCell ⟨b, i, none⟩ v0).cell? ⟨b, i + 1, none⟩ = some x) ∧ w.frozen? ⟨b, i, none⟩ = false ∧ (w.setCell ⟨b, i, none⟩ v0).frozen? ⟨b, i + 1, none⟩ = false ∧ ((w.setCell ⟨b, i, none⟩ v0).setCell ⟨b, i + 1, none⟩ v1).rowIs b t m (fun j => if j = i + 1 then v1 else if j = i then v0 else f j) :=
  ⟨⟨_, h.cell (by omega)⟩, ⟨_, (h.set i v0).cell (by omega)⟩, h.frozen _, (h.set i v0).frozen _, (h.set i v0).set (i + 1) v1⟩
theorem room3 {w : World} {b m i : Nat} {t : TypeId} {f : Nat → Value} (h : w.rowIs b t m f) (hi : i + 4 ≤ m) (v2 v3 : Value) :
    (∃ x, w.cell? ⟨b, i + 2, none⟩ = some x) ∧ (∃ x, (w.setCell ⟨b, i + 2, none⟩ v2).cell? ⟨b, i + 3, none⟩ = some x) ∧ w.frozen? ⟨b, i + 2, none⟩ = false ∧ (w.setCell ⟨b, i + 2, none⟩ v2).frozen? ⟨b, i + 3, none⟩ = false ∧ ((w.setCell ⟨b, i + 2, none⟩ v2).setCell ⟨b, i + 3, none⟩ v3).rowIs b t m (fun j => if j = i + 3 then v3 else if j = i + 2 then v2 else f j) :=
  ⟨⟨_, h.cell (by omega)⟩, ⟨_, (h.set (i + 2) v2).cell (by omega)⟩, h.frozen _, (h.set (i + 2) v2).frozen _, (h.set (i + 2) v2).set (i + 3) v3⟩
theorem grown_refl (w : World) (q : Option Nat) : w.grownBy w q := ⟨rfl, rfl, rfl, Nat.le_refl _, fun _ _ _ => rfl⟩
theorem set_grown {w0 w : World} {b i : Nat} (h : w0.grownBy w (some b)) (v : Value) : w0.grownBy (w.setCell ⟨b, i, none⟩ v) (some b) :=
  ⟨h.os, h.tape, h.output, by rw [World.size_setCell]; exact h.size, fun k hk hne => by
    rw [Below.heap_setCell _ _ _ _ (fun e => hne (by rw [e]))]
    exact h.block k hk hne⟩
theorem below_grown' {w0 w w' : World} {q : Option Nat} (h : w0.grownBy w q) (hb : Below w.heap.size w w') : w0.grownBy w' q :=
  ⟨hb.os.trans h.os, hb.tape.trans h.tape, hb.output.trans h.output, Nat.le_trans h.size hb.size, fun k hk hne => (hb.block k (Nat.lt_of_lt_of_le hk h.size)).trans (h.block k hk hne)⟩
set_option maxHeartbeats 8000000 in
theorem markTokS (w : World) (g N n cap : Nat) (F : Nat → Value) (h : w.rowIs g 27 N F) (hN : n * 4 ≤ N) (hn : n ≤ 1048576) :
    Calls Tryd.prog 21 #[.slice (some ⟨g, 0, none⟩) n cap, .int .i64 1] w fun e w' => e = .returned (.int .i64 ((1 + n * 4 : Nat) : Int)) ∧ w'.rowIs g 27 N (fun j => if j < n * 4 then mkV j else F j) ∧ w.grownBy w' (some g) := by
  have h' : Hid (w.rowIs g 27 N F) := h
  clear h
  go_enter Tryd.func21, Tryd.ntmps21
  go_wp2_with fail
  go_loopw [1, 5] (fun vm vi wr => ∃ k : Nat, k ≤ n ∧ vi = .int .i64 k ∧ vm = .int .i64 ((1 + k * 4 : Nat) : Int) ∧ wr.rowIs g 27 N (fun j => if j < k * 4 then mkV j else F j) ∧ w.grownBy wr (some g)) (fun _ vi _ => n - (intOf vi).toNat)
  case atStart => exact ⟨0, Nat.zero_le _, rfl, by go_num, h'.out.congr (fun i hi => by simp), grown_refl _ _⟩
  case round =>
    obtain ⟨k, hk, rfl, rfl, hrow, hgr⟩ := hrel
    obtain ⟨m, hmq⟩ : ∃ m, 1 + k * 4 = m := ⟨_, rfl⟩
    have hm' : Hid (1 + k * 4 = m) := hmq
    have hrow' : Hid (wr.rowIs g 27 N (fun j => if j < k * 4 then mkV j else F j)) := hrow
    have hgr' : Hid (w.grownBy wr (some g)) := hgr
    rw [hmq]
    clear hrow hgr
    by_cases hlt : k < n
    · have hlt' : (k : Int) < (n : Int) := by omega
      obtain ⟨⟨x0, c0⟩, ⟨x1, c1⟩, f0, f1, r2⟩ := room2 hrow'.out (i := k * 4) (by omega) (.int .i64 (m : Int)) (.int .i64 ((m : Int) + 1))
      have kt : Hid (∀ u, Calls Tryd.prog 39 #[.int .i64 ((m : Int) + 1 + 1)] u fun e w' => e = .returned (.string (markS (m + 2))) ∧ Below u.heap.size u w') := fun u => by
        have := mark_text (m + 2) (by omega) (by omega) u
        rw [show ((m + 2 : Nat) : Int) = (m : Int) + 1 + 1 by omega] at this
        exact this
      have e0 := mkV0 k
      have e1 := mkV1 k
      have e2 := mkV2 k
      have e3 := mkV3 k
      rw [show 1 + k * 4 = m from hmq] at e0
      rw [show 1 + (k * 4 + 1) = m + 1 by omega] at e1
      rw [show 1 + (k * 4 + 2) = m + 2 by omega] at e2
      rw [show 1 + (k * 4 + 3) = m + 3 by omega] at e3
      have E0 : Hid (mkV (k * 4) = .int .i64 (m : Int)) := e0
      have E1 : Hid (mkV (k * 4 + 1) = .int .i64 ((m : Int) + 1)) := by show _ = _; rw [e1]; rfl
      have E2 : Hid (mkV (k * 4 + 2) = .string (markS (m + 2))) := e2
      have E3 : Hid (mkV (k * 4 + 3) = .int .i64 ((m : Int) + 1 + 1 + 1)) := by show _ = _; rw [e3, show ((m + 3 : Nat) : Int) = (m : Int) + 1 + 1 + 1 by omega]
      have hmb : m ≤ 4194310 := by omega
      clear e0 e1 e2 e3 hmq
      generalize markS (m + 2) = T at *
      go_wp2_with (go_at_call 39; refine (kt.out _).mono ?_; rintro e w2 ⟨rfl, q2⟩; obtain ⟨⟨x2, c2⟩, ⟨x3, c3⟩, f2, f3, r4⟩ := room3 (row_later r2 q2) (i := k * 4) (by omega) (.string T) (.int .i64 ((m : Int) + 1 + 1 + 1)); have G2 : Hid (w.grownBy w2 (some g)) := below_grown' (set_grown (set_grown hgr'.out _) _) q2; clear q2)
      go_roundw
      case rel =>
        refine ⟨k + 1, by omega, by go_num, by have := hm'.out; rw [show 1 + (k + 1) * 4 = m + 4 by omega]; go_num, r4.congr fun j hj => ?_, set_grown (set_grown G2.out _) _⟩
        by_cases z3 : j = k * 4 + 3
        · rw [if_pos z3, if_pos (by omega), z3, E3.out]
        · rw [if_neg z3]
          by_cases z2 : j = k * 4 + 2
          · rw [if_pos z2, if_pos (by omega), z2, E2.out]
          · rw [if_neg z2]
            by_cases z1 : j = k * 4 + 1
            · rw [if_pos z1, if_pos (by omega), z1, E1.out]
            · rw [if_neg z1]
              by_cases z0 : j = k * 4
              · rw [if_pos z0, if_pos (by omega), z0, E0.out]
              · rw [if_neg z0]
                by_cases z9 : j < k * 4
                · rw [if_pos z9, if_pos (by omega)]
                · rw [if_neg z9, if_neg (by omega)]
      case measure => simp [intOf]; omega
    · obtain rfl : k = n := by omega
      clear hmq
      go_wp2_with fail
      go_ret
      exact ⟨by rw [hm'.out]; rfl, hrow'.out, hgr'.out⟩
set_option maxHeartbeats 8000000 in
theorem heldTokS (w : World) (g n cap : Nat) (h : ∀ j, j < n * 4 → w.cell? ⟨g, j, none⟩ = some (mkV j)) (hn : n ≤ 1048576) :
    Calls Tryd.prog 22 #[.slice (some ⟨g, 0, none⟩) n cap, .int .i64 1] w fun e w' => e = .returned (.int .i64 ((1 + n * 4 : Nat) : Int)) ∧ Below w.heap.size w w' := by
  have h' : Hid (∀ j, j < n * 4 → w.cell? ⟨g, j, none⟩ = some (mkV j)) := h
  clear h
  go_enter Tryd.func22, Tryd.ntmps22
  go_wp2_with fail
  go_loopw [1, 5] (fun vm vi wr => ∃ k : Nat, k ≤ n ∧ vi = .int .i64 k ∧ vm = .int .i64 ((1 + k * 4 : Nat) : Int) ∧ Below w.heap.size w wr) (fun _ vi _ => n - (intOf vi).toNat)
  case atStart => exact ⟨0, Nat.zero_le _, rfl, by go_num, Below.refl _ _⟩
  case round =>
    obtain ⟨k, hk, rfl, rfl, hbel⟩ := hrel
    obtain ⟨m, hmq⟩ : ∃ m, 1 + k * 4 = m := ⟨_, rfl⟩
    have hm' : Hid (1 + k * 4 = m) := hmq
    have hbel' : Hid (Below w.heap.size w wr) := hbel
    rw [hmq]
    by_cases hlt : k < n
    · have hlt' : (k : Int) < (n : Int) := by omega
      have lat : ∀ j, j < n * 4 → wr.cell? ⟨g, j, none⟩ = some (mkV j) := fun j hj => by
        have := h'.out j hj
        rw [hbel.cell (World.block_lt_of_cell? w _ this)]
        exact this
      have c0 := lat (k * 4) (by omega)
      have c1 := lat (k * 4 + 1) (by omega)
      have c2 := lat (k * 4 + 2) (by omega)
      have c3 := lat (k * 4 + 3) (by omega)
      rw [mkV0, show 1 + k * 4 = m from hmq] at c0
      rw [mkV1, show 1 + (k * 4 + 1) = m + 1 by omega, show ((m + 1 : Nat) : Int) = (m : Int) + 1 by omega] at c1
      rw [mkV2, show 1 + (k * 4 + 2) = m + 2 by omega] at c2
      rw [mkV3, show 1 + (k * 4 + 3) = m + 3 by omega, show ((m + 3 : Nat) : Int) = (m : Int) + 1 + 1 + 1 by omega] at c3
      have hgl : g < wr.heap.size := World.block_lt_of_cell? wr _ c0
      have kt : Hid (∀ u, Calls Tryd.prog 39 #[.int .i64 ((m : Int) + 1 + 1)] u fun e w' => e = .returned (.string (markS (m + 2))) ∧ Below u.heap.size u w') := fun u => by
        have := mark_text (m + 2) (by omega) (by omega) u
        rw [show ((m + 2 : Nat) : Int) = (m : Int) + 1 + 1 by omega] at this
        exact this
      have hmb : m ≤ 4194310 := by omega
      have lat2 : Hid (∀ w2, Below wr.drew.heap.size wr.drew w2 → w2.cell? ⟨g, k * 4 + 2, none⟩ = some (.string (markS (m + 2))) ∧ w2.cell? ⟨g, k * 4 + 3, none⟩ = some (.int .i64 ((m : Int) + 1 + 1 + 1))) := fun w2 q => ⟨by rw [q.cell (by exact hgl)]; exact c2, by rw [q.cell (by exact hgl)]; exact c3⟩
      clear lat hmq hbel
      generalize markS (m + 2) = T at *
      go_wp2_with fail
      go_region_held (fun w' => w'.cell? ⟨g, k * 4 + 2, none⟩ = some (.string T)) (go_keep)
        (first | (go_at_call 39; refine (kt.out _).mono ?_; rintro e w2 ⟨rfl, q2⟩; obtain ⟨d2, d3⟩ := lat2.out _ q2))
      go_wp2_with fail
      go_roundw
      case rel => exact ⟨k + 1, by omega, by go_num, by have := hm'.out; rw [show 1 + (k + 1) * 4 = m + 4 by omega]; go_num, hbel'.out.drew.trans (q2.mono hbel'.out.size)⟩
      case measure => simp [intOf]; omega
    · obtain rfl : k = n := by omega
      clear hmq hbel
      go_wp2_with fail
      go_ret
      exact ⟨by rw [hm'.out]; rfl, hbel'.out⟩
theorem markTok0 (w : World) (cap : Nat) (a : Option Addr) :
    Calls Tryd.prog 21 #[.slice a 0 cap, .int .i64 1] w fun e w' => e = .returned (.int .i64 1) ∧ w = w' := by
  go_enter Tryd.func21, Tryd.ntmps21
  go_wp2_with fail
  refine wp_loop_rounds 1 ?_
  rw [rounds_succ]
  go_wp2_with fail
  go_ret
  exact ⟨rfl, rfl⟩
theorem heldTok0 (w : World) (cap : Nat) (a : Option Addr) :
    Calls Tryd.prog 22 #[.slice a 0 cap, .int .i64 1] w fun e w' => e = .returned (.int .i64 1) ∧ w = w' := by
  go_enter Tryd.func22, Tryd.ntmps22
  go_wp2_with fail
  refine wp_loop_rounds 1 ?_
  rw [rounds_succ]
  go_wp2_with fail
  go_ret
  exact ⟨rfl, rfl⟩
end Go.Proofs.YtjndgjheehjohaaDoor.MarkTok
