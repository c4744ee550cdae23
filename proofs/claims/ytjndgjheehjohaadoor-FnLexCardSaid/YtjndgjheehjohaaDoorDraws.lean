/-
  The cursor over the bytes of a draw: what its functions do to memory, and that each answers some number.
-/
import Derived.Test.YtjndgjheehjohaaDoorNumCalls
import Derived.Deep.QuietTactic
import Derived.BigQuiet
import Derived.Below
import Derived.WalkSpells
import Derived.WalkSmall
namespace Go.Proofs.YtjndgjheehjohaaDoor.Draws
open Go.RowKit PlainNum NumCalls

theorem and255 (z : Int) : bits .and .i64 z 255 = z % 256 := by
  rw [and_nat64, show ((255 : Int) % 18446744073709551616).toNat = 2 ^ 8 - 1 by decide, Nat.and_two_pow_sub_one_eq_mod, IntKind.wrap_i64]
  omega

/-- A slice of bytes below block B: nothing in it, or cells that hold bytes. -/
def Src (B : Nat) (w : World) (a : Option Addr) (len : Nat) : Prop :=
  len ≤ 9223372036854775807 ∧ (len = 0 ∨ ∃ b off, a = some ⟨b, off, none⟩ ∧ b < B ∧ ∀ j, j < len → ∃ z : Int, 0 ≤ z ∧ z ≤ 255 ∧ w.cell? ⟨b, off + j, none⟩ = some (.int .u8 z))

theorem Src.later {B : Nat} {w w' : World} {a : Option Addr} {len : Nat} (h : Src B w a len) (hb : Below B w w') : Src B w' a len := by
  refine ⟨h.1, ?_⟩
  rcases h.2 with h | ⟨b, off, ha, hlt, hc⟩
  · exact .inl h
  · refine .inr ⟨b, off, ha, hlt, fun j hj => ?_⟩
    obtain ⟨z, z0, z1, hz⟩ := hc j hj
    exact ⟨z, z0, z1, by rw [hb.cell hlt]; exact hz⟩

/-- The cursor at block blk. -/
def Cur (B : Nat) (w : World) (blk : Nat) : Prop :=
  B ≤ blk ∧ ∃ (a : Option Addr) (len cap : Nat) (i h : Int), Src B w a len ∧ 0 ≤ i ∧ w.cell? ⟨blk, 0, none⟩ = some (.slice a len cap) ∧
    w.cell? ⟨blk, 1, none⟩ = some (.int .i64 i) ∧ w.cell? ⟨blk, 2, none⟩ = some (.int .i64 h) ∧ w.frozen? ⟨blk, 1, none⟩ = false ∧ w.frozen? ⟨blk, 2, none⟩ = false

theorem Cur.set2 {B blk : Nat} {w : World} (hc : Cur B w blk) (h' : Int) : Cur B (w.setCell ⟨blk, 2, none⟩ (.int .i64 h')) blk ∧ Below B w (w.setCell ⟨blk, 2, none⟩ (.int .i64 h')) := by
  obtain ⟨hB, a, len, cap, i, h, hs, hi, c0, c1, c2, f1, f2⟩ := hc
  have hb := (Below.refl B w).setCell (p := ⟨blk, 2, none⟩) hB (.int .i64 h')
  refine ⟨⟨hB, a, len, cap, i, h', hs.later hb, hi, ?_, ?_, ?_, ?_, ?_⟩, hb⟩
  · exact (World.cell?_setCell_other (w := w) (a := ⟨blk, 2, none⟩) (b := ⟨blk, 0, none⟩) (v := .int .i64 h') (by simp)).trans c0
  · exact (World.cell?_setCell_other (w := w) (a := ⟨blk, 2, none⟩) (b := ⟨blk, 1, none⟩) (v := .int .i64 h') (by simp)).trans c1
  · exact World.cell?_setCell_same (w := w) (a := ⟨blk, 2, none⟩) (v := .int .i64 h') c2
  · simpa using f1
  · simpa using f2
theorem Cur.set1 {B blk : Nat} {w : World} (hc : Cur B w blk) (i' : Int) (hi' : 0 ≤ i') : Cur B (w.setCell ⟨blk, 1, none⟩ (.int .i64 i')) blk ∧ Below B w (w.setCell ⟨blk, 1, none⟩ (.int .i64 i')) := by
  obtain ⟨hB, a, len, cap, i, h, hs, hi, c0, c1, c2, f1, f2⟩ := hc
  have hb := (Below.refl B w).setCell (p := ⟨blk, 1, none⟩) hB (.int .i64 i')
  refine ⟨⟨hB, a, len, cap, i', h, hs.later hb, hi', ?_, ?_, ?_, ?_, ?_⟩, hb⟩
  · exact (World.cell?_setCell_other (w := w) (a := ⟨blk, 1, none⟩) (b := ⟨blk, 0, none⟩) (v := .int .i64 i') (by simp)).trans c0
  · exact World.cell?_setCell_same (w := w) (a := ⟨blk, 1, none⟩) (v := .int .i64 i') c1
  · exact (World.cell?_setCell_other (w := w) (a := ⟨blk, 1, none⟩) (b := ⟨blk, 2, none⟩) (v := .int .i64 i') (by simp)).trans c2
  · simpa using f1
  · simpa using f2
theorem Cur.draw {B blk : Nat} {w : World} (hc : Cur B w blk) (n : Nat) : Cur B (w.drewN n) blk ∧ Below B w (w.drewN n) := by
  obtain ⟨hB, a, len, cap, i, h, hs, hi, c0, c1, c2, f1, f2⟩ := hc
  have hb := below_drewN (Below.refl B w) n
  exact ⟨⟨hB, a, len, cap, i, h, hs.later hb, hi, c0, c1, c2, f1, f2⟩, hb⟩
theorem Cur.one {B blk : Nat} {w : World} (hc : Cur B w blk) (h' : Int) (n : Nat) : Cur B ((w.setCell ⟨blk, 2, none⟩ (.int .i64 h')).drewN n) blk ∧ Below B w ((w.setCell ⟨blk, 2, none⟩ (.int .i64 h')).drewN n) :=
  ⟨((hc.set2 h').1.draw n).1, (hc.set2 h').2.trans ((hc.set2 h').1.draw n).2⟩
theorem Cur.two {B blk : Nat} {w : World} (hc : Cur B w blk) (h' i' : Int) (n : Nat) (hi' : 0 ≤ i') : Cur B (((w.setCell ⟨blk, 2, none⟩ (.int .i64 h')).drewN n).setCell ⟨blk, 1, none⟩ (.int .i64 i')) blk ∧ Below B w (((w.setCell ⟨blk, 2, none⟩ (.int .i64 h')).drewN n).setCell ⟨blk, 1, none⟩ (.int .i64 i')) :=
  ⟨((hc.one h' n).1.set1 i' hi').1, (hc.one h' n).2.trans ((hc.one h' n).1.set1 i' hi').2⟩
theorem and255_0 (z : Int) : 0 ≤ bits .and .i64 z 255 := by rw [and255]; omega
theorem and255_1 (z : Int) : bits .and .i64 z 255 ≤ 255 := by rw [and255]; omega
theorem byte (B blk : Nat) (w : World) (hc : Cur B w blk) :
    Calls Tryd.prog 68 #[.pointer (some ⟨blk, 0, none⟩)] w fun e w' => ∃ x : Int, e = .returned (.int .i64 x) ∧ 0 ≤ x ∧ x ≤ 255 ∧ Cur B w' blk ∧ Below B w w' := by
  have hc' : Hid (Cur B w blk) := hc
  obtain ⟨hB, a, len, cap, i, h, hs, hi, c0, c1, c2, f1, f2⟩ := hc
  by_cases hlt : i < (len : Int)
  · obtain ⟨hm, h0 | ⟨b, off, ha, hbB, hz⟩⟩ := hs
    · omega
    · obtain ⟨z, z0, z1, cz⟩ := hz i.toNat (by omega)
      subst ha
      have hne : ¬ b = blk := by omega
      clear hz
      go_enter Tryd.func68, Tryd.ntmps68
      go_wp2
      go_quiet (fail)
      go_wp2
      go_quiet (fail)
      go_wp2
      go_quiet (fail)
      go_wp2
      go_ret
      exact ⟨_, rfl, and255_0 _, and255_1 _, (hc'.out.two _ _ _ (by omega)).1, (hc'.out.two _ _ _ (by omega)).2⟩
  · have hd : decide (i < (len : Int)) = false := by simp; omega
    have hm := hs.1
    clear hs
    go_enter Tryd.func68, Tryd.ntmps68
    go_wp2
    go_quiet (fail)
    go_wp2
    go_quiet (fail)
    go_wp2
    go_ret
    refine ⟨_, rfl, and255_0 _, and255_1 _, ?_⟩
    rw [World.drewN_drewN]
    exact hc'.out.one _ _
/-- The cursor at block blk, and nothing below B has turned since w0. -/
def St (B : Nat) (w0 : World) (blk : Nat) (w : World) : Prop := Cur B w blk ∧ Below B w0 w
theorem byteS {B blk : Nat} {w0 w : World} (h : St B w0 blk w) :
    Calls Tryd.prog 68 #[.pointer (some ⟨blk, 0, none⟩)] w fun e w' => ∃ x : Int, e = .returned (.int .i64 x) ∧ 0 ≤ x ∧ x ≤ 255 ∧ St B w0 blk w' :=
  (byte B blk w h.1).mono fun _ _ ⟨x, he, x0, x1, hc, hb⟩ => ⟨x, he, x0, x1, hc, h.2.trans hb⟩
theorem belowS {B blk : Nat} {w0 w : World} (n : Int) (h : St B w0 blk w) :
    Calls Tryd.prog 42 #[.pointer (some ⟨blk, 0, none⟩), .int .i64 n] w fun e w' => ∃ x : Int, e = .returned (.int .i64 x) ∧ 0 ≤ x ∧ (0 < n → x < n) ∧ St B w0 blk w' := by
  by_cases h0 : n ≤ 0
  · go_enter Tryd.func42, Tryd.ntmps42
    go_wp2
    go_ret
    exact ⟨_, rfl, Int.le_refl _, fun hn => by omega, h⟩
  · by_cases h1 : n ≤ 256
    · have h2 : 1 ≤ n := by omega
      have h3 : ¬ n = 0 := by omega
      go_enter Tryd.func42, Tryd.ntmps42
      go_wp2_with (go_at_call 68; refine (byteS (B := B) (blk := blk) (w0 := w0) ?_).mono ?_; assumption; rintro e w' ⟨x, rfl, x0, x1, hst⟩)
      go_ret
      exact ⟨_, rfl, Int.emod_nonneg _ h3, fun _ => Int.emod_lt_of_pos _ (by omega), by assumption⟩
    · have h2 : 257 ≤ n := by omega
      have h3 : ¬ n = 0 := by omega
      go_enter Tryd.func42, Tryd.ntmps42
      go_wp2_with (go_at_call 68; refine (byteS (B := B) (blk := blk) (w0 := w0) ?_).mono ?_; assumption; rintro e w' ⟨x, rfl, x0, x1, hst⟩)
      go_ret
      exact ⟨_, rfl, Int.emod_nonneg _ h3, fun _ => Int.emod_lt_of_pos _ (by omega), by assumption⟩
theorem Cur.made {B cap len : Nat} {a : Option Addr} {w0 w : World} (hs : Src B w a len) (hB : B ≤ w.heap.size) (hb : Below B w0 w) (h : Int) (t : TypeId) :
    St B w0 w.heap.size (w.alloc (.cells #[.slice a len cap, .int .i64 0, .int .i64 h] t)) := by
  have hb' := (Below.refl B w).alloc hB (.cells #[.slice a len cap, .int .i64 0, .int .i64 h] t)
  refine ⟨⟨hB, a, len, cap, 0, h, hs.later hb', Int.le_refl _, ?_, ?_, ?_, ?_, ?_⟩, hb.trans hb'⟩
  all_goals simp
theorem newS {B cap len : Nat} {a : Option Addr} {w0 w : World} (hs : Src B w a len) (hB : B ≤ w.heap.size) (hb : Below B w0 w) :
    Calls Tryd.prog 40 #[.slice a len cap] w fun e w' => ∃ blk : Nat, e = .returned (.pointer (some ⟨blk, 0, none⟩)) ∧ St B w0 blk w' := by
  have hm := hs.1
  have hs' : Hid (Src B w a len) := hs
  clear hs
  go_enter Tryd.func40, Tryd.ntmps40
  go_wp2
  go_loop [3, 4] (fun t i => ∃ (k : Nat) (h : Int), k ≤ len ∧ i = .int .i64 k ∧ t = .int .i64 h) (fun _ i => len - (intOf i).toNat)
  case atStart => exact ⟨0, _, Nat.zero_le _, rfl, rfl⟩
  case round =>
    obtain ⟨k, h, hk, rfl, rfl⟩ := hrel
    by_cases hkl : k < len
    · have hkl' : (k : Int) < (len : Int) := by omega
      by_cases h4 : (k : Int) < 4000
      · obtain ⟨_, h0 | ⟨b, off, ha, hbB, hz⟩⟩ := hs'.out
        · omega
        · obtain ⟨z, z0, z1, cz⟩ := hz k hkl
          have hs2 : Hid (a = some ⟨b, off, none⟩) := ha
          clear hz
          subst ha
          go_wp2
          go_round
          case rel => exact ⟨k + 1, _, by omega, by go_num, rfl⟩
          case measure => simp only [intOf]; omega
      · have h4' : decide ((k : Int) < 4000) = false := by simp; omega
        go_wp2
        go_ret
        exact ⟨_, rfl, Cur.made hs'.out hB hb _ _⟩
    · have hkl' : decide ((k : Int) < (len : Int)) = false := by simp; omega
      go_wp2
      go_ret
      exact ⟨_, rfl, Cur.made hs'.out hB hb _ _⟩
theorem src_of_row {w : World} {a : Option Addr} {len cap : Nat} {zs : List Int}
    (h : (a = none ∧ len = 0 ∧ cap = 0 ∧ zs = []) ∨
      ∃ x, a = some x ∧ len ≤ cap ∧ cap ≤ maxLen ∧ zs.length = cap ∧ (∀ i, i < zs.length → w.cell? (x.add i) = some (.int .u8 (zs.getD i 0))) ∧ ∀ n ∈ zs, (Lit.int .u8 n).wf = true) :
    Src w.heap.size w a len := by
  rcases h with ⟨rfl, rfl, rfl, rfl⟩ | ⟨x, rfl, hl, hm, hz, hcell, hwz⟩
  · exact ⟨by omega, .inl rfl⟩
  · unfold maxLen at hm
    refine ⟨by omega, ?_⟩
    by_cases h0 : len = 0
    · exact .inl h0
    · obtain ⟨b, off, spot⟩ := x
      have hc := hcell 0 (by omega)
      have hspot : spot = none := by simpa [Addr.add] using World.cell?_spot hc
      subst hspot
      refine .inr ⟨b, off, rfl, World.block_lt_of_cell? w _ hc, fun j hj => ?_⟩
      have hj' : j < zs.length := by omega
      have hb := bounds_u8 (hwz (zs.getD j 0) (by simp [List.getD, hj']))
      have ej : (⟨b, off, none⟩ : Addr).add j = ⟨b, off + j, none⟩ := by cases j <;> simp [Addr.add]
      exact ⟨zs.getD j 0, hb.1, hb.2, by rw [← ej]; exact hcell j hj'⟩
theorem newB {B cap len : Nat} {a : Option Addr} {w0 w : World} (hs : Src B w0 a len) (hB : B ≤ w0.heap.size) (hb : Below B w0 w) :
    Calls Tryd.prog 40 #[.slice a len cap] w fun e w' => ∃ blk : Nat, e = .returned (.pointer (some ⟨blk, 0, none⟩)) ∧ St B w0 blk w' :=
  newS (hs.later hb) (Nat.le_trans hB hb.size) hb
end Go.Proofs.YtjndgjheehjohaaDoor.Draws
