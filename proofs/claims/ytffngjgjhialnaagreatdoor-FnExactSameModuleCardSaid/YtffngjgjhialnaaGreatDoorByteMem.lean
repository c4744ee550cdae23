/-
  Slices of bytes in memory, and what the laws' own helpers on them do: copy, compare, mark, look at the marks.
-/
import Derived.Test.YtffngjgjhialnaaGreatDoorNumCalls
import Derived.Deep.QuietTactic
import Derived.BigQuiet
import Derived.Deep.OwnRows
import Derived.Below
import Derived.WalkSpells
import Derived.WalkSmall
namespace Go.Proofs.YtffngjgjhialnaaGreatDoor.ByteMem
open Go.RowKit PlainNum NumCalls

/-- A slice of n bytes that can be read: byte j is Z j. -/
def Rd (w : World) (a : Option Addr) (n : Nat) (Z : Nat → Int) : Prop :=
  (∀ j, j < n → 0 ≤ Z j ∧ Z j ≤ 255) ∧ (n = 0 ∨ ∃ b off, a = some ⟨b, off, none⟩ ∧ ∀ j, j < n → w.cell? ⟨b, off + j, none⟩ = some (.int .u8 (Z j)))
theorem Rd.later {w w' : World} {a : Option Addr} {n : Nat} {Z : Nat → Int} (h : Rd w a n Z) (hb : Below w.heap.size w w') : Rd w' a n Z := by
  refine ⟨h.1, ?_⟩
  rcases h.2 with h | ⟨b, off, ha, hc⟩
  · exact .inl h
  · exact .inr ⟨b, off, ha, fun j hj => by rw [hb.cell (World.block_lt_of_cell? w _ (hc j hj))]; exact hc j hj⟩
theorem Rd.of_row {w : World} {b n m : Nat} {F : Nat → Value} {Z : Nat → Int} (h : w.rowIs b 5 m F) (hn : n ≤ m) (hF : ∀ j, j < n → F j = .int .u8 (Z j)) (hZ : ∀ j, j < n → 0 ≤ Z j ∧ Z j ≤ 255) : Rd w (some ⟨b, 0, none⟩) n Z :=
  ⟨hZ, .inr ⟨b, 0, rfl, fun j hj => by rw [Nat.zero_add, h.cell (show j < m by omega), hF j hj]⟩⟩
theorem addr_ne {b i j : Nat} (h : i ≠ j) : (⟨b, i, none⟩ : Addr) ≠ ⟨b, j, none⟩ := fun e => h (by injection e)
theorem info5 : (Tryz.prog.info? 5).map (fun i => (i.zero, i.size, i.bytes)) = some (some (.int .u8 0), 1, 1) := by kernel_rfl
theorem toByteS (w : World) (a : Option Addr) (n cap : Nat) (Z : Nat → Int) (h : Rd w a n Z) (hn : n ≤ 1048576) :
    Calls Tryz.prog 124 #[.slice a n cap] w fun e w' => ∃ b, e = .returned (.slice (some ⟨b, 0, none⟩) n n) ∧ w.heap.size ≤ b ∧ w'.rowIs b 5 n (fun j => .int .u8 (Z j)) ∧ Below w.heap.size w w' := by
  have hmk := run_make_row' (P := Tryz.prog) 31 5 (.int .u8 0) 1 Tryz.underlying31 info5 rfl .i64 .i64 n (by omega) (by omega)
  have h' : Hid (Rd w a n Z) := h
  clear h
  go_enter Tryz.func124, Tryz.ntmps124
  go_wp2_with fail
  clear hmk
  go_loopw [4] (fun i wr => ∃ k : Nat, k ≤ n ∧ i = .int .i64 k ∧ wr.rowIs w.heap.size 5 n (fun j => if j < k then .int .u8 (Z j) else .int .u8 0) ∧ Below w.heap.size w wr) (fun i _ => n - (intOf i).toNat)
  case atStart => exact ⟨0, Nat.zero_le _, rfl, (World.rowIs_made w (.int .u8 0) n 5).congr (fun i hi => by simp), (Below.refl _ _).alloc (Nat.le_refl _) _⟩
  case round =>
    obtain ⟨k, hk, rfl, hrow, hbel⟩ := hrel
    by_cases hlt : k < n
    · have hlt' : (k : Int) < (n : Int) := by omega
      obtain ⟨hZ, h0 | ⟨b, off, ha, hc⟩⟩ := h'.out
      · omega
      · have hbb : b < w.heap.size := World.block_lt_of_cell? w _ (hc k hlt)
        have hc1 : wr.cell? ⟨b, off + k, none⟩ = some (.int .u8 (Z k)) := by rw [hbel.cell hbb]; exact hc k hlt
        have hc2 : wr.cell? ⟨w.heap.size, k, none⟩ = some (.int .u8 0) := by rw [hrow.cell hlt]; simp
        have hf2 : wr.frozen? ⟨w.heap.size, k, none⟩ = false := hrow.frozen k
        have hz := hZ k hlt
        have hrow' : Hid ((wr.setCell ⟨w.heap.size, k, none⟩ (.int .u8 (Z k))).rowIs w.heap.size 5 n (fun j => if j < k + 1 then .int .u8 (Z j) else .int .u8 0)) :=
          (hrow.set k (.int .u8 (Z k))).congr (fun j hj => by
            by_cases e1 : j = k
            · subst e1; simp
            · by_cases e2 : j < k
              · simp [e1, e2, show j < k + 1 by omega]
              · simp [e1, e2, show ¬ j < k + 1 by omega])
        have hbel' : Hid (Below w.heap.size w (wr.setCell ⟨w.heap.size, k, none⟩ (.int .u8 (Z k)))) := hbel.setCell (Nat.le_refl _) _
        subst ha
        clear hrow hbel hc hZ
        go_wp2_with fail
        go_roundw
        case rel => exact ⟨k + 1, by omega, by go_num, hrow'.out, hbel'.out⟩
        case measure => simp [intOf]; omega
    · obtain rfl : k = n := by omega
      have hrow' : Hid (wr.rowIs w.heap.size 5 k (fun j => .int .u8 (Z j))) := hrow.congr (fun j hj => by simp [hj])
      have hbel' : Hid (Below w.heap.size w wr) := hbel
      clear hrow hbel
      go_wp2_with fail
      go_ret
      exact ⟨_, rfl, Nat.le_refl _, hrow'.out, hbel'.out⟩
theorem eqByteS (w : World) (a a' : Option Addr) (n cap cap' : Nat) (Z Z' : Nat → Int) (h : Rd w a n Z) (h' : Rd w a' n Z') (hn : n ≤ 9223372036854775806) (he : ∀ j, j < n → Z j = Z' j) :
    Calls Tryz.prog 9 #[.slice a n cap, .slice a' n cap'] w fun e w' => e = .returned (.bool true) ∧ ∃ m, w' = w.drewN m := by
  have k1 : Hid (Rd w a n Z) := h
  have k2 : Hid (Rd w a' n Z') := h'
  clear h h'
  go_enter Tryz.func9, Tryz.ntmps9
  go_wp2_with fail
  go_loopw [5] (fun i wr => ∃ k m : Nat, k ≤ n ∧ i = .int .i64 k ∧ wr = w.drewN m) (fun i _ => n - (intOf i).toNat)
  case atStart => exact ⟨0, 0, Nat.zero_le _, rfl, rfl⟩
  case round =>
    obtain ⟨k, m, hk, rfl, rfl⟩ := hrel
    by_cases hlt : k < n
    · have hlt' : (k : Int) < (n : Int) := by omega
      obtain ⟨hZ, h0 | ⟨b, off, ha, hc⟩⟩ := k1.out
      · omega
      · obtain ⟨hZ', h0' | ⟨b', off', ha', hc'⟩⟩ := k2.out
        · omega
        · have c1 := hc k hlt
          have c2 := hc' k hlt
          have hz := hZ k hlt
          have hq := he k hlt
          rw [← hq] at c2
          subst ha ha'
          clear hc hc' hZ hZ' he hq
          go_wp2_with fail
          go_quiet (fail)
          go_wp2_with fail
          go_roundw
          case rel => exact ⟨k + 1, _, by omega, by go_num, rfl⟩
          case measure => simp [intOf]; omega
    · obtain rfl : k = n := by omega
      go_wp2_with fail
      go_ret
      exact ⟨rfl, _, rfl⟩
/-- A slice of n bytes that can be written. -/
def Wt (w : World) (a : Option Addr) (n : Nat) : Prop :=
  n = 0 ∨ ∃ b off, a = some ⟨b, off, none⟩ ∧ ∀ j, j < n → (∃ v, w.cell? ⟨b, off + j, none⟩ = some v) ∧ w.frozen? ⟨b, off + j, none⟩ = false
/-- Only a's own block has been written. -/
def Only (w w' : World) (a : Option Addr) : Prop := w.grownBy w' (a.map (·.block)) ∧ w'.heap.size = w.heap.size ∧ ∀ p, w'.frozen? p = w.frozen? p
theorem Only.refl (w : World) (a : Option Addr) : Only w w a := ⟨⟨rfl, rfl, rfl, Nat.le_refl _, fun _ _ _ => rfl⟩, rfl, fun _ => rfl⟩
theorem Only.set {w w' : World} {b off j : Nat} (h : Only w w' (some ⟨b, off, none⟩)) (v : Value) : Only w (w'.setCell ⟨b, j, none⟩ v) (some ⟨b, off, none⟩) := by
  refine ⟨⟨h.1.os, h.1.tape, h.1.output, ?_, fun k hk hne => ?_⟩, ?_, fun p => ?_⟩
  · rw [World.size_setCell]; exact h.1.size
  · rw [Below.heap_setCell w' _ v k (fun e => hne (by simp [e]))]; exact h.1.block k hk hne
  · rw [World.size_setCell]; exact h.2.1
  · rw [World.frozen?_setCell]; exact h.2.2 p
theorem markByteS (w : World) (a : Option Addr) (n cap : Nat) (q : Int) (h : Wt w a n) (hn : n ≤ 1099511627776) (q0 : 0 ≤ q) (q1 : q ≤ 1099511627776) :
    Calls Tryz.prog 12 #[.slice a n cap, .int .i64 q] w fun e w' => e = .returned (.int .i64 (q + n)) ∧ Rd w' a n (fun j => (q + j) % 256) ∧ Only w w' a := by
  rcases h with rfl | ⟨b, off, rfl, hc⟩
  · go_enter Tryz.func12, Tryz.ntmps12
    go_wp2_with fail
    refine wp_loop_rounds 1 ?_
    rw [rounds_succ]
    go_wp2_with fail
    go_ret
    exact ⟨by simp, ⟨fun j hj => by omega, .inl rfl⟩, Only.refl _ _⟩
  · have hc' : Hid (∀ j, j < n → (∃ v, w.cell? ⟨b, off + j, none⟩ = some v) ∧ w.frozen? ⟨b, off + j, none⟩ = false) := hc
    clear hc
    go_enter Tryz.func12, Tryz.ntmps12
    go_wp2_with fail
    go_loopw [1, 5] (fun q' i wr => ∃ k : Nat, k ≤ n ∧ i = .int .i64 k ∧ q' = .int .i64 (q + k) ∧ (∀ j, j < k → wr.cell? ⟨b, off + j, none⟩ = some (.int .u8 ((q + j) % 256))) ∧ (∀ j, k ≤ j → wr.cell? ⟨b, off + j, none⟩ = w.cell? ⟨b, off + j, none⟩) ∧ Only w wr (some ⟨b, off, none⟩)) (fun _ i _ => n - (intOf i).toNat)
    case atStart => exact ⟨0, Nat.zero_le _, rfl, by simp, fun j hj => by omega, fun _ _ => rfl, Only.refl _ _⟩
    case round =>
      obtain ⟨k, hk, rfl, rfl, hm, hr, ho⟩ := hrel
      by_cases hlt : k < n
      · have hlt' : (k : Int) < (n : Int) := by omega
        obtain ⟨⟨v, hv⟩, hf⟩ := hc'.out k hlt
        have c1 : wr.cell? ⟨b, off + k, none⟩ = some v := by rw [hr k (Nat.le_refl _)]; exact hv
        have f1 : wr.frozen? ⟨b, off + k, none⟩ = false := by rw [ho.2.2]; exact hf
        have hu : IntKind.u8.wrap (q + k) = (q + k) % 256 := by rw [IntKind.wrap_u8]
        have hm' : Hid (∀ j, j < k → wr.cell? ⟨b, off + j, none⟩ = some (.int .u8 ((q + j) % 256))) := hm
        have hr' : Hid (∀ j, k ≤ j → wr.cell? ⟨b, off + j, none⟩ = w.cell? ⟨b, off + j, none⟩) := hr
        have ho' : Hid (Only w wr (some ⟨b, off, none⟩)) := ho
        clear hm hr ho hv hf
        go_wp2_with fail
        go_roundw
        case rel =>
          refine ⟨k + 1, by omega, by go_num, by go_num, fun j hj => ?_, fun j hj => ?_, ho'.out.set _⟩
          · by_cases e : j = k
            · subst e; exact World.cell?_setCell_same (w := wr) (a := ⟨b, off + j, none⟩) (v := _) c1
            · rw [World.cell?_setCell_other (w := wr) (a := ⟨b, off + k, none⟩) (b := ⟨b, off + j, none⟩) (v := _) (addr_ne (by omega))]; exact hm'.out j (by omega)
          · rw [World.cell?_setCell_other (w := wr) (a := ⟨b, off + k, none⟩) (b := ⟨b, off + j, none⟩) (v := _) (addr_ne (by omega))]; exact hr'.out j (by omega)
        case measure => simp [intOf]; omega
      · obtain rfl : k = n := by omega
        have hm' : Hid (∀ j, j < k → wr.cell? ⟨b, off + j, none⟩ = some (.int .u8 ((q + j) % 256))) := hm
        have ho' : Hid (Only w wr (some ⟨b, off, none⟩)) := ho
        clear hm hr ho
        go_wp2_with fail
        go_ret
        exact ⟨rfl, ⟨fun j hj => by show 0 ≤ (q + (j : Int)) % 256 ∧ (q + (j : Int)) % 256 ≤ 255; omega, .inr ⟨b, off, rfl, hm'.out⟩⟩, ho'.out⟩
theorem heldByteS (w : World) (a : Option Addr) (n cap : Nat) (q : Int) (h : Rd w a n (fun j => (q + j) % 256)) (hn : n ≤ 1099511627776) (q0 : 0 ≤ q) (q1 : q ≤ 1099511627776) :
    Calls Tryz.prog 13 #[.slice a n cap, .int .i64 q] w fun e w' => e = .returned (.int .i64 (q + n)) ∧ w = w' := by
  rcases h with ⟨hZ, rfl | ⟨b, off, rfl, hc⟩⟩
  · go_enter Tryz.func13, Tryz.ntmps13
    go_wp2_with fail
    refine wp_loop_rounds 1 ?_
    rw [rounds_succ]
    go_wp2_with fail
    go_ret
    exact ⟨by simp, rfl⟩
  · have hc' : Hid (∀ j, j < n → w.cell? ⟨b, off + j, none⟩ = some (.int .u8 ((q + j) % 256))) := hc
    clear hc hZ
    go_enter Tryz.func13, Tryz.ntmps13
    go_wp2_with fail
    go_loop [1, 5] (fun q' i => ∃ k : Nat, k ≤ n ∧ i = .int .i64 k ∧ q' = .int .i64 (q + k)) (fun _ i => n - (intOf i).toNat)
    case atStart => exact ⟨0, Nat.zero_le _, rfl, by simp⟩
    case round =>
      obtain ⟨k, hk, rfl, rfl⟩ := hrel
      by_cases hlt : k < n
      · have hlt' : (k : Int) < (n : Int) := by omega
        have c1 := hc'.out k hlt
        have hu : IntKind.u8.wrap (q + k) = (q + k) % 256 := by rw [IntKind.wrap_u8]
        go_wp2_with fail
        go_round
        case rel => exact ⟨k + 1, by omega, by go_num, by go_num⟩
        case measure => simp only [intOf]; omega
      · obtain rfl : k = n := by omega
        go_wp2_with fail
        go_ret
        exact ⟨rfl, rfl⟩
end Go.Proofs.YtffngjgjhialnaaGreatDoor.ByteMem
