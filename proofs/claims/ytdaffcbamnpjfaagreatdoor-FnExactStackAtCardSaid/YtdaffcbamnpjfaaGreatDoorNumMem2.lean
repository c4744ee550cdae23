/-
  Slices of numbers in memory (as NumMem, without the sections' reader), and what the laws' own helpers on them do: compare, mark, look at the marks.
-/
import Derived.Test.YtdaffcbamnpjfaaGreatDoorByteMem
import Derived.Test.YtdaffcbamnpjfaaGreatDoorNumCalls
namespace Go.Proofs.YtdaffcbamnpjfaaGreatDoor.NumMem2
open Go.RowKit PlainNum NumCalls ByteMem

/-- A slice of n numbers that can be read: number j is Z j. -/
def RdN (w : World) (a : Option Addr) (n : Nat) (Z : Nat → Int) : Prop := n = 0 ∨ ∃ b off, a = some ⟨b, off, none⟩ ∧ ∀ j, j < n → w.cell? ⟨b, off + j, none⟩ = some (.int .i64 (Z j))
theorem RdN.later {w w' : World} {a : Option Addr} {n : Nat} {Z : Nat → Int} (h : RdN w a n Z) (hb : Below w.heap.size w w') : RdN w' a n Z := by
  rcases h with h | ⟨b, off, ha, hc⟩
  · exact .inl h
  · exact .inr ⟨b, off, ha, fun j hj => by rw [hb.cell (World.block_lt_of_cell? w _ (hc j hj))]; exact hc j hj⟩
theorem eqIntS (w : World) (a a' : Option Addr) (n cap cap' : Nat) (Z : Nat → Int) (h : RdN w a n Z) (h' : RdN w a' n Z) (hn : n ≤ 9223372036854775806) :
    Calls Tryz.prog 16 #[.slice a n cap, .slice a' n cap'] w fun e w' => e = .returned (.bool true) ∧ ∃ m, w' = w.drewN m := by
  have k1 : Hid (RdN w a n Z) := h
  have k2 : Hid (RdN w a' n Z) := h'
  clear h h'
  go_enter Tryz.func16, Tryz.ntmps16
  go_wp2_with fail
  go_loopw [5] (fun i wr => ∃ k m : Nat, k ≤ n ∧ i = .int .i64 k ∧ wr = w.drewN m) (fun i _ => n - (intOf i).toNat)
  case atStart => exact ⟨0, 0, Nat.zero_le _, rfl, rfl⟩
  case round =>
    obtain ⟨k, m, hk, rfl, rfl⟩ := hrel
    by_cases hlt : k < n
    · have hlt' : (k : Int) < (n : Int) := by omega
      rcases k1.out with h0 | ⟨b, off, ha, hc⟩
      · omega
      · rcases k2.out with h0' | ⟨b', off', ha', hc'⟩
        · omega
        · have c1 := hc k hlt
          have c2 := hc' k hlt
          subst ha ha'
          clear hc hc'
          generalize Z k = z at *
          go_wp2_with fail
          go_quiet (fail)
          go_wp2_with fail
          go_roundw
          case rel => exact ⟨k + 1, _, by omega, by go_num, rfl⟩
          case measure => simp [intOf]; omega
    · obtain rfl : k = n := by omega
      go_wp2_with fail
      go_ret
      exact ⟨rfl, _, rfl⟩
theorem markIntS (w : World) (a : Option Addr) (n cap : Nat) (q : Int) (h : Wt w a n) (hn : n ≤ 1099511627776) (q0 : 0 ≤ q) (q1 : q ≤ 1099511627776) :
    Calls Tryz.prog 18 #[.slice a n cap, .int .i64 q] w fun e w' => e = .returned (.int .i64 (q + n)) ∧ RdN w' a n (fun j => q + j) ∧ Only w w' a := by
  rcases h with rfl | ⟨b, off, rfl, hc⟩
  · go_enter Tryz.func18, Tryz.ntmps18
    go_wp2_with fail
    refine wp_loop_rounds 1 ?_
    rw [rounds_succ]
    go_wp2_with fail
    go_ret
    exact ⟨by simp, .inl rfl, Only.refl _ _⟩
  · have hc' : Hid (∀ j, j < n → (∃ v, w.cell? ⟨b, off + j, none⟩ = some v) ∧ w.frozen? ⟨b, off + j, none⟩ = false) := hc
    clear hc
    go_enter Tryz.func18, Tryz.ntmps18
    go_wp2_with fail
    go_loopw [1, 5] (fun q' i wr => ∃ k : Nat, k ≤ n ∧ i = .int .i64 k ∧ q' = .int .i64 (q + k) ∧ (∀ j, j < k → wr.cell? ⟨b, off + j, none⟩ = some (.int .i64 (q + j))) ∧ (∀ j, k ≤ j → wr.cell? ⟨b, off + j, none⟩ = w.cell? ⟨b, off + j, none⟩) ∧ Only w wr (some ⟨b, off, none⟩)) (fun _ i _ => n - (intOf i).toNat)
    case atStart => exact ⟨0, Nat.zero_le _, rfl, by simp, fun j hj => by omega, fun _ _ => rfl, Only.refl _ _⟩
    case round =>
      obtain ⟨k, hk, rfl, rfl, hm, hr, ho⟩ := hrel
      by_cases hlt : k < n
      · have hlt' : (k : Int) < (n : Int) := by omega
        obtain ⟨⟨v, hv⟩, hf⟩ := hc'.out k hlt
        have c1 : wr.cell? ⟨b, off + k, none⟩ = some v := by rw [hr k (Nat.le_refl _)]; exact hv
        have f1 : wr.frozen? ⟨b, off + k, none⟩ = false := by rw [ho.2.2]; exact hf
        have hm' : Hid (∀ j, j < k → wr.cell? ⟨b, off + j, none⟩ = some (.int .i64 (q + j))) := hm
        have hr' : Hid (∀ j, k ≤ j → wr.cell? ⟨b, off + j, none⟩ = w.cell? ⟨b, off + j, none⟩) := hr
        have ho' : Hid (Only w wr (some ⟨b, off, none⟩)) := ho
        clear hm hr ho hv hf
        go_wp2_with fail
        go_roundw
        case rel =>
          refine ⟨k + 1, by omega, by go_num, by go_num, fun j hj => ?_, fun j hj => ?_, ho'.out.set _⟩
          · by_cases e : j = k
            · subst e; exact World.cell?_setCell_same (w := wr) (a := ⟨b, off + j, none⟩) (v := _) c1
            · rw [World.cell?_setCell_other (w := wr) (a := ⟨b, off + k, none⟩) (b := ⟨b, off + j, none⟩) (v := _) (addr_ne (by omega))]; exact hm'.out j (by omega)
          · rw [World.cell?_setCell_other (w := wr) (a := ⟨b, off + k, none⟩) (b := ⟨b, off + j, none⟩) (v := _) (addr_ne (by omega))]; exact hr'.out j (by omega)
        case measure => simp [intOf]; omega
      · obtain rfl : k = n := by omega
        have hm' : Hid (∀ j, j < k → wr.cell? ⟨b, off + j, none⟩ = some (.int .i64 (q + j))) := hm
        have ho' : Hid (Only w wr (some ⟨b, off, none⟩)) := ho
        clear hm hr ho
        go_wp2_with fail
        go_ret
        exact ⟨rfl, .inr ⟨b, off, rfl, hm'.out⟩, ho'.out⟩
theorem heldIntS (w : World) (a : Option Addr) (n cap : Nat) (q : Int) (h : RdN w a n (fun j => q + j)) (hn : n ≤ 1099511627776) (q0 : 0 ≤ q) (q1 : q ≤ 1099511627776) :
    Calls Tryz.prog 19 #[.slice a n cap, .int .i64 q] w fun e w' => e = .returned (.int .i64 (q + n)) ∧ w = w' := by
  rcases h with rfl | ⟨b, off, rfl, hc⟩
  · go_enter Tryz.func19, Tryz.ntmps19
    go_wp2_with fail
    refine wp_loop_rounds 1 ?_
    rw [rounds_succ]
    go_wp2_with fail
    go_ret
    exact ⟨by simp, rfl⟩
  · have hc' : Hid (∀ j, j < n → w.cell? ⟨b, off + j, none⟩ = some (.int .i64 (q + j))) := hc
    clear hc
    go_enter Tryz.func19, Tryz.ntmps19
    go_wp2_with fail
    go_loop [1, 5] (fun q' i => ∃ k : Nat, k ≤ n ∧ i = .int .i64 k ∧ q' = .int .i64 (q + k)) (fun _ i => n - (intOf i).toNat)
    case atStart => exact ⟨0, Nat.zero_le _, rfl, by simp⟩
    case round =>
      obtain ⟨k, hk, rfl, rfl⟩ := hrel
      by_cases hlt : k < n
      · have hlt' : (k : Int) < (n : Int) := by omega
        have c1 := hc'.out k hlt
        go_wp2_with fail
        go_round
        case rel => exact ⟨k + 1, by omega, by go_num, by go_num⟩
        case measure => simp only [intOf]; omega
      · obtain rfl : k = n := by omega
        go_wp2_with fail
        go_ret
        exact ⟨rfl, rfl⟩
/-- Numbers of one's own, from block B on, or nothing. -/
def ON (B : Nat) (W : World) (a : Option Addr) (l : List Int) : Prop :=
  (a = none ∧ l = []) ∨ ∃ g, a = some ⟨g, 0, none⟩ ∧ B ≤ g ∧ ∃ cur : Array Value, W.heap[g]? = some (.cells cur 3 (0, 0)) ∧ l.length ≤ cur.size ∧ cur.toList.take l.length = l.map fun z => .int .i64 z
theorem ON.rd {B : Nat} {W : World} {a : Option Addr} {l : List Int} (h : ON B W a l) : RdN W a l.length (fun j => l.getD j 0) := by
  rcases h with ⟨_, h0⟩ | ⟨g, ha, _, cur, hb, _, hc⟩
  · exact .inl (by rw [h0]; rfl)
  · refine .inr ⟨g, 0, ha, fun j hj => ?_⟩
    have hx : (cur.toList.take l.length)[j]? = (l.map fun z => Value.int .i64 z)[j]? := by rw [hc]
    rw [List.getElem?_take, if_pos hj] at hx
    simp [hj] at hx
    simp [World.cell?, hb, hx, hj]
theorem ON.wt {B : Nat} {W : World} {a : Option Addr} {l : List Int} (h : ON B W a l) : Wt W a l.length := by
  rcases h with ⟨_, h0⟩ | ⟨g, ha, _, cur, hb, hn, _⟩
  · exact .inl (by rw [h0]; rfl)
  · refine .inr ⟨g, 0, ha, fun j hj => ⟨⟨cur[j]'(by omega), ?_⟩, ?_⟩⟩
    · simp [World.cell?, hb]
    · simp [World.frozen?, hb]
theorem ON.of {B : Nat} {W W' : World} {a : Option Addr} {l : List Int} (h : ON B W a l) (he : ∀ g, a = some ⟨g, 0, none⟩ → g < W.heap.size → W'.heap[g]? = W.heap[g]?) : ON B W' a l := by
  rcases h with h0 | ⟨g, ha, hg, cur, hb, r⟩
  · exact .inl h0
  · exact .inr ⟨g, ha, hg, cur, (he g ha (Array.getElem?_eq_some_iff.1 hb).1).trans hb, r⟩
theorem ON.below {B : Nat} {W W' : World} {a : Option Addr} {l : List Int} (h : ON B W a l) (hb : Below W.heap.size W W') : ON B W' a l := h.of fun g _ hg => hb.block g hg
theorem ON.draws {B : Nat} {W : World} {a : Option Addr} {l : List Int} (h : ON B W a l) (m : Nat) : ON B (W.drewN m) a l := h
theorem ON.lt {B : Nat} {W : World} {a : Option Addr} {l : List Int} (h : ON B W a l) : ∀ p, a = some p → B ≤ p.block ∧ p.block < W.heap.size := by
  intro p hp
  rcases h with ⟨h0, _⟩ | ⟨g, ha, hg, cur, hb, _⟩
  · rw [h0] at hp; cases hp
  · rw [ha] at hp
    cases hp
    exact ⟨hg, (Array.getElem?_eq_some_iff.1 hb).1⟩
theorem ON.only {B : Nat} {W W' : World} {a a' : Option Addr} {l : List Int} (h : ON B W a l) (ho : Only W W' a') (hne : ∀ p p', a = some p → a' = some p' → p.block ≠ p'.block) : ON B W' a l :=
  h.of fun g hg hlt => ho.1.block g hlt fun e => by
    cases ha' : a' with
    | none => rw [ha'] at e; cases e
    | some p' =>
      rw [ha'] at e
      have := hne ⟨g, 0, none⟩ p' hg ha'
      simp at e
      exact this e
end Go.Proofs.YtdaffcbamnpjfaaGreatDoor.NumMem2
