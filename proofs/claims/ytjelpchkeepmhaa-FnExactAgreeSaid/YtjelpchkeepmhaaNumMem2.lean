/-
  Slices of numbers in memory (as NumMem, without the sections' reader), and what the laws' own helpers on them do: compare, mark, look at the marks.
-/
import Derived.Test.YtjelpchkeepmhaaByteMem
import Derived.Test.YtjelpchkeepmhaaNumCalls
namespace Go.Proofs.Ytjelpchkeepmhaa.NumMem2
open Go.RowKit PlainNum NumCalls ByteMem

/-- A slice of n numbers that can be read: number j is Z j. -/
def RdN (w : World) (a : Option Addr) (n : Nat) (Z : Nat → Int) : Prop := n = 0 ∨ ∃ b off, a = some ⟨b, off, none⟩ ∧ ∀ j, j < n → w.cell? ⟨b, off + j, none⟩ = some (.int .i64 (Z j))
theorem RdN.later {w w' : World} {a : Option Addr} {n : Nat} {Z : Nat → Int} (h : RdN w a n Z) (hb : Below w.heap.size w w') : RdN w' a n Z := by
  rcases h with h | ⟨b, off, ha, hc⟩
  · exact .inl h
  · exact .inr ⟨b, off, ha, fun j hj => by rw [hb.cell (World.block_lt_of_cell? w _ (hc j hj))]; exact hc j hj⟩
theorem eqIntS (w : World) (a a' : Option Addr) (n cap cap' : Nat) (Z : Nat → Int) (h : RdN w a n Z) (h' : RdN w a' n Z) (hn : n ≤ 9223372036854775806) :
    Calls Try.prog 15 #[.slice a n cap, .slice a' n cap'] w fun e w' => e = .returned (.bool true) ∧ ∃ m, w' = w.drewN m := by
  have k1 : Hid (RdN w a n Z) := h
  have k2 : Hid (RdN w a' n Z) := h'
  clear h h'
  go_enter Try.func15, Try.ntmps15
  go_wp2_with fail
  go_loopw [5] (fun i wr => ∃ k m : Nat, k ≤ n ∧ i = .int .i64 k ∧ wr = w.drewN m) (fun i _ => n - (intOf i).toNat)
  case atStart => exact ⟨0, 0, Nat.zero_le _, rfl, rfl⟩
  case round =>
    obtain ⟨k, m, hk, rfl, rfl⟩ := hrel
    by_cases hlt : k < n
    · have hlt' : (k : Int) < (n : Int) := by omega
      rcases k1.out with h0 | ⟨b, off, ha, hc⟩
      · omega
      · rcases k2.out with h0' | ⟨b', off', ha', hc'⟩
        · omega
        · have c1 := hc k hlt
          have c2 := hc' k hlt
          subst ha ha'
          clear hc hc'
          generalize Z k = z at *
          go_wp2_with fail
          go_quiet (fail)
          go_wp2_with fail
          go_roundw
          case rel => exact ⟨k + 1, _, by omega, by go_num, rfl⟩
          case measure => simp [intOf]; omega
    · obtain rfl : k = n := by omega
      go_wp2_with fail
      go_ret
      exact ⟨rfl, _, rfl⟩
/-- Numbers of one's own, from block B on, or nothing. -/
def ON (B : Nat) (W : World) (a : Option Addr) (l : List Int) : Prop :=
  (a = none ∧ l = []) ∨ ∃ g, a = some ⟨g, 0, none⟩ ∧ B ≤ g ∧ ∃ cur : Array Value, W.heap[g]? = some (.cells cur 3 (0, 0)) ∧ l.length ≤ cur.size ∧ cur.toList.take l.length = l.map fun z => .int .i64 z
theorem ON.rd {B : Nat} {W : World} {a : Option Addr} {l : List Int} (h : ON B W a l) : RdN W a l.length (fun j => l.getD j 0) := by
  rcases h with ⟨_, h0⟩ | ⟨g, ha, _, cur, hb, _, hc⟩
  · exact .inl (by rw [h0]; rfl)
  · refine .inr ⟨g, 0, ha, fun j hj => ?_⟩
    have hx : (cur.toList.take l.length)[j]? = (l.map fun z => Value.int .i64 z)[j]? := by rw [hc]
    rw [List.getElem?_take, if_pos hj] at hx
    simp [hj] at hx
    simp [World.cell?, hb, hx, hj]
theorem ON.wt {B : Nat} {W : World} {a : Option Addr} {l : List Int} (h : ON B W a l) : Wt W a l.length := by
  rcases h with ⟨_, h0⟩ | ⟨g, ha, _, cur, hb, hn, _⟩
  · exact .inl (by rw [h0]; rfl)
  · refine .inr ⟨g, 0, ha, fun j hj => ⟨⟨cur[j]'(by omega), ?_⟩, ?_⟩⟩
    · simp [World.cell?, hb]
    · simp [World.frozen?, hb]
theorem ON.of {B : Nat} {W W' : World} {a : Option Addr} {l : List Int} (h : ON B W a l) (he : ∀ g, a = some ⟨g, 0, none⟩ → g < W.heap.size → W'.heap[g]? = W.heap[g]?) : ON B W' a l := by
  rcases h with h0 | ⟨g, ha, hg, cur, hb, r⟩
  · exact .inl h0
  · exact .inr ⟨g, ha, hg, cur, (he g ha (Array.getElem?_eq_some_iff.1 hb).1).trans hb, r⟩
theorem ON.below {B : Nat} {W W' : World} {a : Option Addr} {l : List Int} (h : ON B W a l) (hb : Below W.heap.size W W') : ON B W' a l := h.of fun g _ hg => hb.block g hg
theorem ON.draws {B : Nat} {W : World} {a : Option Addr} {l : List Int} (h : ON B W a l) (m : Nat) : ON B (W.drewN m) a l := h
theorem ON.lt {B : Nat} {W : World} {a : Option Addr} {l : List Int} (h : ON B W a l) : ∀ p, a = some p → B ≤ p.block ∧ p.block < W.heap.size := by
  intro p hp
  rcases h with ⟨h0, _⟩ | ⟨g, ha, hg, cur, hb, _⟩
  · rw [h0] at hp; cases hp
  · rw [ha] at hp
    cases hp
    exact ⟨hg, (Array.getElem?_eq_some_iff.1 hb).1⟩
theorem ON.only {B : Nat} {W W' : World} {a a' : Option Addr} {l : List Int} (h : ON B W a l) (ho : Only W W' a') (hne : ∀ p p', a = some p → a' = some p' → p.block ≠ p'.block) : ON B W' a l :=
  h.of fun g hg hlt => ho.1.block g hlt fun e => by
    cases ha' : a' with
    | none => rw [ha'] at e; cases e
    | some p' =>
      rw [ha'] at e
      have := hne ⟨g, 0, none⟩ p' hg ha'
      simp at e
      exact this e
end Go.Proofs.Ytjelpchkeepmhaa.NumMem2
