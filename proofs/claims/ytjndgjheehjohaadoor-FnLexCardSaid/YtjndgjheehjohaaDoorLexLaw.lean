/-
  The walk of the exact law of Lex.
-/
import Derived.Test.YtjndgjheehjohaaDoorSpecLexC
import Derived.Test.YtjndgjheehjohaaDoorMarkTok
namespace Go.Proofs.YtjndgjheehjohaaDoor.LexLaw
open Go.RowKit InsMem PlainOps PlainLex PlainScan NameCalls WordCalls SignCalls LexImpl OwnTok LexFace MarkTok

theorem lexL_len : ∀ (f : Nat) (l : List UInt8) (a : Nat), (outL (lexL f l a)).length ≤ l.length
  | 0, l, a => by simp [lexL, outL]
  | f + 1, l, a => by
    unfold lexL
    by_cases h0 : l = []
    · rw [if_pos h0]; simp [outL]
    · rw [if_neg h0]
      cases hg : gap l with
      | none => simp [outL]
      | some g =>
        simp only
        by_cases hg0 : g ≠ 0
        · rw [if_pos hg0]
          have := lexL_len f (l.drop g) (a + g)
          rw [List.length_drop] at this
          omega
        · rw [if_neg hg0]
          by_cases hc : (one l).code ≠ 0
          · rw [if_pos hc]; simp [outL]
          · rw [if_neg hc]
            have h1 := lexL_len f (l.drop (one l).size) (a + (one l).size)
            have h2 := one_pos (l := l) (by omega)
            rw [List.length_drop] at h1
            cases hr : lexL f (l.drop (one l).size) (a + (one l).size) with
            | ok x =>
              rw [hr] at h1
              simp only [outL] at h1
              simp only [Ans.cons, outL, List.length_cons]
              omega
            | bad c b => simp [Ans.cons, outL]
theorem lexT_len (l : List UInt8) : (outL (lexT l)).length ≤ 6000 := by
  unfold lexT
  split
  · rename_i h
    have := lexL_len (l.drop 0).length (l.drop 0) 0
    unfold lexAt
    rw [List.drop_zero] at this ⊢
    omega
  · simp [outL]
/-- A list of tokens of one's own, from block B on, or nothing. -/
def OT (B : Nat) (w : World) (a : Option Addr) (toks : List T4) : Prop :=
  (a = none ∧ toks = []) ∨ ∃ g N F, a = some ⟨g, 0, none⟩ ∧ B ≤ g ∧ w.rowIs g 27 N F ∧ toks.length * 4 ≤ N ∧ ∀ j, j < toks.length → F (j * 4) = .int .i64 (MemTok.f0At (toks.map toE) j) ∧ F (j * 4 + 1) = .int .i64 (MemTok.f1At (toks.map toE) j) ∧ F (j * 4 + 2) = .string (MemTok.f2At (toks.map toE) j) ∧ F (j * 4 + 3) = .int .i64 (MemTok.f3At (toks.map toE) j)
theorem own_ot {B : Nat} {w : World} {v : Value} {l : List T4} (h : OwnT B w v l) : ∃ a cap, v = .slice a l.length cap ∧ OT B w a l := by
  rcases h.2 with ⟨hv, h0⟩ | ⟨g, cap, cur, hv, hg, hh, r1, r2, r3, r4⟩
  · have h1 : l = [] := List.length_eq_zero_iff.1 h0
    exact ⟨none, 0, by rw [hv, h1]; rfl, .inl ⟨rfl, h1⟩⟩
  · have hrow : w.rowIs g 27 cur.size (fun j => cur.getD j undef) := ⟨cur, hh, rfl, fun i hi => by simp [Array.getD, hi]⟩
    obtain ⟨a', c', hv', hrd, _⟩ := own_rdT h
    rw [hv] at hv'
    injection hv' with hv1 hv2 hv3
    subst hv1
    have hc := World.ownsRow.cells h (g := g) (by rw [hv]; rfl)
    have hlen := cellsT_len l
    refine ⟨_, cap, hv, .inr ⟨g, cur.size, _, rfl, hg, hrow, ?_, fun j hj => ?_⟩⟩
    · by_cases h0 : l.length = 0
      · omega
      · have hj : (cellsT l)[l.length * 4 - 1]? = some ((cellsT l)[l.length * 4 - 1]'(by omega)) := List.getElem?_eq_getElem _
        have hcell := hc _ _ hj
        rw [add_n] at hcell
        have : (w.cell? ⟨g, 0 + (l.length * 4 - 1), none⟩).isSome := by rw [hcell]; rfl
        unfold World.cell? at this
        rw [hh] at this
        simp only at this
        by_cases hlt : l.length * 4 - 1 < cur.size
        · omega
        · rw [Nat.zero_add, Array.getElem?_eq_none (by omega)] at this
          simp at this
    · rcases hrd with h0 | ⟨b, off, ha, hcs⟩
      · rw [List.length_map] at h0; omega
      · simp only [Option.some.injEq, Addr.mk.injEq, and_true] at ha
        obtain ⟨rfl, rfl⟩ := ha
        obtain ⟨c0, c1, c2, c3⟩ := hcs j (by rw [List.length_map]; exact hj)
        have at' : ∀ i v, w.cell? ⟨g, i, none⟩ = some v → cur.getD i undef = v := fun i v hcell => by
          unfold World.cell? at hcell
          rw [hh] at hcell
          simp only at hcell
          by_cases hlt : i < cur.size
          · rw [Array.getElem?_eq_getElem hlt] at hcell
            simp [Array.getD, hlt]
            exact Option.some.inj hcell
          · rw [Array.getElem?_eq_none (by omega)] at hcell
            cases hcell
        rw [Nat.zero_add] at c0 c1 c2 c3
        exact ⟨at' _ _ c0, at' _ _ c1, at' _ _ c2, at' _ _ c3⟩
theorem OT.of {B : Nat} {w w' : World} {a : Option Addr} {l : List T4} (h : OT B w a l) (hb : ∀ g, a = some ⟨g, 0, none⟩ → B ≤ g → g < w.heap.size → w'.heap[g]? = w.heap[g]?) : OT B w' a l := by
  rcases h with h | ⟨g, N, F, ha, hg, hr, h1, h2⟩
  · exact .inl h
  · exact .inr ⟨g, N, F, ha, hg, hr.of_block (hb g ha hg hr.lt), h1, h2⟩
theorem OT.below {B : Nat} {w w' : World} {a : Option Addr} {l : List T4} (h : OT B w a l) (hb : Below w.heap.size w w') : OT B w' a l := h.of fun g _ _ hlt => hb.block g hlt
theorem OT.lt {B : Nat} {w : World} {a : Option Addr} {l : List T4} (h : OT B w a l) : ∀ p, a = some p → B ≤ p.block ∧ p.block < w.heap.size := by
  intro p hp
  rcases h with ⟨h0, _⟩ | ⟨g, N, F, ha, hg, hr, _⟩
  · rw [h0] at hp; cases hp
  · rw [ha] at hp; cases hp; exact ⟨hg, hr.lt⟩
theorem OT.rd {B : Nat} {w : World} {a : Option Addr} {l : List T4} (h : OT B w a l) : MemTok.Rd w a (l.map toE) := by
  rcases h with ⟨_, h0⟩ | ⟨g, N, F, ha, hg, hr, h1, h2⟩
  · exact .inl (by rw [h0]; rfl)
  · refine .inr ⟨g, 0, ha, fun j hj => ?_⟩
    rw [List.length_map] at hj
    obtain ⟨e0, e1, e2, e3⟩ := h2 j hj
    rw [Nat.zero_add]
    exact ⟨by rw [hr.cell (by omega), e0], by rw [hr.cell (by omega), e1], by rw [hr.cell (by omega), e2], by rw [hr.cell (by omega), e3]⟩
/-- The marks stand. -/
def MK (w : World) (a : Option Addr) (n : Nat) : Prop := n = 0 ∨ ∃ g, a = some ⟨g, 0, none⟩ ∧ ∀ j, j < n * 4 → w.cell? ⟨g, j, none⟩ = some (mkV j)
theorem MK.later {w w' : World} {a : Option Addr} {n : Nat} (h : MK w a n) (hb : Below w.heap.size w w') : MK w' a n := by
  rcases h with h | ⟨g, ha, hc⟩
  · exact .inl h
  · exact .inr ⟨g, ha, fun j hj => by rw [hb.cell (World.block_lt_of_cell? w _ (hc j hj))]; exact hc j hj⟩
theorem eqOT {B B' : Nat} (u : World) (a a' : Option Addr) (c c' : Nat) (l : List T4) (h : OT B u a l) (h' : OT B' u a' l) (hn : l.length ≤ 6000) :
    Calls Tryd.prog 18 #[.slice a l.length c, .slice a' l.length c'] u fun e w' => e = .returned (.bool true) ∧ Below u.heap.size u w' := by
  have := MemTok.eqS u a a' c c' (l.map toE) h.rd h'.rd (by rw [List.length_map]; omega)
  rw [List.length_map] at this
  exact this
theorem markOT {B : Nat} (u : World) (a : Option Addr) (c : Nat) (l : List T4) (h : OT B u a l) (hn : l.length ≤ 6000) :
    Calls Tryd.prog 21 #[.slice a l.length c, .int .i64 1] u fun e w' => e = .returned (.int .i64 ((1 + l.length * 4 : Nat) : Int)) ∧ MK w' a l.length ∧ u.grownBy w' (a.map (·.block)) := by
  rcases h with ⟨h0, h1⟩ | ⟨g, N, F, ha, hg, hr, h1, h2⟩
  · subst h1
    exact (markTok0 u c a).mono fun e w' ⟨he, hw⟩ => ⟨he, .inl rfl, by rw [← hw]; exact grown_refl _ _⟩
  · subst ha
    refine (markTokS u g N l.length c F hr h1 (by omega)).mono fun e w' ⟨he, hr', hgr⟩ => ⟨he, .inr ⟨g, rfl, fun j hj => ?_⟩, hgr⟩
    rw [hr'.cell (by omega), if_pos hj]
theorem heldOT (u : World) (a : Option Addr) (c n : Nat) (h : MK u a n) (hn : n ≤ 6000) :
    Calls Tryd.prog 22 #[.slice a n c, .int .i64 1] u fun e w' => e = .returned (.int .i64 ((1 + n * 4 : Nat) : Int)) ∧ Below u.heap.size u w' := by
  rcases h with h | ⟨g, ha, hc⟩
  · subst h
    exact (heldTok0 u c a).mono fun e w' ⟨he, hw⟩ => ⟨he, by rw [hw]; exact Below.refl _ _⟩
  · subst ha
    exact heldTokS u g n c hc (by omega)
set_option maxRecDepth 20000 in
set_option maxHeartbeats 8000000 in
theorem fnExactLex (s : ByteArray) (w : World) (hs : s.size ≤ maxLen) (hw : WTab w) (hst : STab w) (hx : MaxL w) :
    Calls Tryd.prog 6 #[.string s] w fun e w' => e = .returned (.bool true) ∧ Below w.heap.size w w' := by
  unfold maxLen at hs
  by_cases hbig : s.size ≤ 1048576
  · have hb0 : ¬ (1048576 : Int) < (s.size : Int) := by omega
    have hn6 := lexT_len s.data.toList
    have kS : Hid (∀ u, Calls Tryd.prog 19 #[.string s] u fun e w' => ∃ a c, e = .returned (.tuple #[.slice a (outL (lexT s.data.toList)).length c, .int .i64 (outC (lexT s.data.toList) : Nat), .int .i64 (outA (lexT s.data.toList) : Nat)]) ∧ OT u.heap.size w' a (outL (lexT s.data.toList)) ∧ Below u.heap.size u w') := fun u => (SpecLexC.spec_lex s _ rfl u hbig).mono fun e w' ⟨v, he, ho, hb⟩ => by
      obtain ⟨a, c, rfl, hot⟩ := own_ot ho
      exact ⟨a, c, he, hot, hb⟩
    have kI : Hid (∀ u, Below w.heap.size w u → Calls Tryd.prog 20 #[.string s] u fun e w' => ∃ a c, e = .returned (.tuple #[.slice a (outL (lexT s.data.toList)).length c, .int .i64 (outC (lexT s.data.toList) : Nat), .int .i64 (outA (lexT s.data.toList) : Nat)]) ∧ OT u.heap.size w' a (outL (lexT s.data.toList)) ∧ Below u.heap.size u w') := fun u hu => (impl_lex s _ rfl u hbig (hx.later hu) (hw.later hu) (hst.later hu)).mono fun e w' ⟨v, he, ho, hb⟩ => by
      obtain ⟨a, c, rfl, hot⟩ := own_ot ho
      exact ⟨a, c, he, hot, hb⟩
    clear hw hst hx
    generalize outL (lexT s.data.toList) = L at *
    generalize (outC (lexT s.data.toList) : Int) = C at *
    generalize (outA (lexT s.data.toList) : Int) = A at *
    have kE : Hid (∀ (u : World) (B B' : Nat) (a a' : Option Addr) (c c' : Nat), OT B u a L → OT B' u a' L → Calls Tryd.prog 18 #[.slice a L.length c, .slice a' L.length c'] u fun e w' => e = .returned (.bool true) ∧ Below u.heap.size u w') := fun u B B' a a' c c' h h' => eqOT u a a' c c' L h h' hn6
    have kM : Hid (∀ (u : World) (B : Nat) (a : Option Addr) (c : Nat), OT B u a L → Calls Tryd.prog 21 #[.slice a L.length c, .int .i64 1] u fun e w' => e = .returned (.int .i64 ((1 + L.length * 4 : Nat) : Int)) ∧ MK w' a L.length ∧ u.grownBy w' (a.map (·.block))) := fun u B a c h => markOT u a c L h hn6
    have kH : Hid (∀ (u : World) (a : Option Addr) (c : Nat), MK u a L.length → Calls Tryd.prog 22 #[.slice a L.length c, .int .i64 1] u fun e w' => e = .returned (.int .i64 ((1 + L.length * 4 : Nat) : Int)) ∧ Below u.heap.size u w') := fun u a c h => heldOT u a c _ h hn6
    have hM : ¬ (((1 + L.length * 4 : Nat) : Int) < 0) := by omega
    generalize ((1 + L.length * 4 : Nat) : Int) = M at *
    go_enter Tryd.func6, Tryd.ntmps6
    go_wp2_with (first
      | (go_at_call 19; refine (kS.out _).mono ?_; rintro e w1 ⟨a0, c0, rfl, o1, q1⟩; clear kS; have O1 : Hid (OT w.heap.size w1 a0 L) := o1; have b1 : Hid (Below w.heap.size w w1) := q1; clear o1 q1)
      | (go_at_call 20; refine (kI.out _ b1.out).mono ?_; rintro e w2 ⟨a2, c2, rfl, o2, q2⟩; have O2 : Hid (OT w1.heap.size w2 a2 L) := o2; have P2 : Hid (OT w.heap.size w2 a0 L) := O1.out.below q2; have b2 : Hid (Below w.heap.size w w2) := b1.out.trans (q2.mono b1.out.size); clear o2 q2))
    go_wp2_with (go_at_call 18; refine (kE.out _ _ _ _ _ _ _ O2.out P2.out).mono ?_; rintro e w3 ⟨rfl, q3⟩; have O3 : Hid (OT w1.heap.size w3 a2 L) := O2.out.below q3; have P3 : Hid (OT w.heap.size w3 a0 L) := P2.out.below q3; have b3 : Hid (Below w.heap.size w w3) := b2.out.trans (q3.mono b2.out.size); clear q3)
    go_wp2_with (go_at_call 21; refine (kM.out _ _ _ _ O3.out).mono ?_; rintro e w4 ⟨rfl, m4, g4⟩; clear kM; have M4 : Hid (MK w4 a2 L.length) := m4; have P4 : Hid (OT w.heap.size w4 a0 L) := P3.out.of (fun g hg _ hlt => g4.block g hlt (fun e => by have h1 := (O1.out.lt ⟨g, 0, none⟩ hg).2; cases ha : a2 with | none => (rw [ha] at e; cases e) | some p => (rw [ha] at e; have h2 := (O3.out.lt p ha).1; simp at e h1; omega))); have b4 : Hid (Below w.heap.size w w4) := b3.out.grown g4 b3.out.size (fun k hk => by cases ha : a2 with | none => (rw [ha] at hk; cases hk) | some p => (rw [ha] at hk; have h2 := (O3.out.lt p ha).1; have h3 := b1.out.size; simp at hk; omega)); clear m4 g4)
    go_wp2_with (go_at_call 22; refine (kH.out _ _ _ M4.out).mono ?_; rintro e w5 ⟨rfl, q5⟩; have M5 : Hid (MK w5 a2 L.length) := M4.out.later q5; have P5 : Hid (OT w.heap.size w5 a0 L) := P4.out.below q5; have b5 : Hid (Below w.heap.size w w5) := b4.out.trans (q5.mono b4.out.size); clear q5)
    go_wp2_with (go_at_call 20; refine (kI.out _ b5.out).mono ?_; rintro e w6 ⟨a6, c6, rfl, o6, q6⟩; have O6 : Hid (OT w5.heap.size w6 a6 L) := o6; have P6 : Hid (OT w.heap.size w6 a0 L) := P5.out.below q6; have M6 : Hid (MK w6 a2 L.length) := M5.out.later q6; have b6 : Hid (Below w.heap.size w w6) := b5.out.trans (q6.mono b5.out.size); clear o6 q6)
    go_wp2_with (go_at_call 18; refine (kE.out _ _ _ _ _ _ _ O6.out P6.out).mono ?_; rintro e w7 ⟨rfl, q7⟩; have M7 : Hid (MK w7 a2 L.length) := M6.out.later q7; have b7 : Hid (Below w.heap.size w w7) := b6.out.trans (q7.mono b6.out.size); clear q7)
    go_wp2_with (go_at_call 22; refine (kH.out _ _ _ M7.out).mono ?_; rintro e w8 ⟨rfl, q8⟩; have b8 : Hid (Below w.heap.size w w8) := b7.out.trans (q8.mono b7.out.size); clear q8)
    go_ret
    exact ⟨rfl, b8.out⟩
  · have hb0 : (1048576 : Int) < (s.size : Int) := by omega
    go_enter Tryd.func6, Tryd.ntmps6
    go_wp2_with fail
    go_ret
    exact ⟨rfl, Below.refl _ _⟩
end Go.Proofs.YtjndgjheehjohaaDoor.LexLaw
