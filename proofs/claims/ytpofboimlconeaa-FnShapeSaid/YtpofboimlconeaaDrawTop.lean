/-
  The drawing of a body from the top, right or not, and of the argument of ShapeOk.
-/
import Derived.Test.YtpofboimlconeaaDrawStep
namespace Go.Proofs.Ytpofboimlconeaa.DrawTop
open Go.RowKit PlainOps NameCalls PlainNum NumCalls Draws DrawKeep InsCalls PlainShape InsMem ShapeCalls DrawIns DrawAny DrawBody DrawStep

theorem cellsI_get : ∀ (l : List I3) (j : Nat), j < l.length → (cellsI l)[j * 3]? = some (.int .i64 (oAt l j)) ∧ (cellsI l)[j * 3 + 1]? = some (.int .i64 (aAt l j)) ∧ (cellsI l)[j * 3 + 2]? = some (.int .i64 (bAt l j))
  | [], _, h => by cases h
  | x :: l, 0, _ => ⟨rfl, rfl, rfl⟩
  | x :: l, j + 1, h => by
    obtain ⟨h0, h1, h2⟩ := cellsI_get l j (by simpa using h)
    have e : cellsI (x :: l) = .int .i64 x.1 :: .int .i64 x.2.1 :: .int .i64 x.2.2 :: cellsI l := rfl
    rw [e, show (j + 1) * 3 = j * 3 + 1 + 1 + 1 by omega]
    exact ⟨h0, h1, h2⟩
theorem rd_own {B : Nat} {w : World} {g c : Nat} {l : List I3} (h : OwnI B w (.slice (some ⟨g, 0, none⟩) l.length c) l) : RdI w (some ⟨g, 0, none⟩) l := by
  refine .inr ⟨g, 0, rfl, fun j hj => ?_⟩
  obtain ⟨h0, h1, h2⟩ := cellsI_get l j hj
  rw [Nat.zero_add]
  exact ⟨(World.ownsRow.cellAt h _ (by omega)).trans h0, (World.ownsRow.cellAt h _ (by omega)).trans h1, (World.ownsRow.cellAt h _ (by omega)).trans h2⟩
theorem rd_tail {w : World} {g : Nat} {x : I3} {l : List I3} (h : RdI w (some ⟨g, 0, none⟩) (x :: l)) : RdI w (some ⟨g, 3, none⟩) l := by
  rcases h with h | ⟨b, off, ha, hc⟩
  · cases h
  · simp only [Option.some.injEq, Addr.mk.injEq, and_true] at ha
    obtain ⟨rfl, rfl⟩ := ha
    refine .inr ⟨g, 3, rfl, fun j hj => ?_⟩
    obtain ⟨h0, h1, h2⟩ := hc (j + 1) (by simpa using hj)
    rw [show 0 + (j + 1) * 3 = 3 + j * 3 by omega] at h0 h1 h2
    exact ⟨h0, h1, h2⟩
theorem rd_tail' {w : World} {g : Nat} {l : List I3} (h : RdI w (some ⟨g, 0, none⟩) l) (h0 : 0 < l.length) : RdI w (some ⟨g, 3, none⟩) l.tail := by
  cases l with
  | nil => cases h0
  | cons x l => exact rd_tail h
theorem draw3 {B blk : Nat} {w0 w : World} (h : St B w0 blk w) : Calls Try.prog 20 #[.pointer (some ⟨blk, 0, none⟩), .int .i64 3] w (Drawn B w0 blk w 4) :=
  draw_step 3 (by omega) (by omega) 0 1 (by omega) (fun h => by omega) (by omega) (fun h => by omega) w h
theorem draw2 {B blk : Nat} {w0 w : World} (h : St B w0 blk w) : Calls Try.prog 20 #[.pointer (some ⟨blk, 0, none⟩), .int .i64 2] w (Drawn B w0 blk w 44) :=
  draw_step 2 (by omega) (by omega) 4 11 (by omega) (fun _ => by omega) (by omega) (fun _ _ h => draw3 h) w h
theorem draw1 {B blk : Nat} {w0 w : World} (h : St B w0 blk w) : Calls Try.prog 20 #[.pointer (some ⟨blk, 0, none⟩), .int .i64 1] w (Drawn B w0 blk w 364) :=
  draw_step 1 (by omega) (by omega) 44 91 (by omega) (fun _ => by omega) (by omega) (fun _ _ h => draw2 h) w h
theorem draw0 {B blk : Nat} {w0 w : World} (h : St B w0 blk w) : Calls Try.prog 20 #[.pointer (some ⟨blk, 0, none⟩), .int .i64 0] w (Drawn B w0 blk w 2924) :=
  draw_step 0 (by omega) (by omega) 364 731 (by omega) (fun _ => by omega) (by omega) (fun _ _ h => draw1 h) w h
/-- A body was drawn. -/
def Body (B : Nat) (w0 : World) (e : Ending) (w' : World) : Prop := ∃ (a : Option Addr) (c : Nat) (l : List I3), e = .returned (.slice a l.length c) ∧ RdI w' a l ∧ l.length ≤ 3000 ∧ Below B w0 w'
set_option maxRecDepth 20000 in
set_option maxHeartbeats 8000000 in
theorem anyBody {B blk : Nat} {w0 w : World} (h : St B w0 blk w) : Calls Try.prog 15 #[.pointer (some ⟨blk, 0, none⟩)] w (Body B w0) := by
  have hlt := cur_lt h.1
  go_enter Try.func15, Try.ntmps15
  go_wp2_with (first | (go_at_call 20; refine (draw0 h).mono ?_; rintro e w1 ⟨v, l, rfl, o1, n1, b1, t1⟩; obtain ⟨g, c, rfl, _, _, hcap⟩ := OwnI.form o1 n1; have D1 : Hid (DB B w0 blk w w1 (.slice (some ⟨g, 0, none⟩) l.length c) l) := ⟨t1, o1, n1⟩; clear t1 o1 n1) | (go_at_call_of 21 (Value.int IntKind.i64 8); refine (belowK (B := B) (blk := blk) (w0 := w0) (w1 := w1) _ ⟨D1.out.st.1, World.grownBy.refl _ _⟩).mono ?_; rintro e w2 ⟨x, rfl, _, _, t2⟩; have D2 : Hid (DB B w0 blk w w2 (.slice (some ⟨g, 0, none⟩) l.length c) l) := D1.out.drawn hlt t2; clear t2 D1) | (go_at_call 22; refine (anyInsK D2.out.st.1).mono ?_; rintro e w3 ⟨o, xa, xb, rfl, t3⟩; have D3 : Hid (DB B w0 blk w w3 (.slice (some ⟨g, 0, none⟩) l.length c) l) := D2.out.drawn hlt t3; clear t3 D2) | (at_builtin; refine wp_appL rfl _ _ rfl (D3.out.alloc hlt (.cells #[.int .i64 o, .int .i64 xa, .int .i64 xb] 27)) hlt [(o, xa, xb)] (by show l.length + 1 ≤ 1000000; omega) rfl w3.heap.size 1 rfl (news1' w3 w3.heap.size o xa xb 27 rfl) ?_; intro v4 w4 d0; have D4 : Hid (DB B w0 blk w w4 v4 (l ++ [(o, xa, xb)])) := d0; obtain ⟨g4, c4, rfl, _, _, _⟩ := OwnI.form D4.out.own D4.out.nn; clear d0 D3))
  all_goals first
    | (exfalso; have q1 : (x == 0) = true := (by assumption); have q2 : x = 1 := (by assumption); rw [q2] at q1; exact absurd q1 (by decide))
    | (go_ret; exact ⟨_, _, l ++ [(o, xa, xb)], by rw [List.length_append]; rfl, rd_own D4.out.own, by rw [List.length_append]; show l.length + 1 ≤ 3000; omega, D4.out.st.1.2⟩)
    | (go_ret; exact ⟨_, _, l, rfl, rd_own D2.out.own, by omega, D2.out.st.1.2⟩)
    | (go_ret; exact ⟨_, _, l.tail, by rw [List.length_tail]; rfl, rd_tail' (rd_own D2.out.own) (by omega), by rw [List.length_tail]; omega, D2.out.st.1.2⟩)
    | (go_ret; exact ⟨_, _, [], by rw [show l.length - 1 = 0 by omega]; rfl, .inl rfl, by simp, D2.out.st.1.2⟩)
theorem drawShape {B cap len : Nat} {a : Option Addr} {w0 w : World} (hs : Src B w0 a len) (hB : B ≤ w0.heap.size) (hb : Below B w0 w) :
    Calls Try.prog 5 #[.slice a len cap] w (Body B w0) := by
  go_enter Try.func5, Try.ntmps5
  go_wp2_with (first | (go_at_call 14; refine (newB hs hB hb).mono ?_; rintro e w1 ⟨blk, rfl, hst⟩) | (go_at_call 15; refine (anyBody hst).mono ?_; rintro e w2 ⟨a2, c2, l, rfl, hr, hl, hbb⟩))
  go_ret
  exact ⟨_, _, l, rfl, hr, hl, hbb⟩
end Go.Proofs.Ytpofboimlconeaa.DrawTop
