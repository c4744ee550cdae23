/-
  The drawing of a body, level by level.
-/
import Derived.Test.YtpofboimlconeaaDrawBody
namespace Go.Proofs.Ytpofboimlconeaa.DrawStep
open Go.RowKit PlainOps NameCalls PlainNum NumCalls Draws DrawKeep InsCalls PlainShape InsMem ShapeCalls DrawIns DrawAny DrawBody

/-- What l03Draw answers. -/
def Drawn (B : Nat) (w0 : World) (blk : Nat) (w : World) (m : Nat) (e : Ending) (w' : World) : Prop := ∃ (v : Value) (l : List I3), e = .returned v ∧ OwnI w.heap.size w' v l ∧ v ≠ .slice none 0 0 ∧ l.length ≤ m ∧ StK B w0 blk w w'
theorem le_round {n pr a c : Nat} (hn : n < 4) (h : a ≤ (4 - (n + 1)) * pr) (hc : c ≤ pr) : a + c ≤ (4 - n) * pr := by
  have : (4 - n) * pr = (4 - (n + 1)) * pr + pr := by rw [show 4 - n = (4 - (n + 1)) + 1 by omega, Nat.add_mul, Nat.one_mul]
  omega
theorem le_all {n pr : Nat} : (4 - n) * pr ≤ 4 * pr := Nat.mul_le_mul_right _ (by omega)
set_option maxRecDepth 20000 in
set_option maxHeartbeats 16000000 in
theorem draw_step {B blk : Nat} {w0 : World} (d : Int) (hd : 0 ≤ d) (hd3' : d ≤ 3) (cb pr : Nat) (h1 : 1 ≤ pr) (hc : d < 3 → 2 * cb + 3 ≤ pr) (hpr : pr ≤ 1000)
    (child : d < 3 → ∀ w, St B w0 blk w → Calls Try.prog 20 #[.pointer (some ⟨blk, 0, none⟩), .int .i64 (d + 1)] w (Drawn B w0 blk w cb)) (w : World) (h : St B w0 blk w) :
    Calls Try.prog 20 #[.pointer (some ⟨blk, 0, none⟩), .int .i64 d] w (Drawn B w0 blk w (4 * pr)) := by
  have hlt := cur_lt h.1
  have D0 : DB B w0 blk w (w.alloc (.cells #[] 27)) (.slice (some ⟨w.heap.size, 0, none⟩) 0 0) [] := ⟨stk_past ⟨h, World.grownBy.refl _ _⟩ hlt ((Below.refl _ _).alloc (Nat.le_refl _) _), World.ownsRow_made w #[] 0 (Nat.le_refl _) (by decide) rfl, by simp⟩
  have child' : Hid (d < 3 → ∀ w, St B w0 blk w → Calls Try.prog 20 #[.pointer (some ⟨blk, 0, none⟩), .int .i64 (d + 1)] w (Drawn B w0 blk w cb)) := child
  have hc' : Hid (d < 3 → 2 * cb + 3 ≤ pr) := hc
  clear child h hc
  go_enter Try.func20, Try.ntmps20
  go_wp2_with (go_at_call_of 21 (Value.int IntKind.i64 5); refine (belowK (B := B) (blk := blk) (w0 := w0) (w1 := w.alloc (.cells #[] 27)) _ ⟨D0.st.1, World.grownBy.refl _ _⟩).mono ?_; rintro e w2 ⟨x, rfl, x0, x1, t2⟩; replace x1 := x1 (by decide); have D2 := D0.drawn hlt t2)
  obtain ⟨N, rfl⟩ : ∃ N : Nat, x = N := ⟨x.toNat, by omega⟩
  have D2' : Hid (DB B w0 blk w w2 (.slice (some ⟨w.heap.size, 0, none⟩) 0 0) []) := D2
  clear D0 D2 t2
  go_loopw [5, 6] (fun vo vn wr => ∃ (n : Nat) (l : List I3), n ≤ 4 ∧ vn = .int .i64 (n : Int) ∧ l.length ≤ (4 - n) * pr ∧ DB B w0 blk w wr vo l) (fun _ vn _ => (intOf vn).toNat)
  case atStart => exact ⟨N, [], by omega, rfl, Nat.zero_le _, D2'.out⟩
  case round =>
    obtain ⟨n, l, hn, rfl, hl, D⟩ := hrel
    clear D2'
    obtain ⟨g, c, hv, hgB, hgw, hcap⟩ := OwnI.form D.own D.nn
    subst hv
    by_cases hn0 : n = 0
    · subst hn0
      have Dh : Hid (DB B w0 blk w wr (.slice (some ⟨g, 0, none⟩) l.length c) l) := D
      clear D
      go_wp2_with fail
      go_ret
      exact ⟨_, l, rfl, Dh.out.own, Dh.out.nn, Nat.le_trans hl le_all, Dh.out.st⟩
    · obtain ⟨n, rfl⟩ : ∃ j, n = j + 1 := ⟨n - 1, by omega⟩
      have hnp : (0 : Int) < ((n + 1 : Nat) : Int) := by omega
      have hla : l.length ≤ 4000 := Nat.le_trans hl (Nat.le_trans le_all (by omega))
      have Dh : Hid (DB B w0 blk w wr (.slice (some ⟨g, 0, none⟩) l.length c) l) := D
      clear D
      by_cases hd3 : d < 3
      · go_wp2_with (first | (go_at_call_of 21 (Value.int IntKind.i64 6); refine (belowK (B := B) (blk := blk) (w0 := w0) (w1 := wr) _ ⟨Dh.out.st.1, World.grownBy.refl _ _⟩).mono ?_; rintro e w3 ⟨y, rfl, y0, y1, t3⟩; have D3 : Hid (DB B w0 blk w w3 (.slice (some ⟨g, 0, none⟩) l.length c) l) := Dh.out.drawn hlt t3; clear t3) | (go_at_call 23; refine (insK D3.out.st.1).mono ?_; rintro e w4 ⟨o, xa, xb, rfl, t4⟩; have D4 : Hid (DB B w0 blk w w4 (.slice (some ⟨g, 0, none⟩) l.length c) l) := D3.out.drawn hlt t4; clear t4))
        · have hcb := hc'.out hd3
          have D4 : Hid (DB B w0 blk w (w3.alloc (.cells #[.int .i64 2, .int .i64 3, .int .i64 4] 3)) (.slice (some ⟨g, 0, none⟩) l.length c) l) := D3.out.alloc hlt _
          have hw3 : blk < w3.heap.size := Nat.lt_of_lt_of_le hlt D3.out.st.2.size
          go_wp2_with (go_at_call_of 21 (Value.int IntKind.i64 3); refine (belowK (B := B) (blk := blk) (w0 := w0) (w1 := w3.alloc (.cells #[.int .i64 2, .int .i64 3, .int .i64 4] 3)) _ ⟨D4.out.st.1, World.grownBy.refl _ _⟩).mono ?_; rintro e w5 ⟨y2, rfl, z0, z1, t5⟩; replace z1 := z1 (by decide); obtain ⟨op, co⟩ := pick3 t5.2 hw3 y2 z0 z1; have D5 : Hid (DB B w0 blk w w5 (.slice (some ⟨g, 0, none⟩) l.length c) l) := D4.out.drawn hlt t5; clear t5 D4)
          by_cases h4 : op = 4
          · have e4 : (op == 4) = true := by simp [h4]
            clear h4
            go_wp2_with (first | (go_at_call_of 21 (Value.int IntKind.i64 2); refine (belowK (B := B) (blk := blk) (w0 := w0) (w1 := w5) _ ⟨D5.out.st.1, World.grownBy.refl _ _⟩).mono ?_; rintro e w6 ⟨y3, rfl, _, _, t0⟩; have D6 : Hid (DB B w0 blk w w6 (.slice (some ⟨g, 0, none⟩) l.length c) l) := D5.out.drawn hlt t0; clear t0 D5) | (at_builtin; refine wp_appL rfl _ _ rfl (D6.out.alloc hlt (.cells #[.int .i64 op, .int .i64 y3, .int .i64 0] 27)) hlt [(op, y3, 0)] (by show l.length + 1 ≤ 1000000; omega) rfl w6.heap.size 1 rfl (news1' w6 w6.heap.size op y3 0 27 rfl) ?_; intro v7 w7 d0; have D7 : Hid (DB B w0 blk w w7 v7 (l ++ [(op, y3, 0)])) := d0; clear d0 D6) | (go_at_call 20; refine (child'.out hd3 _ D7.out.st.1).mono ?_; rintro e w8 ⟨vx, l8, rfl, ox, nx, bbl8, t0⟩; obtain ⟨g8, c8, rfl, _, _, _⟩ := OwnI.form ox nx; have o8 : Hid (OwnI _ w8 (.slice (some ⟨g8, 0, none⟩) l8.length c8) l8) := ox; have D8 : Hid (DB B w0 blk w w8 v7 (l ++ [(op, y3, 0)])) := D7.out.drawn hlt t0; clear t0 D7 ox nx) | (at_builtin; refine wp_appL rfl _ _ rfl D8.out hlt l8 (by simp only [List.length_append, List.length_cons, List.length_nil]; omega) rfl g8 c8 rfl (newsL o8.out) ?_; intro v9 w9 d0; have D9 : Hid (DB B w0 blk w w9 v9 ((l ++ [(op, y3, 0)]) ++ l8)) := d0; clear d0 D8 o8) | (go_at_call_of 21 (Value.int IntKind.i64 2); refine (belowK (B := B) (blk := blk) (w0 := w0) (w1 := w9) _ ⟨D9.out.st.1, World.grownBy.refl _ _⟩).mono ?_; rintro e w10 ⟨y4, rfl, _, _, t0⟩; have D10 : Hid (DB B w0 blk w w10 v9 ((l ++ [(op, y3, 0)]) ++ l8)) := D9.out.drawn hlt t0; clear t0 D9) | (at_builtin; have hy : (y4 == 0) = true := (by assumption); refine wp_appL rfl _ _ rfl (D10.out.alloc hlt (.cells #[.int .i64 5, .int .i64 0, .int .i64 0] 27)) hlt [(5, 0, 0)] (by simp only [List.length_append, List.length_cons, List.length_nil]; omega) rfl w10.heap.size 1 rfl (news1' w10 w10.heap.size 5 0 0 27 rfl) ?_; intro v11 w11 d0; have D11 : Hid (DB B w0 blk w w11 v11 (((l ++ [(op, y3, 0)]) ++ l8) ++ [(5, 0, 0)])) := d0; clear d0 D10) | (at_builtin; have hy : (y4 == 0) = false := (by assumption); refine wp_appL rfl _ _ rfl (D10.out.alloc hlt (.cells #[.int .i64 11, .int .i64 0, .int .i64 0] 27)) hlt [(11, 0, 0)] (by simp only [List.length_append, List.length_cons, List.length_nil]; omega) rfl w10.heap.size 1 rfl (news1' w10 w10.heap.size 11 0 0 27 rfl) ?_; intro v14 w14 d0; have D14 : Hid (DB B w0 blk w w14 v14 (((l ++ [(op, y3, 0)]) ++ l8) ++ [(11, 0, 0)])) := d0; clear d0 D10) | (go_at_call 20; refine (child'.out hd3 _ D11.out.st.1).mono ?_; rintro e w12 ⟨vx, l12, rfl, ox, nx, bbl12, t0⟩; obtain ⟨g12, c12, rfl, _, _, _⟩ := OwnI.form ox nx; have o12 : Hid (OwnI _ w12 (.slice (some ⟨g12, 0, none⟩) l12.length c12) l12) := ox; have D12 : Hid (DB B w0 blk w w12 v11 (((l ++ [(op, y3, 0)]) ++ l8) ++ [(5, 0, 0)])) := D11.out.drawn hlt t0; clear t0 D11 ox nx) | (at_builtin; refine wp_appL rfl _ _ rfl D12.out hlt l12 (by simp only [List.length_append, List.length_cons, List.length_nil]; omega) rfl g12 c12 rfl (newsL o12.out) ?_; intro v13 w13 d0; have D13 : Hid (DB B w0 blk w w13 v13 ((((l ++ [(op, y3, 0)]) ++ l8) ++ [(5, 0, 0)]) ++ l12)) := d0; clear d0 D12 o12) | (at_builtin; refine wp_appL rfl _ _ rfl (D13.out.alloc hlt (.cells #[.int .i64 11, .int .i64 0, .int .i64 0] 27)) hlt [(11, 0, 0)] (by simp only [List.length_append, List.length_cons, List.length_nil]; omega) rfl w13.heap.size 1 rfl (news1' w13 w13.heap.size 11 0 0 27 rfl) ?_; intro v14 w14 d0; have D14 : Hid (DB B w0 blk w w14 v14 (((((l ++ [(op, y3, 0)]) ++ l8) ++ [(5, 0, 0)]) ++ l12) ++ [(11, 0, 0)])) := d0; clear d0 D13))
            · go_roundw
              case rel => exact ⟨n, (((((l ++ [(op, y3, 0)]) ++ l8) ++ [(5, 0, 0)]) ++ l12) ++ [(11, 0, 0)]), by omega, by go_num, Nat.le_trans (by simp only [List.length_append, List.length_cons, List.length_nil]; omega) (le_round (c := pr) (by omega) hl (Nat.le_refl _)), D14.out⟩
              case measure => first | (simp [intOf]; omega) | simp [intOf]
            · go_roundw
              case rel => exact ⟨n, (((l ++ [(op, y3, 0)]) ++ l8) ++ [(11, 0, 0)]), by omega, by go_num, Nat.le_trans (by simp only [List.length_append, List.length_cons, List.length_nil]; omega) (le_round (c := pr) (by omega) hl (Nat.le_refl _)), D14.out⟩
              case measure => first | (simp [intOf]; omega) | simp [intOf]
          · have e4 : (op == 4) = false := by simp [h4]
            clear h4
            go_wp2_with (first | (go_at_call_of 21 (Value.int IntKind.i64 2); refine (belowK (B := B) (blk := blk) (w0 := w0) (w1 := w5) _ ⟨D5.out.st.1, World.grownBy.refl _ _⟩).mono ?_; rintro e w6 ⟨y3, rfl, _, _, t0⟩; have D6 : Hid (DB B w0 blk w w6 (.slice (some ⟨g, 0, none⟩) l.length c) l) := D5.out.drawn hlt t0; clear t0 D5) | (at_builtin; refine wp_appL rfl _ _ rfl (D6.out.alloc hlt (.cells #[.int .i64 op, .int .i64 y3, .int .i64 0] 27)) hlt [(op, y3, 0)] (by show l.length + 1 ≤ 1000000; omega) rfl w6.heap.size 1 rfl (news1' w6 w6.heap.size op y3 0 27 rfl) ?_; intro v7 w7 d0; have D7 : Hid (DB B w0 blk w w7 v7 (l ++ [(op, y3, 0)])) := d0; clear d0 D6) | (go_at_call 20; refine (child'.out hd3 _ D7.out.st.1).mono ?_; rintro e w8 ⟨vx, l8, rfl, ox, nx, bbl8, t0⟩; obtain ⟨g8, c8, rfl, _, _, _⟩ := OwnI.form ox nx; have o8 : Hid (OwnI _ w8 (.slice (some ⟨g8, 0, none⟩) l8.length c8) l8) := ox; have D8 : Hid (DB B w0 blk w w8 v7 (l ++ [(op, y3, 0)])) := D7.out.drawn hlt t0; clear t0 D7 ox nx) | (at_builtin; refine wp_appL rfl _ _ rfl D8.out hlt l8 (by simp only [List.length_append, List.length_cons, List.length_nil]; omega) rfl g8 c8 rfl (newsL o8.out) ?_; intro v9 w9 d0; have D9 : Hid (DB B w0 blk w w9 v9 ((l ++ [(op, y3, 0)]) ++ l8)) := d0; clear d0 D8 o8) | (at_builtin; refine wp_appL rfl _ _ rfl (D9.out.alloc hlt (.cells #[.int .i64 11, .int .i64 0, .int .i64 0] 27)) hlt [(11, 0, 0)] (by simp only [List.length_append, List.length_cons, List.length_nil]; omega) rfl w9.heap.size 1 rfl (news1' w9 w9.heap.size 11 0 0 27 rfl) ?_; intro v14 w14 d0; have D14 : Hid (DB B w0 blk w w14 v14 (((l ++ [(op, y3, 0)]) ++ l8) ++ [(11, 0, 0)])) := d0; clear d0 D9))
            go_roundw
            case rel => exact ⟨n, (((l ++ [(op, y3, 0)]) ++ l8) ++ [(11, 0, 0)]), by omega, by go_num, Nat.le_trans (by simp only [List.length_append, List.length_cons, List.length_nil]; omega) (le_round (c := pr) (by omega) hl (Nat.le_refl _)), D14.out⟩
            case measure => first | (simp [intOf]; omega) | simp [intOf]
        · have hbc : Hid (∀ u, Calls Try.prog 16 #[.int .i64 o] u fun e w' => e = .returned (.bool (bg o)) ∧ u = w') := fun u => spec_begins o u
          cases hb : bg o with
          | true =>
            rw [hb] at hbc
            clear hb
            have Ds : Hid (DB B w0 blk w (w4.alloc (.cells #[.int .i64 o, .int .i64 xa, .int .i64 xb] 27)) (.slice (some ⟨g, 0, none⟩) l.length c) l) := D4.out.alloc hlt _
            go_wp2_with (go_at_call 16; refine (hbc.out _).mono ?_; rintro e w' ⟨rfl, rfl⟩)
            go_roundw
            case rel => exact ⟨n, l, by omega, by go_num, Nat.le_trans (Nat.le_add_right _ 1) (le_round (by omega) hl h1), Ds.out⟩
            case measure => first | (simp [intOf]; omega) | simp [intOf]
          | false =>
            rw [hb] at hbc
            clear hb
            by_cases h5 : o = 5
            · subst h5
              have Ds : Hid (DB B w0 blk w (w4.alloc (.cells #[.int .i64 5, .int .i64 xa, .int .i64 xb] 27)) (.slice (some ⟨g, 0, none⟩) l.length c) l) := D4.out.alloc hlt _
              go_wp2_with (go_at_call 16; refine (hbc.out _).mono ?_; rintro e w' ⟨rfl, rfl⟩)
              go_roundw
              case rel => exact ⟨n, l, by omega, by go_num, Nat.le_trans (Nat.le_add_right _ 1) (le_round (by omega) hl h1), Ds.out⟩
              case measure => first | (simp [intOf]; omega) | simp [intOf]
            · by_cases h11 : o = 11
              · subst h11
                have Ds : Hid (DB B w0 blk w (w4.alloc (.cells #[.int .i64 11, .int .i64 xa, .int .i64 xb] 27)) (.slice (some ⟨g, 0, none⟩) l.length c) l) := D4.out.alloc hlt _
                go_wp2_with (go_at_call 16; refine (hbc.out _).mono ?_; rintro e w' ⟨rfl, rfl⟩)
                go_roundw
                case rel => exact ⟨n, l, by omega, by go_num, Nat.le_trans (Nat.le_add_right _ 1) (le_round (by omega) hl h1), Ds.out⟩
                case measure => first | (simp [intOf]; omega) | simp [intOf]
              · have e5 : (o != 5) = true := by simp [h5]
                have e11 : (o != 11) = true := by simp [h11]
                clear h5 h11
                go_wp2_with (first | (go_at_call 16; refine (hbc.out _).mono ?_; rintro e w' ⟨rfl, rfl⟩) | (at_builtin; refine wp_appL rfl _ _ rfl ((D4.out.alloc hlt (.cells #[.int .i64 o, .int .i64 xa, .int .i64 xb] 27)).alloc hlt (.cells #[.int .i64 o, .int .i64 xa, .int .i64 xb] 27)) hlt [(o, xa, xb)] (by show l.length + 1 ≤ 1000000; omega) rfl (w4.heap.size + 1) 1 rfl (news1' (w4.alloc (.cells #[.int .i64 o, .int .i64 xa, .int .i64 xb] 27)) (w4.heap.size + 1) o xa xb 27 (sz1 _ _)) ?_; intro v5 w5 D5; have D5' : Hid (DB B w0 blk w w5 v5 (l ++ [(o, xa, xb)])) := D5; clear D5))
                go_roundw
                case rel => exact ⟨n, l ++ [(o, xa, xb)], by omega, by go_num, by rw [List.length_append]; exact le_round (by omega) hl h1, D5'.out⟩
                case measure => first | (simp [intOf]; omega) | simp [intOf]
      · go_wp2_with (first | (go_at_call_of 21 (Value.int IntKind.i64 6); refine (belowK (B := B) (blk := blk) (w0 := w0) (w1 := wr) _ ⟨Dh.out.st.1, World.grownBy.refl _ _⟩).mono ?_; rintro e w3 ⟨y, rfl, y0, y1, t3⟩; have D3 : Hid (DB B w0 blk w w3 (.slice (some ⟨g, 0, none⟩) l.length c) l) := Dh.out.drawn hlt t3; clear t3) | (go_at_call 23; refine (insK D3.out.st.1).mono ?_; rintro e w4 ⟨o, xa, xb, rfl, t4⟩; have D4 : Hid (DB B w0 blk w w4 (.slice (some ⟨g, 0, none⟩) l.length c) l) := D3.out.drawn hlt t4; clear t4))
        all_goals
          have hbc : Hid (∀ u, Calls Try.prog 16 #[.int .i64 o] u fun e w' => e = .returned (.bool (bg o)) ∧ u = w') := fun u => spec_begins o u
          cases hb : bg o with
          | true =>
            rw [hb] at hbc
            clear hb
            have Ds : Hid (DB B w0 blk w (w4.alloc (.cells #[.int .i64 o, .int .i64 xa, .int .i64 xb] 27)) (.slice (some ⟨g, 0, none⟩) l.length c) l) := D4.out.alloc hlt _
            go_wp2_with (go_at_call 16; refine (hbc.out _).mono ?_; rintro e w' ⟨rfl, rfl⟩)
            go_roundw
            case rel => exact ⟨n, l, by omega, by go_num, Nat.le_trans (Nat.le_add_right _ 1) (le_round (by omega) hl h1), Ds.out⟩
            case measure => first | (simp [intOf]; omega) | simp [intOf]
          | false =>
            rw [hb] at hbc
            clear hb
            by_cases h5 : o = 5
            · subst h5
              have Ds : Hid (DB B w0 blk w (w4.alloc (.cells #[.int .i64 5, .int .i64 xa, .int .i64 xb] 27)) (.slice (some ⟨g, 0, none⟩) l.length c) l) := D4.out.alloc hlt _
              go_wp2_with (go_at_call 16; refine (hbc.out _).mono ?_; rintro e w' ⟨rfl, rfl⟩)
              go_roundw
              case rel => exact ⟨n, l, by omega, by go_num, Nat.le_trans (Nat.le_add_right _ 1) (le_round (by omega) hl h1), Ds.out⟩
              case measure => first | (simp [intOf]; omega) | simp [intOf]
            · by_cases h11 : o = 11
              · subst h11
                have Ds : Hid (DB B w0 blk w (w4.alloc (.cells #[.int .i64 11, .int .i64 xa, .int .i64 xb] 27)) (.slice (some ⟨g, 0, none⟩) l.length c) l) := D4.out.alloc hlt _
                go_wp2_with (go_at_call 16; refine (hbc.out _).mono ?_; rintro e w' ⟨rfl, rfl⟩)
                go_roundw
                case rel => exact ⟨n, l, by omega, by go_num, Nat.le_trans (Nat.le_add_right _ 1) (le_round (by omega) hl h1), Ds.out⟩
                case measure => first | (simp [intOf]; omega) | simp [intOf]
              · have e5 : (o != 5) = true := by simp [h5]
                have e11 : (o != 11) = true := by simp [h11]
                clear h5 h11
                go_wp2_with (first | (go_at_call 16; refine (hbc.out _).mono ?_; rintro e w' ⟨rfl, rfl⟩) | (at_builtin; refine wp_appL rfl _ _ rfl ((D4.out.alloc hlt (.cells #[.int .i64 o, .int .i64 xa, .int .i64 xb] 27)).alloc hlt (.cells #[.int .i64 o, .int .i64 xa, .int .i64 xb] 27)) hlt [(o, xa, xb)] (by show l.length + 1 ≤ 1000000; omega) rfl (w4.heap.size + 1) 1 rfl (news1' (w4.alloc (.cells #[.int .i64 o, .int .i64 xa, .int .i64 xb] 27)) (w4.heap.size + 1) o xa xb 27 (sz1 _ _)) ?_; intro v5 w5 D5; have D5' : Hid (DB B w0 blk w w5 v5 (l ++ [(o, xa, xb)])) := D5; clear D5))
                go_roundw
                case rel => exact ⟨n, l ++ [(o, xa, xb)], by omega, by go_num, by rw [List.length_append]; exact le_round (by omega) hl h1, D5'.out⟩
                case measure => first | (simp [intOf]; omega) | simp [intOf]
end Go.Proofs.Ytpofboimlconeaa.DrawStep
