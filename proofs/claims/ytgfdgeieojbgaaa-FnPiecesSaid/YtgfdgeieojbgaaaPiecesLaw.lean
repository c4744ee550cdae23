/-
  The law of pieces that are read: written again they take no more bytes.
-/
import Derived.Test.YtgfdgeieojbgaaaLebDraw
import Derived.Test.YtgfdgeieojbgaaaPlainSize
namespace Go.Proofs.Ytgfdgeieojbgaaa.PiecesLaw
open Go.RowKit PlainNum PlainLeb PlainGet PlainTrip PlainSize NumCalls ByteMem PutU PutULaw PutLaws Draws DrawBytes LebLaw LebDraw

theorem ansU_cases (bs : List UInt8) (p : Int) :
    (∃ (N L : Nat), ansU bs p = .tuple #[.int .i64 (N : Int), .int .i64 (p + L), .bool true] ∧ N < 4294967296 ∧ (Lib.uvarint N).length ≤ L ∧ L ≤ 5 ∧ 0 ≤ p ∧ p < bs.length) ∨ ansU bs p = .tuple #[.int .i64 0, .int .i64 0, .bool false] := by
  by_cases h : 0 ≤ p ∧ p < bs.length ∧ okU (tk bs p)
  · exact .inl ⟨_, _, ansU_yes h, okU_lt h.2.2 (tk_length _ _), uv_len h.2.2.1, tk_length _ _, h.1, h.2.1⟩
  · exact .inr (ansU_no h)
theorem ansS_cases (bs : List UInt8) (p : Int) :
    (∃ (M : Int) (L : Nat), ansS bs p = .tuple #[.int .i64 M, .int .i64 (p + L), .bool true] ∧ (-2147483648 ≤ M ∧ M ≤ 2147483647) ∧ (sleb 5 M).length ≤ L ∧ L ≤ 5 ∧ 0 ≤ p ∧ p < bs.length) ∨ ansS bs p = .tuple #[.int .i64 0, .int .i64 0, .bool false] := by
  by_cases h : 0 ≤ p ∧ p < bs.length ∧ okS (tk bs p)
  · exact .inl ⟨_, _, ansS_yes h, okS_lt h.2.2 (tk_length _ _), sl_len h.2.2 (tk_length _ _), tk_length _ _, h.1, h.2.1⟩
  · exact .inr (ansS_no h)
set_option maxHeartbeats 2000000 in
theorem drawGetU {B cap len : Nat} {a : Option Addr} {w0 w : World} (hs : Src B w0 a len) (hB : B ≤ w0.heap.size) (hb : Below B w0 w) :
    Calls Try.prog 18 #[.slice a len cap] w fun e w' => ∃ (g c : Nat) (bs : List UInt8) (p : Int), e = .returned (.tuple #[.slice (some ⟨g, 0, none⟩) bs.length c, .int .i64 p]) ∧ B ≤ g ∧ Blk w' g bs ∧ bs.length ≤ 20 ∧ bs.length ≤ c ∧ Below B w0 w' := by
  go_enter Try.func18, Try.ntmps18
  go_wp2_with (go_at_call 25; refine (newB hs hB hb).mono ?_; rintro e w1 ⟨blk, rfl, h1⟩)
  go_wp2_with (go_at_call 40; refine (lebS h1).mono ?_; rintro e w2 ⟨g, c, bs, p, rfl, h2⟩)
  go_ret2
  exact ⟨g, c, bs, p, rfl, h2⟩
theorem lenU (w : World) (N : Nat) (hN : N < 4294967296) : Calls Try.prog 10 #[.slice none 0 0, .int .i64 (N : Int)] w fun e w' => ∃ a c, e = .returned (.slice a (Lib.uvarint N).length c) ∧ Below w.heap.size w w' :=
  (ImplPut.impl_putU_nil w (N : Int)).mono fun e w' ⟨v, he, ho, hb⟩ => by
    rw [show ((N : Int) % 4294967296).toNat = N by omega] at ho
    obtain ⟨a, c, e'⟩ := ImplPut.own_form ho
    exact ⟨a, c, by rw [he, e'], hb⟩
theorem lenS (w : World) (M : Int) (hM : -2147483648 ≤ M ∧ M ≤ 2147483647) : Calls Try.prog 11 #[.slice none 0 0, .int .i64 M] w fun e w' => ∃ a c, e = .returned (.slice a (sleb 5 M).length c) ∧ Below w.heap.size w w' :=
  (ImplPutS.impl_putS_nil w M).mono fun e w' ⟨v, he, ho, hb⟩ => by
    rw [wrap32_in hM.1 hM.2] at ho
    obtain ⟨a, c, e'⟩ := ImplPut.own_form ho
    exact ⟨a, c, by rw [he, e'], hb⟩
set_option maxRecDepth 100000 in
set_option maxHeartbeats 8000000 in
theorem fnPieces (a : Option Addr) (len cap : Nat) (w : World) (hs : Src w.heap.size w a len) :
    Calls Try.prog 4 #[.slice a len cap] w fun e w' => e = .returned (.bool true) ∧ Below w.heap.size w w' := by
  have hl63 := hs.1
  by_cases hbig : (1048576 : Int) < (len : Int)
  · go_enter Try.func4, Try.ntmps4
    go_wp2_with fail
    go_ret
    exact ⟨rfl, Below.refl _ _⟩
  · have hs' : Hid (Src w.heap.size w a len) := hs
    clear hs
    go_enter Try.func4, Try.ntmps4
    go_wp2_with (go_at_call 18; refine (drawGetU hs'.out (Nat.le_refl _) (Below.refl _ _)).mono ?_; rintro e w1 ⟨g, c, bs, p, rfl, hg, k1, n1, hc, c1⟩)
    have iU := fun (w : World) (k : Blk w g bs) => ImplGets.impl_getU w g 0 c bs p hc (by omega) k.lt (fun j hj => by rw [Nat.zero_add]; exact k.cell j hj)
    have iS := fun (w : World) (k : Blk w g bs) => ImplGets.impl_getS w g 0 c bs p hc (by omega) k.lt (fun j hj => by rw [Nat.zero_add]; exact k.cell j hj)
    have sU := fun (w : World) (k : Blk w g bs) => SpecGets.spec_getU w g 0 c bs p (fun j hj => by rw [Nat.zero_add]; exact k.cell j hj) (by omega)
    have sS := fun (w : World) (k : Blk w g bs) => SpecGets.spec_getS w g 0 c bs p (fun j hj => by rw [Nat.zero_add]; exact k.cell j hj) (by omega)
    rcases ansU_cases bs p with ⟨N, L, aU, hN, uL, L5, p0, p1⟩ | aU
    all_goals rcases ansS_cases bs p with ⟨M, L', aS, hM, sL, L5', p0', p1'⟩ | aS
    all_goals
      simp only [aU] at iU sU
      simp only [aS] at iS sS
      have iU' : Hid _ := iU
      have iS' : Hid _ := iS
      have sU' : Hid _ := sU
      have sS' : Hid _ := sS
      clear iU iS sU sS aU aS
    all_goals
      go_wp2_with (go_at_call 14; refine (iU'.out _ k1).mono ?_; rintro e w2 ⟨rfl, b2⟩)
      have k2 := k1.below b2
      have c2 := c1.trans (b2.mono c1.size)
      go_wp2_with (go_at_call 15; refine (iS'.out _ k2).mono ?_; rintro e w3 ⟨rfl, b3⟩)
      have k3 := k2.below b3
      have c3 := c2.trans (b3.mono c2.size)
      go_wp2_with (first | (go_at_call 19; refine (sU'.out _ k3).mono ?_; rintro e w' ⟨rfl, rfl⟩) | (go_at_call 20; refine (sS'.out _ k3).mono ?_; rintro e w' ⟨rfl, rfl⟩))
    · skip
      have hNp : (N : Int) % 4294967296 = (N : Int) := by omega
      have pU : Hid (∀ w, Calls Try.prog 10 #[.slice none 0 0, .int .i64 (N : Int)] w fun e w' => ∃ a c, e = .returned (.slice a (Lib.uvarint N).length c) ∧ Below w.heap.size w w') := fun w => lenU w N hN
      generalize (Lib.uvarint N).length = mu at *
      have uL' : ¬ (L : Int) < (mu : Int) := by omega
      have hMw : wrap32 M = M := wrap32_in hM.1 hM.2
      have pS : Hid (∀ w, Calls Try.prog 11 #[.slice none 0 0, .int .i64 M] w fun e w' => ∃ a c, e = .returned (.slice a (sleb 5 M).length c) ∧ Below w.heap.size w w') := fun w => lenS w M hM
      generalize (sleb 5 M).length = ms at *
      have sL' : (ms : Int) ≤ (L' : Int) := by omega
      go_wp2_with (first | (go_at_call 16; refine (impl_plain _ _).mono ?_; rw [hNp]; rintro e w' ⟨rfl, rfl⟩) | (go_at_call 10; refine (pU.out _).mono ?_; rintro e w4 ⟨a4, q4, rfl, b4⟩) | (go_at_call 17; refine (impl_wrap _ _).mono ?_; rw [hMw]; rintro e w' ⟨rfl, rfl⟩) | (go_at_call 11; refine (pS.out _).mono ?_; rintro e w5 ⟨a5, q5, rfl, b5⟩))
      go_ret
      exact ⟨by simp; omega, (c3.trans (b4.mono c3.size)).trans (b5.mono (c3.trans (b4.mono c3.size)).size)⟩
    · skip
      have hNp : (N : Int) % 4294967296 = (N : Int) := by omega
      have pU : Hid (∀ w, Calls Try.prog 10 #[.slice none 0 0, .int .i64 (N : Int)] w fun e w' => ∃ a c, e = .returned (.slice a (Lib.uvarint N).length c) ∧ Below w.heap.size w w') := fun w => lenU w N hN
      generalize (Lib.uvarint N).length = mu at *
      have uL' : ¬ (L : Int) < (mu : Int) := by omega
      go_wp2_with (first | (go_at_call 16; refine (impl_plain _ _).mono ?_; rw [hNp]; rintro e w' ⟨rfl, rfl⟩) | (go_at_call 10; refine (pU.out _).mono ?_; rintro e w4 ⟨a4, q4, rfl, b4⟩))
      go_ret
      exact ⟨rfl, c3.trans (b4.mono c3.size)⟩
    · skip
      have hMw : wrap32 M = M := wrap32_in hM.1 hM.2
      have pS : Hid (∀ w, Calls Try.prog 11 #[.slice none 0 0, .int .i64 M] w fun e w' => ∃ a c, e = .returned (.slice a (sleb 5 M).length c) ∧ Below w.heap.size w w') := fun w => lenS w M hM
      generalize (sleb 5 M).length = ms at *
      have sL' : (ms : Int) ≤ (L' : Int) := by omega
      go_wp2_with (first | (go_at_call 17; refine (impl_wrap _ _).mono ?_; rw [hMw]; rintro e w' ⟨rfl, rfl⟩) | (go_at_call 11; refine (pS.out _).mono ?_; rintro e w5 ⟨a5, q5, rfl, b5⟩))
      go_ret
      exact ⟨by simp; omega, c3.trans (b5.mono c3.size)⟩
    · go_ret
      exact ⟨rfl, c3⟩
end Go.Proofs.Ytgfdgeieojbgaaa.PiecesLaw
