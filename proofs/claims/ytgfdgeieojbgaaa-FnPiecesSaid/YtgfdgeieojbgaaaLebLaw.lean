/-
  The law of numbers in pieces: a number that is written is read again.
-/
import Derived.Test.YtgfdgeieojbgaaaPutLaws
import Derived.Test.YtgfdgeieojbgaaaSpecGets
import Derived.Test.YtgfdgeieojbgaaaImplGets
import Derived.Test.YtgfdgeieojbgaaaPlainTrip
import Derived.Test.YtgfdgeieojbgaaaDrawBytes
namespace Go.Proofs.Ytgfdgeieojbgaaa.LebLaw
open Go.RowKit PlainNum PlainLeb PlainGet PlainTrip NumCalls ByteMem PutU PutULaw PutLaws Draws DrawBytes

theorem own_blk2 {B : Nat} {W : World} {v : Value} {bs : List UInt8} (h : PutU.Own B W v bs) (hne : v ≠ .slice none 0 0) : ∃ g cap, v = .slice (some ⟨g, 0, none⟩) bs.length cap ∧ B ≤ g ∧ Blk W g bs ∧ bs.length ≤ cap := by
  rcases h.2 with ⟨hv, _⟩ | ⟨g, cap, cur, hv, hg, hb, hn, hm, hs, hc⟩
  · exact absurd hv hne
  · exact ⟨g, cap, hv, hg, ⟨cur, hb, by omega, by simpa using hc⟩, hn⟩
theorem own_ne {B : Nat} {W : World} {v : Value} {bs : List UInt8} (h : PutU.Own B W v bs) (hne : 0 < bs.length) : v ≠ .slice none 0 0 := by
  rcases h.2 with ⟨_, h0⟩ | ⟨g, cap, cur, hv, _⟩
  · omega
  · rw [hv]; intro e; cases e
set_option maxHeartbeats 2000000 in
theorem drawPutU {B cap len : Nat} {a : Option Addr} {w0 w : World} (hs : Src B w0 a len) (hB : B ≤ w0.heap.size) (hb : Below B w0 w) :
    Calls Try.prog 9 #[.slice a len cap] w fun e w' => ∃ (g c : Nat) (bs : List UInt8) (n : Int), e = .returned (.tuple #[.slice (some ⟨g, 0, none⟩) bs.length c, .int .i64 n]) ∧ B ≤ g ∧ Blk w' g bs ∧ bs.length ≤ 4 ∧ bs.length ≤ c ∧ Below B w0 w' := by
  go_enter Try.func9, Try.ntmps9
  go_wp2_with (go_at_call 25; refine (newB hs hB hb).mono ?_; rintro e w1 ⟨blk, rfl, h1⟩)
  have l1 := cur_lt h1.1
  go_wp2_with (go_at_call 26; refine (bytesS 4 (by omega) h1).mono ?_; rintro e w2 ⟨v, bs, rfl, o2, v2, n2, h2⟩; obtain ⟨g, c, rfl, hg, k2, hc⟩ := own_blk2 o2 v2)
  have hk2 : StK B w0 blk w2 w2 := ⟨h2, World.grownBy.refl _ _⟩
  go_wp2_with (go_at_call 27; refine (rawK hk2).mono ?_; rintro e w3 ⟨n, rfl, h3⟩)
  go_ret2
  exact ⟨g, c, bs, n, rfl, by have := h1.1.1; omega, k2.of (h3.2.block g k2.lt (by simp; omega)), n2, hc, h3.1.2⟩
set_option maxRecDepth 100000 in
set_option maxHeartbeats 8000000 in
theorem fnLeb (a : Option Addr) (len cap : Nat) (w : World) (hs : Src w.heap.size w a len) :
    Calls Try.prog 3 #[.slice a len cap] w fun e w' => e = .returned (.bool true) ∧ Below w.heap.size w w' := by
  have hl63 := hs.1
  by_cases hbig : (1048576 : Int) < (len : Int)
  · go_enter Try.func3, Try.ntmps3
    go_wp2_with fail
    go_ret
    exact ⟨rfl, Below.refl _ _⟩
  · have hs' : Hid (Src w.heap.size w a len) := hs
    clear hs
    go_enter Try.func3, Try.ntmps3
    go_wp2_with (go_at_call 9; refine (drawPutU hs'.out (Nat.le_refl _) (Below.refl _ _)).mono ?_; rintro e w1 ⟨g, c, bs, n, rfl, hg, k1, n1, hc, c1⟩)
    have hx : (n % 4294967296).toNat < 4294967296 := by omega
    have hxe : (((n % 4294967296).toNat : Nat) : Int) = n % 4294967296 := by omega
    obtain ⟨u1, u2, u3, u4⟩ := uv_ok hx
    have up := Lib.uvarint_pos (n % 4294967296).toNat
    have hy := wrap32_lo n
    obtain ⟨s1, s2, s3, s4⟩ := sl_ok hy
    have sp : 0 < (sleb 5 (wrap32 n)).length := sleb_pos 4 _
    have aU := ansU_yes (bs := bs ++ Lib.uvarint (n % 4294967296).toNat) (at' := (bs.length : Int)) ⟨by omega, by rw [List.length_append]; omega, by rw [tk_behind, u1]; exact u3⟩
    have aS := ansS_yes (bs := bs ++ sleb 5 (wrap32 n)) (at' := (bs.length : Int)) ⟨by omega, by rw [List.length_append]; omega, by rw [tk_behind, s1]; exact s3⟩
    rw [tk_behind, u1, u2, hxe] at aU
    rw [tk_behind, s1, s2] at aS
    have pU := fun (w : World) (h : RdB w (some ⟨g, 0, none⟩) bs) => ImplPut.impl_putU w ⟨g, 0, none⟩ c bs n h (by omega)
    have pS := fun (w : World) (h : RdB w (some ⟨g, 0, none⟩) bs) => ImplPutS.impl_putS w ⟨g, 0, none⟩ c bs n h (by omega)
    have qU := fun (w : World) (h : RdB w (some ⟨g, 0, none⟩) bs) => spec_putU w ⟨g, 0, none⟩ c bs n h (by omega)
    have qS := fun (w : World) (h : RdB w (some ⟨g, 0, none⟩) bs) => PutS.spec_putS w ⟨g, 0, none⟩ c bs n h (by omega)
    obtain ⟨U, hU⟩ : ∃ U, bs ++ Lib.uvarint (n % 4294967296).toNat = U := ⟨_, rfl⟩
    obtain ⟨S, hS⟩ : ∃ S, bs ++ sleb 5 (wrap32 n) = S := ⟨_, rfl⟩
    have lU : U.length = bs.length + (Lib.uvarint (n % 4294967296).toNat).length := by rw [← hU, List.length_append]
    have lS : S.length = bs.length + (sleb 5 (wrap32 n)).length := by rw [← hS, List.length_append]
    rw [hU] at aU
    rw [hS] at aS
    simp only [hU, hS] at pU pS qU qS
    generalize (Lib.uvarint (n % 4294967296).toNat).length = mu at *
    generalize (sleb 5 (wrap32 n)).length = ms at *
    clear u1 u2 u3 s1 s2 s3 hU hS
    have gU : Hid (∀ (w : World) (g cap : Nat), Blk w g U → U.length ≤ cap → Calls Try.prog 14 #[.slice (some ⟨g, 0, none⟩) (bs.length + mu) cap, .int .i64 (bs.length : Int)] w fun e w' => e = .returned (.tuple #[.int .i64 (n % 4294967296), .int .i64 ((bs.length : Int) + mu), .bool true]) ∧ Below w.heap.size w w') := fun w g cap hk hcap => by
      have := ImplGets.impl_getU w g 0 cap U (bs.length : Int) hcap (by omega) hk.lt (fun j hj => by rw [Nat.zero_add]; exact hk.cell j hj)
      rwa [aU, lU] at this
    have gS : Hid (∀ (w : World) (g cap : Nat), Blk w g S → S.length ≤ cap → Calls Try.prog 15 #[.slice (some ⟨g, 0, none⟩) (bs.length + ms) cap, .int .i64 (bs.length : Int)] w fun e w' => e = .returned (.tuple #[.int .i64 (wrap32 n), .int .i64 ((bs.length : Int) + ms), .bool true]) ∧ Below w.heap.size w w') := fun w g cap hk hcap => by
      have := ImplGets.impl_getS w g 0 cap S (bs.length : Int) hcap (by omega) hk.lt (fun j hj => by rw [Nat.zero_add]; exact hk.cell j hj)
      rwa [aS, lS] at this
    have pU' : Hid _ := pU
    have pS' : Hid _ := pS
    have qU' : Hid _ := qU
    have qS' : Hid _ := qS
    clear pU pS qU qS aU aS
    go_wp2_with (go_at_call 10; refine (pU'.out _ k1.rd).mono ?_; rintro e w2 ⟨vu, rfl, o2, b2⟩; obtain ⟨gu, cu, rfl, hgu, ku, hcu⟩ := own_blk2 o2 (own_ne o2 (by omega)))
    have k2 := k1.below b2
    have c2 := c1.trans (b2.mono c1.size)
    clear o2
    go_wp2_with (go_at_call 11; refine (pS'.out _ k2.rd).mono ?_; rintro e w3 ⟨vs, rfl, o3, b3⟩; obtain ⟨gs, cs, rfl, hgs, ks, hcs⟩ := own_blk2 o3 (own_ne o3 (by omega)))
    have k3 := k2.below b3
    have ku3 := ku.below b3
    have c3 := c2.trans (b3.mono c2.size)
    clear o3
    go_wp2_with (first | (go_at_call 12; refine (qU'.out _ k3.rd).mono ?_; rintro e w4 ⟨v4, rfl, o4, b4⟩; obtain ⟨g4, c4', rfl, _, _, _⟩ := own_blk2 o4 (own_ne o4 (by omega)); have k4 := k3.below b4; have ku4 := ku3.below b4; have ks4 := ks.below b4; have c4 := c3.trans (b4.mono c3.size); clear o4) | (go_at_call 13; refine (qS'.out _ k4.rd).mono ?_; rintro e w5 ⟨v5, rfl, o5, b5⟩; obtain ⟨g5, c5', rfl, _, _, _⟩ := own_blk2 o5 (own_ne o5 (by omega)); have ku5 := ku4.below b5; have ks5 := ks4.below b5; have c5 := c4.trans (b5.mono c4.size); clear o5))
    go_wp2_with (go_at_call 14; refine (gU.out _ _ _ ku5 (by omega)).mono ?_; rintro e w6 ⟨rfl, b6⟩)
    have ks6 := ks5.below b6
    have c6 := c5.trans (b6.mono c5.size)
    go_wp2_with (go_at_call 15; refine (gS.out _ _ _ ks6 (by omega)).mono ?_; rintro e w7 ⟨rfl, b7⟩)
    have c7 := c6.trans (b7.mono c6.size)
    go_wp2_with (first | (go_at_call 16; refine (impl_plain _ _).mono ?_; rintro e w' ⟨rfl, rfl⟩) | (go_at_call 17; refine (impl_wrap _ _).mono ?_; rintro e w' ⟨rfl, rfl⟩))
    go_ret
    refine ⟨?_, c7⟩
    simp
    omega
end Go.Proofs.Ytgfdgeieojbgaaa.LebLaw
