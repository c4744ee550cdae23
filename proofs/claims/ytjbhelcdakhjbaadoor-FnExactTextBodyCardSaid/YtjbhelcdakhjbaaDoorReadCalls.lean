/-
  What the specification's TextNum answers at every text of at most 2^20 letters.
-/
import Derived.Test.YtjbhelcdakhjbaaDoorDigits
import Derived.Test.YtjbhelcdakhjbaaDoorPlainRead
import Derived.PlainAid
namespace Go.Proofs.YtjbhelcdakhjbaaDoor.ReadCalls
open Go.RowKit PlainNum NumCalls Digits PlainText PlainRead Go.PlainAid
theorem toList_ne {a b : ByteArray} (h : ¬ a = b) : (a.toList == b.toList) = false := by
  rw [beq_eq_false_iff_ne]
  intro e
  apply h
  apply ByteArray.ext
  have ea := ByteArray.toList_eq a
  have eb := ByteArray.toList_eq b
  rw [ea, eb] at e
  exact Array.toList_inj.1 e
theorem spec_short (s : ByteArray) (hs : s.size ≤ 1048576) (h : s.size < 1 ∨ 11 < s.size) (w : World) :
    Calls Tryd.prog 11 #[.string s] w fun e w' => e = .returned (.tuple #[.int .i64 0, .bool false]) ∧ Below w.heap.size w w' := by
  rcases h with h | h
  · have h1 : (s.size : Int) < 1 := by omega
    go_enter Tryd.func11, Tryd.ntmps11
    go_wp2_with fail
    go_ret2
    exact ⟨rfl, Below.refl _ _⟩
  · have h1 : decide ((s.size : Int) < 1) = false := by simp; omega
    have h2 : (11 : Int) < (s.size : Int) := by omega
    go_enter Tryd.func11, Tryd.ntmps11
    go_wp2_with fail
    go_ret2
    exact ⟨rfl, Below.refl _ _⟩
set_option maxHeartbeats 1000000 in
theorem spec_neg (s : ByteArray) (l : List UInt8) (hl : s.data.toList = l) (h1 : 1 ≤ s.size) (h11 : s.size ≤ 11) (hsz : l.length = s.size) (hneg : l[0]? = some 45) (hb0 : bt s 0 = 45) (w : World) (B : Bool) (v : Int) (hT : T l = (v, B)) :
    Calls Tryd.prog 11 #[.string s] w fun e w' => e = .returned (.tuple #[.int .i64 v, .bool B]) ∧ Below w.heap.size w w' := by
  have q1 : decide ((s.size : Int) < 1) = false := by simp; omega
  have q2 : ¬ (11 : Int) < (s.size : Int) := by omega
  have hbt := get_bt s
  have hb0b : (bt s 0 == 45) = true := by simp [hb0]
  have hT' : Hid (T l = (v, B)) := hT
  have hl' : Hid (s.data.toList = l) := hl
  have hsz' : Hid (l.length = s.size) := hsz
  clear hT hl hsz hb0
  go_enter Tryd.func11, Tryd.ntmps11
  go_wp2_with fail
  go_loop [4, 5] (fun n i => ∃ k N : Nat, k ≤ s.size ∧ i = .int .i64 k ∧ n = .int .i64 N ∧ Spell l 1 k N) (fun _ i => s.size - (intOf i).toNat)
  case atStart => exact ⟨0, 0, Nat.zero_le _, rfl, rfl, good_start l 1⟩
  case round =>
    obtain ⟨k, N, hk, rfl, rfl, hg⟩ := hrel
    have hN := good_lt hg (by omega)
    have hg' : Hid (Spell l 1 k N) := hg
    clear hg
    by_cases hlt : k < s.size
    · have hlt' : (k : Int) < (s.size : Int) := by omega
      by_cases h0 : k = 0
      · subst h0
        go_wp2_with fail
        go_round
        case rel => exact ⟨1, N, by omega, by go_num, rfl, good_sign1 hg'.out⟩
        case measure => simp only [intOf]; omega
      · have h0' : ((k : Int) == 0) = false := by simp; omega
        obtain ⟨c, hc, hcb⟩ := bt_get s k hlt
        rw [hl'.out] at hc
        by_cases hdig : isDig c
        · have c1 : ¬ bt s k < 48 := by unfold isDig at hdig; omega
          have c2 : ¬ 57 < bt s k := by unfold isDig at hdig; omega
          have hval : Hid ((N : Int) * 10 + (bt s k - 48) = ((N * 10 + (c.toNat - 48) : Nat) : Int)) := by show _ = _; unfold isDig at hdig; omega
          have hst : Hid (Spell l 1 (k + 1) (N * 10 + (c.toNat - 48))) := good_step hg'.out (by omega) hc hdig
          clear hc hcb hdig
          go_wp2_with fail
          go_round
          case rel => exact ⟨k + 1, N * 10 + (c.toNat - 48), by omega, by go_num, congrArg (Value.int .i64) hval.out, hst.out⟩
          case measure => simp only [intOf]; omega
        · obtain ⟨rfl, rfl⟩ := pair_eq hT'.out (end_bad (by rw [if_pos hneg]) (by omega) hc hdig)
          by_cases c1 : bt s k < 48
          · clear hc hcb hdig
            go_wp2_with fail
            go_ret2
            exact ⟨rfl, Below.refl _ _⟩
          · have c2 : 57 < bt s k := by unfold isDig at hdig; omega
            clear hc hcb hdig
            go_wp2_with fail
            go_ret2
            exact ⟨rfl, Below.refl _ _⟩
    · obtain rfl : k = s.size := by omega
      have hfin : Hid (Spell l 1 l.length N) := by show Spell l 1 l.length N; rw [hsz'.out]; exact hg'.out
      have hval : Hid (∀ v : Int, Lib.itoa v = l → v = -(N : Int)) := fun v e => by have := end_val (by rw [if_pos hneg]) hfin.out e; rwa [if_pos hneg] at this
      by_cases hW : wrap32 (-(N : Int)) = -(N : Int)
      · have hR : inR (-(N : Int)) := by have := wrap32_lo (-(N : Int)); unfold inR; omega
        have hnt : Hid (∀ w : World, Calls Tryd.prog 18 #[.int .i64 (-(N : Int))] w fun e w' => e = .returned (.string ⟨(Lib.itoa (-(N : Int))).toArray⟩) ∧ Below w.heap.size w w') := by
          have := spec_numText (-(N : Int)); rw [hW] at this; exact this
        have hWb : (wrap32 (-(N : Int)) != -(N : Int)) = false := by simp [hW]
        by_cases hD : Lib.itoa (-(N : Int)) = l
        · obtain ⟨rfl, rfl⟩ := pair_eq hT'.out (T_yes hR hD)
          have hDs : (⟨(Lib.itoa (-(N : Int))).toArray⟩ : ByteArray) = s := by apply ByteArray.ext; rw [hD, ← hl'.out]
          rw [hDs] at hnt
          clear hD hW hR hDs hlt hk
          go_wp2_with (first | (go_at_call 17; refine (spec_wrap _ _).mono ?_; rintro e w' ⟨rfl, rfl⟩) | (go_at_call 18; refine (hnt.out _).mono ?_; rintro e w' ⟨rfl, hbel⟩))
          go_ret2
          exact ⟨rfl, by assumption⟩
        · obtain ⟨rfl, rfl⟩ := pair_eq hT'.out (T_no fun v hv e => hD (by rw [← hval.out v e]; exact e))
          have hDs : ¬ (⟨(Lib.itoa (-(N : Int))).toArray⟩ : ByteArray) = s := fun e => hD (by rw [← hl'.out, ← e])
          have hDb : (ByteArray.toList ⟨(Lib.itoa (-(N : Int))).toArray⟩ == s.toList) = false := toList_ne hDs
          generalize (⟨(Lib.itoa (-(N : Int))).toArray⟩ : ByteArray) = D at *
          clear hD hW hR hlt hk
          go_wp2_with (first | (go_at_call 17; refine (spec_wrap _ _).mono ?_; rintro e w' ⟨rfl, rfl⟩) | (go_at_call 18; refine (hnt.out _).mono ?_; rintro e w' ⟨rfl, hbel⟩))
          go_ret2
          exact ⟨rfl, by assumption⟩
      · obtain ⟨rfl, rfl⟩ := pair_eq hT'.out (T_no fun v hv e => hW (by rw [← hval.out v e]; exact wrap32_in hv.1 hv.2))
        have hWb : (wrap32 (-(N : Int)) != -(N : Int)) = true := by simp [hW]
        clear hW hlt hk
        go_wp2_with (go_at_call 17; refine (spec_wrap _ _).mono ?_; rintro e w' ⟨rfl, rfl⟩)
        go_ret2
        exact ⟨rfl, Below.refl _ _⟩
set_option maxHeartbeats 1000000 in
theorem spec_pos (s : ByteArray) (l : List UInt8) (hl : s.data.toList = l) (h1 : 1 ≤ s.size) (h11 : s.size ≤ 11) (hsz : l.length = s.size) (hneg : ¬ l[0]? = some 45) (hb0 : ¬ bt s 0 = 45) (w : World) (B : Bool) (v : Int) (hT : T l = (v, B)) :
    Calls Tryd.prog 11 #[.string s] w fun e w' => e = .returned (.tuple #[.int .i64 v, .bool B]) ∧ Below w.heap.size w w' := by
  have q1 : decide ((s.size : Int) < 1) = false := by simp; omega
  have q2 : ¬ (11 : Int) < (s.size : Int) := by omega
  have hbt := get_bt s
  have hb0b : (bt s 0 == 45) = false := by simp [hb0]
  have hT' : Hid (T l = (v, B)) := hT
  have hl' : Hid (s.data.toList = l) := hl
  have hsz' : Hid (l.length = s.size) := hsz
  clear hT hl hsz hb0
  go_enter Tryd.func11, Tryd.ntmps11
  go_wp2_with fail
  go_loop [4, 5] (fun n i => ∃ k N : Nat, k ≤ s.size ∧ i = .int .i64 k ∧ n = .int .i64 N ∧ Spell l 0 k N) (fun _ i => s.size - (intOf i).toNat)
  case atStart => exact ⟨0, 0, Nat.zero_le _, rfl, rfl, good_start l 0⟩
  case round =>
    obtain ⟨k, N, hk, rfl, rfl, hg⟩ := hrel
    have hN := good_lt hg (by omega)
    have hg' : Hid (Spell l 0 k N) := hg
    clear hg
    by_cases hlt : k < s.size
    · have hlt' : (k : Int) < (s.size : Int) := by omega
      by_cases h0 : k = 0
      · subst h0
        obtain ⟨c, hc, hcb⟩ := bt_get s 0 hlt
        rw [hl'.out] at hc
        by_cases hdig : isDig c
        · have c1 : ¬ bt s 0 < 48 := by unfold isDig at hdig; omega
          have c2 : ¬ 57 < bt s 0 := by unfold isDig at hdig; omega
          have hval : Hid ((N : Int) * 10 + (bt s 0 - 48) = ((N * 10 + (c.toNat - 48) : Nat) : Int)) := by show _ = _; unfold isDig at hdig; omega
          have hst : Hid (Spell l 0 (0 + 1) (N * 10 + (c.toNat - 48))) := good_step hg'.out (Nat.le_refl _) hc hdig
          clear hc hcb hdig
          go_wp2_with fail
          go_round
          case rel => exact ⟨0 + 1, N * 10 + (c.toNat - 48), by omega, by go_num, congrArg (Value.int .i64) hval.out, hst.out⟩
          case measure => simp only [intOf]; omega
        · obtain ⟨rfl, rfl⟩ := pair_eq hT'.out (end_bad (by rw [if_neg hneg]) (Nat.le_refl _) hc hdig)
          by_cases c1 : bt s 0 < 48
          · clear hc hcb hdig
            go_wp2_with fail
            go_ret2
            exact ⟨rfl, Below.refl _ _⟩
          · have c2 : 57 < bt s 0 := by unfold isDig at hdig; omega
            clear hc hcb hdig
            go_wp2_with fail
            go_ret2
            exact ⟨rfl, Below.refl _ _⟩
      · have h0' : ((k : Int) == 0) = false := by simp; omega
        obtain ⟨c, hc, hcb⟩ := bt_get s k hlt
        rw [hl'.out] at hc
        by_cases hdig : isDig c
        · have c1 : ¬ bt s k < 48 := by unfold isDig at hdig; omega
          have c2 : ¬ 57 < bt s k := by unfold isDig at hdig; omega
          have hval : Hid ((N : Int) * 10 + (bt s k - 48) = ((N * 10 + (c.toNat - 48) : Nat) : Int)) := by show _ = _; unfold isDig at hdig; omega
          have hst : Hid (Spell l 0 (k + 1) (N * 10 + (c.toNat - 48))) := good_step hg'.out (by omega) hc hdig
          clear hc hcb hdig
          go_wp2_with fail
          go_round
          case rel => exact ⟨k + 1, N * 10 + (c.toNat - 48), by omega, by go_num, congrArg (Value.int .i64) hval.out, hst.out⟩
          case measure => simp only [intOf]; omega
        · obtain ⟨rfl, rfl⟩ := pair_eq hT'.out (end_bad (by rw [if_neg hneg]) (by omega) hc hdig)
          by_cases c1 : bt s k < 48
          · clear hc hcb hdig
            go_wp2_with fail
            go_ret2
            exact ⟨rfl, Below.refl _ _⟩
          · have c2 : 57 < bt s k := by unfold isDig at hdig; omega
            clear hc hcb hdig
            go_wp2_with fail
            go_ret2
            exact ⟨rfl, Below.refl _ _⟩
    · obtain rfl : k = s.size := by omega
      have hfin : Hid (Spell l 0 l.length N) := by show Spell l 0 l.length N; rw [hsz'.out]; exact hg'.out
      have hval : Hid (∀ v : Int, Lib.itoa v = l → v = (N : Int)) := fun v e => by have := end_val (by rw [if_neg hneg]) hfin.out e; rwa [if_neg hneg] at this
      by_cases hW : wrap32 ((N : Int)) = (N : Int)
      · have hR : inR ((N : Int)) := by have := wrap32_lo ((N : Int)); unfold inR; omega
        have hnt : Hid (∀ w : World, Calls Tryd.prog 18 #[.int .i64 ((N : Int))] w fun e w' => e = .returned (.string ⟨(Lib.itoa ((N : Int))).toArray⟩) ∧ Below w.heap.size w w') := by
          have := spec_numText ((N : Int)); rw [hW] at this; exact this
        have hWb : (wrap32 ((N : Int)) != (N : Int)) = false := by simp [hW]
        by_cases hD : Lib.itoa ((N : Int)) = l
        · obtain ⟨rfl, rfl⟩ := pair_eq hT'.out (T_yes hR hD)
          have hDs : (⟨(Lib.itoa ((N : Int))).toArray⟩ : ByteArray) = s := by apply ByteArray.ext; rw [hD, ← hl'.out]
          rw [hDs] at hnt
          clear hD hW hR hDs hlt hk
          go_wp2_with (first | (go_at_call 17; refine (spec_wrap _ _).mono ?_; rintro e w' ⟨rfl, rfl⟩) | (go_at_call 18; refine (hnt.out _).mono ?_; rintro e w' ⟨rfl, hbel⟩))
          go_ret2
          exact ⟨rfl, by assumption⟩
        · obtain ⟨rfl, rfl⟩ := pair_eq hT'.out (T_no fun v hv e => hD (by rw [← hval.out v e]; exact e))
          have hDs : ¬ (⟨(Lib.itoa ((N : Int))).toArray⟩ : ByteArray) = s := fun e => hD (by rw [← hl'.out, ← e])
          have hDb : (ByteArray.toList ⟨(Lib.itoa ((N : Int))).toArray⟩ == s.toList) = false := toList_ne hDs
          generalize (⟨(Lib.itoa ((N : Int))).toArray⟩ : ByteArray) = D at *
          clear hD hW hR hlt hk
          go_wp2_with (first | (go_at_call 17; refine (spec_wrap _ _).mono ?_; rintro e w' ⟨rfl, rfl⟩) | (go_at_call 18; refine (hnt.out _).mono ?_; rintro e w' ⟨rfl, hbel⟩))
          go_ret2
          exact ⟨rfl, by assumption⟩
      · obtain ⟨rfl, rfl⟩ := pair_eq hT'.out (T_no fun v hv e => hW (by rw [← hval.out v e]; exact wrap32_in hv.1 hv.2))
        have hWb : (wrap32 ((N : Int)) != (N : Int)) = true := by simp [hW]
        clear hW hlt hk
        go_wp2_with (go_at_call 17; refine (spec_wrap _ _).mono ?_; rintro e w' ⟨rfl, rfl⟩)
        go_ret2
        exact ⟨rfl, Below.refl _ _⟩
theorem spec_textNum (s : ByteArray) (hs : s.size ≤ 1048576) (w : World) :
    Calls Tryd.prog 11 #[.string s] w fun e w' => e = .returned (.tuple #[.int .i64 (T s.data.toList).1, .bool (T s.data.toList).2]) ∧ Below w.heap.size w w' := by
  have hsz : s.data.toList.length = s.size := by cases s; rfl
  by_cases h : s.size < 1 ∨ 11 < s.size
  · have e : T s.data.toList = (0, false) := end_len (by rw [hsz]; exact h)
    rw [e]
    exact spec_short s hs h w
  · obtain ⟨c, hc, hcb⟩ := bt_get s 0 (by omega)
    have h45 : (45 : UInt8).toNat = 45 := rfl
    by_cases hn : s.data.toList[0]? = some 45
    · have hb0 : bt s 0 = 45 := by
        rw [hn] at hc
        rw [← hcb, ← Option.some.inj hc]; rfl
      exact spec_neg s _ rfl (by omega) (by omega) hsz hn hb0 w _ _ rfl
    · have hb0 : ¬ bt s 0 = 45 := fun e => by
        apply hn
        rw [hc]
        have : c = 45 := UInt8.toNat_inj.1 (by rw [h45]; omega)
        rw [this]
      exact spec_pos s _ rfl (by omega) (by omega) hsz hn hb0 w _ _ rfl
end Go.Proofs.YtjbhelcdakhjbaaDoor.ReadCalls
