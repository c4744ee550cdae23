/-
  Names and signs: what the functions on words answer when they are called, the program's and the specification's. (Written by my wordgen.py.)
-/
import Derived.Test.YtjndgjheehjohaaDoorCharCalls
import Derived.Test.YtjndgjheehjohaaDoorNameCalls
import Derived.Test.YtjndgjheehjohaaDoorShelf
namespace Go.Proofs.YtjndgjheehjohaaDoor.WordCalls
open Go.RowKit PlainOps PlainLex NameCalls CharCalls

theorem tx_list (l : List UInt8) : (tx l).data.toList = l := by simp [tx]
theorem of_list {s : ByteArray} {l : List UInt8} (h : s.data.toList = l) : s = tx l := by
  subst h
  simp [tx]
theorem size_list {s : ByteArray} {l : List UInt8} (h : s.data.toList = l) : s.size = l.length := by subst h; rfl
theorem nil_iff {s : ByteArray} {l : List UInt8} (h : s.data.toList = l) : s = ⟨#[]⟩ ↔ l = [] := by
  subst h
  refine ⟨fun e => by rw [e], fun e => ?_⟩
  apply ByteArray.ext
  apply Array.ext'
  rw [e]
/-- A byte of a text. -/
theorem byte_at {s : ByteArray} {l : List UInt8} (h : s.data.toList = l) (k : Nat) (hk : k < s.size) : ∃ x, l[k]? = some x ∧ s[k]'hk = x := by
  subst h
  exact ⟨s.data.toList[k]'(by simpa using hk), List.getElem?_eq_getElem _, rfl⟩
set_option maxHeartbeats 2000000 in
theorem impl_stretchName (s : ByteArray) (l : List UInt8) (hl : s.data.toList = l) (w : World) (hm : s.size ≤ 1048576) :
    Calls Tryd.prog 60 #[.string s, .func (.func 69) #[] #[]] w fun e w' => e = .returned (.int .i64 (stretch inName l : Nat)) ∧ w = w' := by
  obtain ⟨R, hR⟩ : ∃ R : Nat, stretch inName l = R := ⟨_, rfl⟩
  have hR' : Hid (stretch inName l = R) := hR
  rw [hR]
  clear hR
  have hsz : Hid (s.size = l.length) := size_list hl
  have hl' : Hid (s.data.toList = l) := hl
  clear hl
  go_enter Tryd.func60, Tryd.ntmps60
  go_wp2_with fail
  go_loop [8] (fun i => ∃ k : Nat, k ≤ s.size ∧ i = .int .i64 k ∧ (∀ j, j < k → ∃ x, l[j]? = some x ∧ inName x = true)) (fun i => s.size - (intOf i).toNat)
  case atStart => exact ⟨0, by omega, rfl, fun j hj => by omega⟩
  case round =>
    obtain ⟨k, hk, rfl, hall⟩ := hrel
    have hall' : Hid (∀ j, j < k → ∃ x, l[j]? = some x ∧ inName x = true) := hall
    clear hall
    by_cases hlt : k < s.size
    · have hlt' : (k : Int) < (s.size : Int) := by omega
      obtain ⟨x, hx, hxi⟩ := byte_at hl'.out k hlt
      have hx' : Hid (l[k]? = some x) := hx
      clear hx
      have kc : Hid (∀ u, Calls Tryd.prog 69 #[.int .u8 (x.toNat : Int)] u fun e w' => e = .returned (.bool (inName x)) ∧ u = w') := fun u => impl_isInName x u
      cases hb : inName x with
      | true =>
        rw [hb] at kc
        have hb' : Hid (inName x = true) := hb
        clear hb
        go_wp2_with (go_at_call 69; refine (kc.out _).mono ?_; rintro e u0 ⟨rfl, rfl⟩)
        go_round
        case rel => exact ⟨k + 1, by omega, by go_num, fun j hj => by
          by_cases e : j = k
          · rw [e]; exact ⟨x, hx'.out, hb'.out⟩
          · exact hall'.out j (by omega)⟩
        case measure => simp only [intOf]; omega
      | false =>
        rw [hb] at kc
        have he : Hid (R = k) := hR'.out.symm.trans (stretch_is hall'.out (.inr ⟨x, hx'.out, hb⟩))
        clear hb
        go_wp2_with (go_at_call 69; refine (kc.out _).mono ?_; rintro e u0 ⟨rfl, rfl⟩)
        go_ret
        exact ⟨by rw [he.out]; rfl, rfl⟩
    · obtain rfl : k = s.size := by omega
      have he : Hid (R = s.size) := hR'.out.symm.trans (stretch_is hall'.out (.inl hsz.out))
      go_wp2_with fail
      go_ret
      exact ⟨by rw [he.out]; rfl, rfl⟩
set_option maxHeartbeats 2000000 in
theorem impl_stretchGap (s : ByteArray) (l : List UInt8) (hl : s.data.toList = l) (w : World) (hm : s.size ≤ 1048576) :
    Calls Tryd.prog 60 #[.string s, .func (.func 61) #[] #[]] w fun e w' => e = .returned (.int .i64 (stretch isGap l : Nat)) ∧ w = w' := by
  obtain ⟨R, hR⟩ : ∃ R : Nat, stretch isGap l = R := ⟨_, rfl⟩
  have hR' : Hid (stretch isGap l = R) := hR
  rw [hR]
  clear hR
  have hsz : Hid (s.size = l.length) := size_list hl
  have hl' : Hid (s.data.toList = l) := hl
  clear hl
  go_enter Tryd.func60, Tryd.ntmps60
  go_wp2_with fail
  go_loop [8] (fun i => ∃ k : Nat, k ≤ s.size ∧ i = .int .i64 k ∧ (∀ j, j < k → ∃ x, l[j]? = some x ∧ isGap x = true)) (fun i => s.size - (intOf i).toNat)
  case atStart => exact ⟨0, by omega, rfl, fun j hj => by omega⟩
  case round =>
    obtain ⟨k, hk, rfl, hall⟩ := hrel
    have hall' : Hid (∀ j, j < k → ∃ x, l[j]? = some x ∧ isGap x = true) := hall
    clear hall
    by_cases hlt : k < s.size
    · have hlt' : (k : Int) < (s.size : Int) := by omega
      obtain ⟨x, hx, hxi⟩ := byte_at hl'.out k hlt
      have hx' : Hid (l[k]? = some x) := hx
      clear hx
      have kc : Hid (∀ u, Calls Tryd.prog 61 #[.int .u8 (x.toNat : Int)] u fun e w' => e = .returned (.bool (isGap x)) ∧ u = w') := fun u => impl_isBlank x u
      cases hb : isGap x with
      | true =>
        rw [hb] at kc
        have hb' : Hid (isGap x = true) := hb
        clear hb
        go_wp2_with (go_at_call 61; refine (kc.out _).mono ?_; rintro e u0 ⟨rfl, rfl⟩)
        go_round
        case rel => exact ⟨k + 1, by omega, by go_num, fun j hj => by
          by_cases e : j = k
          · rw [e]; exact ⟨x, hx'.out, hb'.out⟩
          · exact hall'.out j (by omega)⟩
        case measure => simp only [intOf]; omega
      | false =>
        rw [hb] at kc
        have he : Hid (R = k) := hR'.out.symm.trans (stretch_is hall'.out (.inr ⟨x, hx'.out, hb⟩))
        clear hb
        go_wp2_with (go_at_call 61; refine (kc.out _).mono ?_; rintro e u0 ⟨rfl, rfl⟩)
        go_ret
        exact ⟨by rw [he.out]; rfl, rfl⟩
    · obtain rfl : k = s.size := by omega
      have he : Hid (R = s.size) := hR'.out.symm.trans (stretch_is hall'.out (.inl hsz.out))
      go_wp2_with fail
      go_ret
      exact ⟨by rw [he.out]; rfl, rfl⟩
set_option maxHeartbeats 2000000 in
theorem impl_stretchDigit (s : ByteArray) (l : List UInt8) (hl : s.data.toList = l) (w : World) (hm : s.size ≤ 1048576) :
    Calls Tryd.prog 60 #[.string s, .func (.func 63) #[] #[]] w fun e w' => e = .returned (.int .i64 (stretch digit l : Nat)) ∧ w = w' := by
  obtain ⟨R, hR⟩ : ∃ R : Nat, stretch digit l = R := ⟨_, rfl⟩
  have hR' : Hid (stretch digit l = R) := hR
  rw [hR]
  clear hR
  have hsz : Hid (s.size = l.length) := size_list hl
  have hl' : Hid (s.data.toList = l) := hl
  clear hl
  go_enter Tryd.func60, Tryd.ntmps60
  go_wp2_with fail
  go_loop [8] (fun i => ∃ k : Nat, k ≤ s.size ∧ i = .int .i64 k ∧ (∀ j, j < k → ∃ x, l[j]? = some x ∧ digit x = true)) (fun i => s.size - (intOf i).toNat)
  case atStart => exact ⟨0, by omega, rfl, fun j hj => by omega⟩
  case round =>
    obtain ⟨k, hk, rfl, hall⟩ := hrel
    have hall' : Hid (∀ j, j < k → ∃ x, l[j]? = some x ∧ digit x = true) := hall
    clear hall
    by_cases hlt : k < s.size
    · have hlt' : (k : Int) < (s.size : Int) := by omega
      obtain ⟨x, hx, hxi⟩ := byte_at hl'.out k hlt
      have hx' : Hid (l[k]? = some x) := hx
      clear hx
      have kc : Hid (∀ u, Calls Tryd.prog 63 #[.int .u8 (x.toNat : Int)] u fun e w' => e = .returned (.bool (digit x)) ∧ u = w') := fun u => impl_isDigit x u
      cases hb : digit x with
      | true =>
        rw [hb] at kc
        have hb' : Hid (digit x = true) := hb
        clear hb
        go_wp2_with (go_at_call 63; refine (kc.out _).mono ?_; rintro e u0 ⟨rfl, rfl⟩)
        go_round
        case rel => exact ⟨k + 1, by omega, by go_num, fun j hj => by
          by_cases e : j = k
          · rw [e]; exact ⟨x, hx'.out, hb'.out⟩
          · exact hall'.out j (by omega)⟩
        case measure => simp only [intOf]; omega
      | false =>
        rw [hb] at kc
        have he : Hid (R = k) := hR'.out.symm.trans (stretch_is hall'.out (.inr ⟨x, hx'.out, hb⟩))
        clear hb
        go_wp2_with (go_at_call 63; refine (kc.out _).mono ?_; rintro e u0 ⟨rfl, rfl⟩)
        go_ret
        exact ⟨by rw [he.out]; rfl, rfl⟩
    · obtain rfl : k = s.size := by omega
      have he : Hid (R = s.size) := hR'.out.symm.trans (stretch_is hall'.out (.inl hsz.out))
      go_wp2_with fail
      go_ret
      exact ⟨by rw [he.out]; rfl, rfl⟩
theorem impl_wordSize (s : ByteArray) (l : List UInt8) (hl : s.data.toList = l) (w : World) (hm : s.size ≤ 1048576) :
    Calls Tryd.prog 45 #[.string s] w fun e w' => e = .returned (.int .i64 (wordSize l : Nat)) ∧ w = w' := by
  have hl' : Hid (s.data.toList = l) := hl
  by_cases h0 : s = ⟨#[]⟩
  · have he : Hid (wordSize l = 0) := by show _ = _; rw [(nil_iff hl).1 h0]; rfl
    clear hl
    subst h0
    go_enter Tryd.func45, Tryd.ntmps45
    go_wp2_with fail
    go_ret
    exact ⟨by rw [he.out]; rfl, rfl⟩
  · obtain ⟨n1, n2⟩ := str_nil h0
    cases hc : l with
    | nil => exact absurd ((nil_iff hl).2 hc) h0
    | cons c r =>
      have h0s : 0 < s.size := by rw [size_list hl, hc]; simp
      obtain ⟨x, hx, hxi⟩ := byte_at hl 0 h0s
      have hxc : x = c := by rw [hc] at hx; simpa using hx.symm
      subst hxc
      have ks : Hid (∀ u, Calls Tryd.prog 65 #[.int .u8 (x.toNat : Int)] u fun e w' => e = .returned (.bool (small x)) ∧ u = w') := fun u => impl_isSmall x u
      have kn : Hid (∀ u, Calls Tryd.prog 60 #[.string s, .func (.func 69) #[] #[]] u fun e w' => e = .returned (.int .i64 (stretch inName (x :: r) : Nat)) ∧ u = w') := fun u => impl_stretchName s _ (hl.trans hc) u hm
      have hw : Hid (wordSize (x :: r) = if small x = true then stretch inName (x :: r) else 0) := rfl
      clear hl hx hc h0
      generalize wordSize (x :: r) = R at *
      generalize stretch inName (x :: r) = Z at *
      cases hb : small x with
      | true =>
        rw [hb] at ks
        have he : Hid (R = Z) := by show _ = _; rw [hw.out, if_pos hb]
        clear hb hw
        go_enter Tryd.func45, Tryd.ntmps45
        go_wp2_with (first | (go_at_call 65; refine (ks.out _).mono ?_; rintro e u0 ⟨rfl, rfl⟩) | (go_at_call 60; refine (kn.out _).mono ?_; rintro e u0 ⟨rfl, rfl⟩))
        go_ret
        exact ⟨by rw [he.out]; rfl, rfl⟩
      | false =>
        rw [hb] at ks
        have he : Hid (R = 0) := by show _ = _; rw [hw.out, hb]; rfl
        clear hb hw
        go_enter Tryd.func45, Tryd.ntmps45
        go_wp2_with (go_at_call 65; refine (ks.out _).mono ?_; rintro e u0 ⟨rfl, rfl⟩)
        go_ret
        exact ⟨by rw [he.out]; rfl, rfl⟩
/-- The program's words that are signs lie where they were laid. -/
def WTab (w : World) : Prop := ∀ j, j < 7 → w.cell? ⟨0, j, none⟩ = some (.string (tx (words.getD j [])))
theorem WTab.later {w w' : World} (h : WTab w) (hb : Below w.heap.size w w') : WTab w' := fun j hj => by
  rw [hb.cell (World.block_lt_of_cell? w _ (h j hj))]; exact h j hj
theorem mem_getD {ls : List (List UInt8)} {l : List UInt8} (h : ∀ j, j < ls.length → ls.getD j [] ≠ l) : l ∉ ls := by
  intro hm
  obtain ⟨j, hj, e⟩ := List.getElem_of_mem hm
  refine h j hj ?_
  rw [List.getD, List.getElem?_eq_getElem hj]
  exact e
theorem getD_mem {ls : List (List UInt8)} {l : List UInt8} {j : Nat} (hj : j < ls.length) (h : ls.getD j [] = l) : l ∈ ls := by
  subst h
  rw [List.getD, List.getElem?_eq_getElem hj]
  exact List.getElem_mem hj
theorem tx_ne {a l : List UInt8} (h : ¬ a = l) {s : ByteArray} (hl : s.data.toList = l) : ¬ tx a = s := fun e => h (by rw [← hl, ← e, tx_list])
set_option maxHeartbeats 2000000 in
theorem impl_isSignWord (s : ByteArray) (l : List UInt8) (hl : s.data.toList = l) (w : World) (ht : WTab w) :
    Calls Tryd.prog 46 #[.string s] w fun e w' => e = .returned (.bool (isWord l)) ∧ w = w' := by
  obtain ⟨R, hR⟩ : ∃ R, isWord l = R := ⟨_, rfl⟩
  have hR' : Hid (isWord l = R) := hR
  rw [hR]
  clear hR
  have hl' : Hid (s.data.toList = l) := hl
  have ht' : Hid (WTab w) := ht
  clear hl ht
  go_enter Tryd.func46, Tryd.ntmps46
  go_wp2_with fail
  go_loop [4] (fun i => ∃ k : Nat, k ≤ 7 ∧ i = .int .i64 k ∧ (∀ j, j < k → words.getD j [] ≠ l)) (fun i => 7 - (intOf i).toNat)
  case atStart => exact ⟨0, by omega, rfl, fun j hj => by omega⟩
  case round =>
    obtain ⟨k, hk, rfl, hno⟩ := hrel
    have hno' : Hid (∀ j, j < k → words.getD j [] ≠ l) := hno
    clear hno
    by_cases hlt : k < 7
    · have hlt' : (k : Int) < 7 := by omega
      have hc := ht'.out k hlt
      by_cases he : words.getD k [] = l
      · have e1 : Hid (R = true) := by show _ = _; rw [← hR'.out]; exact decide_eq_true (getD_mem (ls := words) hlt he)
        have e2 : tx (words.getD k []) = s := by rw [he]; exact (of_list hl'.out).symm
        rw [e2] at hc
        clear he e2
        go_wp2_with fail
        go_ret
        exact ⟨by rw [e1.out]; rfl, rfl⟩
      · have hs : Hid (∀ j, j < k + 1 → words.getD j [] ≠ l) := fun j hj => by
          by_cases e : j = k
          · rw [e]; exact he
          · exact hno'.out j (by omega)
        have n3 := str_ne (tx_ne he hl'.out)
        generalize tx (words.getD k []) = T at hc n3
        clear he
        go_wp2_with fail
        go_round
        case rel => exact ⟨k + 1, by omega, by go_num, hs.out⟩
        case measure => simp only [intOf]; omega
    · obtain rfl : k = 7 := by omega
      have e1 : Hid (R = false) := by show _ = _; rw [← hR'.out]; exact decide_eq_false (mem_getD (ls := words) hno'.out)
      go_wp2_with fail
      go_ret
      exact ⟨by rw [e1.out]; rfl, rfl⟩
theorem isName_is (l : List UInt8) (h : l ≠ []) : isName l = (decide (wordSize l = l.length) && !isWord l) := by
  unfold isName
  cases hw : wordForm l with
  | true => rw [decide_eq_true (by rw [word_all h]; exact hw)]
  | false => rw [decide_eq_false (by rw [word_all h, hw]; decide)]
theorem impl_isName (s : ByteArray) (l : List UInt8) (hl : s.data.toList = l) (w : World) (ht : WTab w) (hm : s.size ≤ 1048576) :
    Calls Tryd.prog 27 #[.string s] w fun e w' => e = .returned (.bool (isName l)) ∧ w = w' := by
  by_cases h0 : s = ⟨#[]⟩
  · have he : Hid (isName l = false) := by show _ = _; rw [(nil_iff hl).1 h0]; rfl
    clear hl
    subst h0
    go_enter Tryd.func27, Tryd.ntmps27
    go_wp2_with fail
    go_ret
    exact ⟨by rw [he.out]; rfl, rfl⟩
  · obtain ⟨n1, n2⟩ := str_nil h0
    have hne : l ≠ [] := fun e => h0 ((nil_iff hl).2 e)
    have kz : Hid (∀ u, Calls Tryd.prog 45 #[.string s] u fun e w' => e = .returned (.int .i64 (wordSize l : Nat)) ∧ u = w') := fun u => impl_wordSize s l hl u hm
    have kw : Hid (Calls Tryd.prog 46 #[.string s] w fun e w' => e = .returned (.bool (isWord l)) ∧ w = w') := impl_isSignWord s l hl w ht
    have hi : Hid (isName l = (decide (wordSize l = l.length) && !isWord l)) := isName_is l hne
    have hsz := size_list hl
    rw [← hsz] at hi
    clear hl ht h0 hne hsz
    generalize isName l = R at *
    generalize wordSize l = Z at *
    generalize isWord l = B at *
    by_cases hz : Z = s.size
    · subst hz
      cases B with
      | true =>
        have e1 : Hid (R = false) := by show _ = _; rw [hi.out]; simp
        clear hi
        go_enter Tryd.func27, Tryd.ntmps27
        go_wp2_with (first | (go_at_call 45; refine (kz.out _).mono ?_; rintro e u0 ⟨rfl, rfl⟩) | (go_at_call 46; refine kw.out.mono ?_; rintro e u0 ⟨rfl, rfl⟩))
        go_ret
        exact ⟨by rw [e1.out]; rfl, rfl⟩
      | false =>
        have e1 : Hid (R = true) := by show _ = _; rw [hi.out]; simp
        clear hi
        go_enter Tryd.func27, Tryd.ntmps27
        go_wp2_with (first | (go_at_call 45; refine (kz.out _).mono ?_; rintro e u0 ⟨rfl, rfl⟩) | (go_at_call 46; refine kw.out.mono ?_; rintro e u0 ⟨rfl, rfl⟩))
        go_ret
        exact ⟨by rw [e1.out]; rfl, rfl⟩
    · have e1 : Hid (R = false) := by show _ = _; rw [hi.out, decide_eq_false hz]; rfl
      have hz' : ¬ (Z : Int) = (s.size : Int) := by omega
      have hz2 : ((Z : Int) == (s.size : Int)) = false := beq_false_of_ne (by omega)
      clear hi
      go_enter Tryd.func27, Tryd.ntmps27
      go_wp2_with (first | (go_at_call 45; refine (kz.out _).mono ?_; rintro e u0 ⟨rfl, rfl⟩) | (go_at_call 46; refine kw.out.mono ?_; rintro e u0 ⟨rfl, rfl⟩))
      go_ret
      exact ⟨by rw [e1.out]; rfl, rfl⟩
theorem impl_nameOk (s : ByteArray) (l : List UInt8) (hl : s.data.toList = l) (w : World) (ht : WTab w) :
    Calls Tryd.prog 9 #[.string s] w fun e w' => e = .returned (.bool (nameOk l)) ∧ w = w' := by
  have hi : Hid (nameOk l = (isName l && decide (s.size ≤ 12))) := by show _ = _; rw [size_list hl]; rfl
  by_cases h : s.size ≤ 12
  · have k : Hid (Calls Tryd.prog 27 #[.string s] w fun e w' => e = .returned (.bool (isName l)) ∧ w = w') := impl_isName s l hl w ht (by omega)
    have e1 : Hid (nameOk l = isName l) := by show _ = _; rw [hi.out, decide_eq_true h, Bool.and_true]
    clear hi hl ht
    generalize nameOk l = R at *
    generalize isName l = B at *
    have h' : (s.size : Int) ≤ 12 := by omega
    go_enter Tryd.func9, Tryd.ntmps9
    go_wp2_with (go_at_call 27; refine k.out.mono ?_; rintro e u0 ⟨rfl, rfl⟩)
    go_ret
    exact ⟨by rw [e1.out]; rfl, rfl⟩
  · have e1 : Hid (nameOk l = false) := by show _ = _; rw [hi.out, decide_eq_false h, Bool.and_false]
    clear hi hl ht
    generalize nameOk l = R at *
    have h' : ¬ (s.size : Int) ≤ 12 := by omega
    have h2 : decide ((s.size : Int) ≤ 12) = false := decide_eq_false (by omega)
    go_enter Tryd.func9, Tryd.ntmps9
    go_wp2_with fail
    go_ret
    exact ⟨by rw [e1.out]; rfl, rfl⟩
theorem spec_words (w : World) :
    Calls Tryd.prog 26 #[] w fun e w' => ∃ b, e = .returned (.slice (some ⟨b, 0, none⟩) 7 7) ∧ Holds w' b (words.map fun z => .string (tx z)) ∧ Below w.heap.size w w' := by
  go_enter Tryd.func26, Tryd.ntmps26
  go_wp2_with fail
  go_ret
  exact ⟨_, rfl, Holds.made w (words.map fun z => .string (tx z)) _, (Below.refl _ _).alloc (Nat.le_refl _) _⟩
theorem spec_signs (w : World) :
    Calls Tryd.prog 29 #[] w fun e w' => ∃ b, e = .returned (.slice (some ⟨b, 0, none⟩) 29 29) ∧ Holds w' b (signs.map fun z => .string (tx z)) ∧ Below w.heap.size w w' := by
  go_enter Tryd.func29, Tryd.ntmps29
  go_wp2_with fail
  go_ret
  exact ⟨_, rfl, Holds.made w (signs.map fun z => .string (tx z)) _, (Below.refl _ _).alloc (Nat.le_refl _) _⟩
set_option maxHeartbeats 2000000 in
theorem spec_has (b n : Nat) (ls : List (List UInt8)) (hn : ls.length = n) (hm : n ≤ 1000) (s : ByteArray) (l : List UInt8) (hl : s.data.toList = l) (w : World) (hh : Holds w b (ls.map fun z => .string (tx z))) :
    Calls Tryd.prog 25 #[.slice (some ⟨b, 0, none⟩) n n, .string s] w fun e w' => e = .returned (.bool (decide (l ∈ ls))) ∧ w = w' := by
  obtain ⟨R, hR⟩ : ∃ R, decide (l ∈ ls) = R := ⟨_, rfl⟩
  have hR' : Hid (decide (l ∈ ls) = R) := hR
  rw [hR]
  clear hR
  have hl' : Hid (s.data.toList = l) := hl
  have hh' : Hid (Holds w b (ls.map fun z => .string (tx z))) := hh
  have hn' : Hid (ls.length = n) := hn
  clear hl hh hn
  go_enter Tryd.func25, Tryd.ntmps25
  go_wp2_with fail
  go_loop [9] (fun i => ∃ k : Nat, k ≤ n ∧ i = .int .i64 k ∧ (∀ j, j < k → ls.getD j [] ≠ l)) (fun i => n - (intOf i).toNat)
  case atStart => exact ⟨0, by omega, rfl, fun j hj => by omega⟩
  case round =>
    obtain ⟨k, hk, rfl, hno⟩ := hrel
    have hno' : Hid (∀ j, j < k → ls.getD j [] ≠ l) := hno
    clear hno
    by_cases hlt : k < n
    · have hlt' : (k : Int) < (n : Int) := by omega
      have hc := hh'.out.str k (by rw [hn'.out]; exact hlt)
      by_cases he : ls.getD k [] = l
      · have e1 : Hid (R = true) := by show _ = _; rw [← hR'.out]; exact decide_eq_true (getD_mem (by rw [hn'.out]; exact hlt) he)
        have e2 : tx (ls.getD k []) = s := by rw [he]; exact (of_list hl'.out).symm
        rw [e2] at hc
        clear he e2
        go_wp2_with fail
        go_ret
        exact ⟨by rw [e1.out]; rfl, rfl⟩
      · have hs : Hid (∀ j, j < k + 1 → ls.getD j [] ≠ l) := fun j hj => by
          by_cases e : j = k
          · rw [e]; exact he
          · exact hno'.out j (by omega)
        have n3 := str_ne (tx_ne he hl'.out)
        generalize tx (ls.getD k []) = T at hc n3
        clear he
        go_wp2_with fail
        go_round
        case rel => exact ⟨k + 1, by omega, by go_num, hs.out⟩
        case measure => simp only [intOf]; omega
    · obtain rfl : k = n := by omega
      have e1 : Hid (R = false) := by show _ = _; rw [← hR'.out]; exact decide_eq_false (mem_getD (fun j hj => hno'.out j (by rw [hn'.out] at hj; exact hj)))
      go_wp2_with fail
      go_ret
      exact ⟨by rw [e1.out]; rfl, rfl⟩
theorem word_no {l : List UInt8} {k : Nat} {x : UInt8} (hx : l[k]? = some x) (h : inName x = false) : wordForm l = false := by
  cases l with
  | nil => rfl
  | cons c r =>
    show (small c && (c :: r).all inName) = false
    have : (c :: r).all inName = false := by
      rw [List.all_eq_false]
      exact ⟨x, List.mem_of_getElem? hx, by rw [h]; decide⟩
    rw [this, Bool.and_false]
theorem word_yes {c : UInt8} {r : List UInt8} (h : ∀ j, j < (c :: r).length → ∃ x, (c :: r)[j]? = some x ∧ inName x = true) : wordForm (c :: r) = small c := by
  show (small c && (c :: r).all inName) = small c
  have : (c :: r).all inName = true := by
    rw [List.all_eq_true]
    intro x hx
    obtain ⟨j, hj, e⟩ := List.getElem_of_mem hx
    obtain ⟨y, hy, hp⟩ := h j hj
    rw [List.getElem?_eq_getElem hj, e] at hy
    cases hy
    exact hp
  rw [this, Bool.and_true]
set_option maxHeartbeats 2000000 in
theorem spec_word (s : ByteArray) (l : List UInt8) (hl : s.data.toList = l) (w : World) (hm : s.size ≤ 1048576) :
    Calls Tryd.prog 24 #[.string s] w fun e w' => e = .returned (.bool (wordForm l)) ∧ w = w' := by
  obtain ⟨R, hR⟩ : ∃ R, wordForm l = R := ⟨_, rfl⟩
  have hR' : Hid (wordForm l = R) := hR
  rw [hR]
  clear hR
  have hsz : Hid (s.size = l.length) := size_list hl
  have hl' : Hid (s.data.toList = l) := hl
  clear hl
  go_enter Tryd.func24, Tryd.ntmps24
  go_wp2_with fail
  go_loop [3] (fun i => ∃ k : Nat, k ≤ s.size ∧ i = .int .i64 k ∧ (∀ j, j < k → ∃ x, l[j]? = some x ∧ inName x = true)) (fun i => s.size - (intOf i).toNat)
  case atStart => exact ⟨0, by omega, rfl, fun j hj => by omega⟩
  case round =>
    obtain ⟨k, hk, rfl, hall⟩ := hrel
    have hall' : Hid (∀ j, j < k → ∃ x, l[j]? = some x ∧ inName x = true) := hall
    clear hall
    by_cases hlt : k < s.size
    · have hlt' : (k : Int) < (s.size : Int) := by omega
      obtain ⟨x, hx, hxi⟩ := byte_at hl'.out k hlt
      have hx' : Hid (l[k]? = some x) := hx
      clear hx
      have kc : Hid (∀ u, Calls Tryd.prog 43 #[.int .u8 (x.toNat : Int)] u fun e w' => e = .returned (.bool (inName x)) ∧ u = w') := fun u => spec_part x u
      cases hb : inName x with
      | true =>
        rw [hb] at kc
        have hb' : Hid (inName x = true) := hb
        clear hb
        go_wp2_with (go_at_call 43; refine (kc.out _).mono ?_; rintro e u0 ⟨rfl, rfl⟩)
        go_round
        case rel => exact ⟨k + 1, by omega, by go_num, fun j hj => by
          by_cases e : j = k
          · rw [e]; exact ⟨x, hx'.out, hb'.out⟩
          · exact hall'.out j (by omega)⟩
        case measure => simp only [intOf]; omega
      | false =>
        rw [hb] at kc
        have he : Hid (R = false) := hR'.out.symm.trans (word_no hx'.out hb)
        clear hb
        go_wp2_with (go_at_call 43; refine (kc.out _).mono ?_; rintro e u0 ⟨rfl, rfl⟩)
        go_ret
        exact ⟨by rw [he.out]; rfl, rfl⟩
    · obtain rfl : k = s.size := by omega
      by_cases h0 : s = ⟨#[]⟩
      · have he : Hid (R = false) := by show _ = _; rw [← hR'.out, (nil_iff hl'.out).1 h0]; rfl
        subst h0
        go_wp2_with fail
        go_ret
        exact ⟨by rw [he.out]; rfl, rfl⟩
      · obtain ⟨n1, n2⟩ := str_nil h0
        have n3 : ¬ s.size = 0 := fun e => h0 ((nil_iff hl'.out).2 (List.length_eq_zero_iff.1 (hsz.out.symm.trans e)))
        have h0s : 0 < s.size := by omega
        clear h0
        obtain ⟨x, hx, hxi⟩ := byte_at hl'.out 0 h0s
        have he : Hid (R = small x) := by
          show _ = _
          rw [← hR'.out]
          cases hc : l with
          | nil => rw [hc] at hx; simp at hx
          | cons c r =>
            have hxc : c = x := by rw [hc] at hx; simpa using hx
            subst hxc
            rw [← hc]
            have ha := hall'.out
            rw [hsz.out] at ha
            rw [hc] at ha ⊢
            exact word_yes ha
        have kc : Hid (∀ u, Calls Tryd.prog 44 #[.int .u8 (x.toNat : Int)] u fun e w' => e = .returned (.bool (small x)) ∧ u = w') := fun u => spec_small x u
        generalize small x = B at *
        clear hx
        go_wp2_with (go_at_call 44; refine (kc.out _).mono ?_; rintro e u0 ⟨rfl, rfl⟩)
        go_ret
        exact ⟨by rw [he.out]; rfl, rfl⟩
theorem spec_nameOk (s : ByteArray) (l : List UInt8) (hl : s.data.toList = l) (w : World) (hm : s.size ≤ 1048576) :
    Calls Tryd.prog 8 #[.string s] w fun e w' => e = .returned (.bool (nameOk l)) ∧ Below w.heap.size w w' := by
  have hi : Hid (nameOk l = ((wordForm l && !decide (l ∈ words)) && decide (s.size ≤ 12))) := by show _ = _; rw [size_list hl]; rfl
  have kf : Hid (∀ u, Calls Tryd.prog 24 #[.string s] u fun e w' => e = .returned (.bool (wordForm l)) ∧ u = w') := fun u => spec_word s l hl u hm
  have kh : Hid (∀ u b, Holds u b (words.map fun z => .string (tx z)) → Calls Tryd.prog 25 #[.slice (some ⟨b, 0, none⟩) 7 7, .string s] u fun e w' => e = .returned (.bool (decide (l ∈ words))) ∧ u = w') := fun u b hb => spec_has b 7 words rfl (by omega) s l hl u hb
  clear hl
  generalize nameOk l = R at *
  generalize wordForm l = F at *
  generalize decide (l ∈ words) = B at *
  cases F with
  | false =>
    have e1 : Hid (R = false) := by show _ = _; rw [hi.out]; rfl
    clear hi
    go_enter Tryd.func8, Tryd.ntmps8
    go_wp2_with (go_at_call 24; refine (kf.out _).mono ?_; rintro e u0 ⟨rfl, rfl⟩)
    go_ret
    exact ⟨by rw [e1.out]; rfl, Below.refl _ _⟩
  | true =>
    by_cases h : s.size ≤ 12
    · have h' : (s.size : Int) ≤ 12 := by omega
      have e1 : Hid (R = !B) := by show _ = _; rw [hi.out, decide_eq_true h]; simp
      clear hi
      go_enter Tryd.func8, Tryd.ntmps8
      go_wp2_with (first | (go_at_call 24; refine (kf.out _).mono ?_; rintro e u0 ⟨rfl, rfl⟩) | (go_at_call 26; refine (spec_words _).mono ?_; rintro e w1 ⟨b, rfl, h1, b1⟩; have H1 : Hid (Holds w1 b (words.map fun z => .string (tx z))) := h1; clear h1) | (go_at_call 25; refine (kh.out _ _ H1.out).mono ?_; rintro e u0 ⟨rfl, rfl⟩))
      go_ret
      exact ⟨by rw [e1.out]; rfl, b1⟩
    · have h' : ¬ (s.size : Int) ≤ 12 := by omega
      have h2 : decide ((s.size : Int) ≤ 12) = false := decide_eq_false (by omega)
      have e1 : Hid (R = false) := by show _ = _; rw [hi.out, decide_eq_false h]; simp
      clear hi
      go_enter Tryd.func8, Tryd.ntmps8
      go_wp2_with (go_at_call 24; refine (kf.out _).mono ?_; rintro e u0 ⟨rfl, rfl⟩)
      go_ret
      exact ⟨by rw [e1.out]; rfl, Below.refl _ _⟩
theorem fnExactNameOk (s : ByteArray) (w : World) (hm : s.size ≤ maxLen) (ht : WTab w) :
    Calls Tryd.prog 3 #[.string s] w fun e w' => e = .returned (.bool true) ∧ Below w.heap.size w w' := by
  unfold maxLen at hm
  have kS : Hid (∀ u, s.size ≤ 1048576 → Calls Tryd.prog 8 #[.string s] u fun e w' => e = .returned (.bool (nameOk s.data.toList)) ∧ Below u.heap.size u w') := fun u h => spec_nameOk s _ rfl u h
  have kI : Hid (∀ u, Below w.heap.size w u → Calls Tryd.prog 9 #[.string s] u fun e w' => e = .returned (.bool (nameOk s.data.toList)) ∧ u = w') := fun u hb => impl_nameOk s _ rfl u (ht.later hb)
  generalize nameOk s.data.toList = R at *
  clear ht
  by_cases h : s.size ≤ 1048576
  · have h' : ¬ (1048576 : Int) < (s.size : Int) := by omega
    have hh : Hid (s.size ≤ 1048576) := h
    clear h
    go_enter Tryd.func3, Tryd.ntmps3
    go_wp2_with (first | (go_at_call 8; refine (kS.out _ hh.out).mono ?_; rintro e w1 ⟨rfl, b1⟩) | (go_at_call 9; refine (kI.out _ b1).mono ?_; rintro e u0 ⟨rfl, rfl⟩))
    go_ret
    exact ⟨rfl, b1⟩
  · have h' : (1048576 : Int) < (s.size : Int) := by omega
    go_enter Tryd.func3, Tryd.ntmps3
    go_wp2_with fail
    go_ret
    exact ⟨rfl, Below.refl _ _⟩
end Go.Proofs.YtjndgjheehjohaaDoor.WordCalls
