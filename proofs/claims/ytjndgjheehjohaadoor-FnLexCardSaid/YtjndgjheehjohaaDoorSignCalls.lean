/-
  The signs: where the program's table lies; what the functions on signs answer when they are called.
-/
import Derived.Test.YtjndgjheehjohaaDoorWordCalls
namespace Go.Proofs.YtjndgjheehjohaaDoor.SignCalls
open Go.RowKit PlainOps PlainLex NameCalls CharCalls WordCalls
/-- The program's signs lie where they were laid. -/
def STab (w : World) : Prop := ∀ j, j < 29 → w.cell? ⟨1, j, none⟩ = some (.string (tx (signs.getD j [])))
theorem STab.later {w w' : World} (h : STab w) (hb : Below w.heap.size w w') : STab w' := fun j hj => by
  rw [hb.cell (World.block_lt_of_cell? w _ (h j hj))]; exact h j hj
theorem signs_small : ∀ j, j < 29 → (signs.getD j []).length ≤ 2 ∧ 1 ≤ (signs.getD j []).length := by decide
/-- The first sign that a text begins with. -/
theorem sgn_at {l : List UInt8} {k : Nat} (hk : k < 29) (hno : ∀ j, j < k → (signs.getD j []).isPrefixOf l = false) (h : (signs.getD k []).isPrefixOf l = true) : sgn l = signs.getD k [] := by
  have hl : signs.length = 29 := rfl
  have hf : signs.find? (fun x => x.isPrefixOf l) = some (signs.getD k []) := by
    rw [List.find?_eq_some_iff_getElem]
    refine ⟨h, k, by omega, by rw [List.getD, List.getElem?_eq_getElem (by omega)]; rfl, fun j hj => ?_⟩
    have := hno j hj
    rw [List.getD, List.getElem?_eq_getElem (by omega)] at this
    simpa using this
  unfold sgn
  rw [hf]
  rfl
theorem sgn_none {l : List UInt8} (hno : ∀ j, j < 29 → (signs.getD j []).isPrefixOf l = false) : sgn l = [] := by
  rcases sgn_cases l with ⟨h, _⟩ | ⟨h1, h2⟩
  · exact h
  · obtain ⟨j, hj, e⟩ := List.getElem_of_mem h1
    have := hno j hj
    rw [List.getD, List.getElem?_eq_getElem hj] at this
    simp only [Option.getD_some] at this
    rw [e, h2] at this
    cases this
theorem hasPrefix (s p : ByteArray) (w : World) :
    Calls Tryd.prog 59 #[.string s, .string p] w fun e w' => e = .returned (.bool (p.data.toList.isPrefixOf s.data.toList)) ∧ w = w' :=
  (Tryd.strings_HasPrefix s p w).mono fun e w' h => by
    obtain ⟨rfl, rfl⟩ := h
    exact ⟨rfl, rfl⟩
set_option maxHeartbeats 2000000 in
theorem impl_signSize (s : ByteArray) (l : List UInt8) (hl : s.data.toList = l) (w : World) (ht : STab w) :
    Calls Tryd.prog 51 #[.string s] w fun e w' => e = .returned (.int .i64 ((sgn l).length : Nat)) ∧ w = w' := by
  obtain ⟨R, hR⟩ : ∃ R : Nat, (sgn l).length = R := ⟨_, rfl⟩
  have hR' : Hid ((sgn l).length = R) := hR
  rw [hR]
  clear hR
  have hl' : Hid (s.data.toList = l) := hl
  have ht' : Hid (STab w) := ht
  clear hl ht
  go_enter Tryd.func51, Tryd.ntmps51
  go_wp2_with fail
  go_loop [4] (fun i => ∃ k : Nat, k ≤ 29 ∧ i = .int .i64 k ∧ (∀ j, j < k → (signs.getD j []).isPrefixOf l = false)) (fun i => 29 - (intOf i).toNat)
  case atStart => exact ⟨0, by omega, rfl, fun j hj => by omega⟩
  case round =>
    obtain ⟨k, hk, rfl, hno⟩ := hrel
    have hno' : Hid (∀ j, j < k → (signs.getD j []).isPrefixOf l = false) := hno
    clear hno
    by_cases hlt : k < 29
    · have hlt' : (k : Int) < 29 := by omega
      have hc := ht'.out k hlt
      have kp : Hid (∀ u, Calls Tryd.prog 59 #[.string s, .string (tx (signs.getD k []))] u fun e w' => e = .returned (.bool ((signs.getD k []).isPrefixOf l)) ∧ u = w') := fun u => by
        have := hasPrefix s (tx (signs.getD k [])) u
        rw [tx_list, hl'.out] at this
        exact this
      have hz : Hid ((tx (signs.getD k [])).size = (signs.getD k []).length) := by show _ = _; simp [tx, ByteArray.size]
      cases he : (signs.getD k []).isPrefixOf l with
      | true =>
        rw [he] at kp
        have e1 : Hid (R = (tx (signs.getD k [])).size) := by show _ = _; rw [← hR'.out, sgn_at hlt hno'.out he, hz.out]
        generalize tx (signs.getD k []) = T at hc kp e1
        clear he hz
        go_wp2_with (go_at_call 59; refine (kp.out _).mono ?_; rintro e u0 ⟨rfl, rfl⟩)
        go_ret
        exact ⟨by rw [e1.out]; rfl, rfl⟩
      | false =>
        rw [he] at kp
        have hs : Hid (∀ j, j < k + 1 → (signs.getD j []).isPrefixOf l = false) := fun j hj => by
          by_cases e : j = k
          · rw [e]; exact he
          · exact hno'.out j (by omega)
        generalize tx (signs.getD k []) = T at hc kp hz
        clear he hz
        go_wp2_with (go_at_call 59; refine (kp.out _).mono ?_; rintro e u0 ⟨rfl, rfl⟩)
        go_round
        case rel => exact ⟨k + 1, by omega, by go_num, hs.out⟩
        case measure => simp only [intOf]; omega
    · obtain rfl : k = 29 := by omega
      have e1 : Hid (R = 0) := by show _ = _; rw [← hR'.out, sgn_none hno'.out]; rfl
      go_wp2_with fail
      go_ret
      exact ⟨by rw [e1.out]; rfl, rfl⟩
theorem isSign_is (l : List UInt8) (h : l ≠ []) : isSign l = (isWord l || decide ((sgn l).length = l.length)) := by
  unfold isSign
  rw [show decide ((sgn l).length = l.length) = decide (l ∈ signs) from by
    have := sign_all h
    by_cases hm : l ∈ signs
    · rw [decide_eq_true hm, decide_eq_true (by rw [this]; exact hm)]
    · rw [decide_eq_false hm, decide_eq_false (by rw [this]; exact hm)]]
theorem impl_isSign (s : ByteArray) (l : List UInt8) (hl : s.data.toList = l) (w : World) (hw : WTab w) (ht : STab w) (hm : s.size ≤ 1048576) :
    Calls Tryd.prog 31 #[.string s] w fun e w' => e = .returned (.bool (isSign l)) ∧ w = w' := by
  by_cases h0 : s = ⟨#[]⟩
  · have he : Hid (isSign l = false) := by show _ = _; rw [(nil_iff hl).1 h0]; decide
    have kw : Hid (∀ u, u = w → Calls Tryd.prog 46 #[.string s] u fun e w' => e = .returned (.bool false) ∧ u = w') := fun u hu => by
      subst hu
      have := impl_isSignWord s l hl u hw
      rw [(nil_iff hl).1 h0] at this
      exact this
    clear hl hw ht
    subst h0
    go_enter Tryd.func31, Tryd.ntmps31
    go_wp2_with (go_at_call 46; refine (kw.out _ rfl).mono ?_; rintro e u0 ⟨rfl, rfl⟩)
    go_ret
    exact ⟨by rw [he.out]; rfl, rfl⟩
  · obtain ⟨n1, n2⟩ := str_nil h0
    have hne : l ≠ [] := fun e => h0 ((nil_iff hl).2 e)
    have kz : Hid (Calls Tryd.prog 51 #[.string s] w fun e w' => e = .returned (.int .i64 ((sgn l).length : Nat)) ∧ w = w') := impl_signSize s l hl w ht
    have kw : Hid (Calls Tryd.prog 46 #[.string s] w fun e w' => e = .returned (.bool (isWord l)) ∧ w = w') := impl_isSignWord s l hl w hw
    have hi : Hid (isSign l = (isWord l || decide ((sgn l).length = l.length))) := isSign_is l hne
    have hsz := size_list hl
    rw [← hsz] at hi
    clear hl hw ht h0 hne hsz
    generalize isSign l = R at *
    generalize (sgn l).length = Z at *
    generalize isWord l = B at *
    cases B with
    | true =>
      have e1 : Hid (R = true) := by show _ = _; rw [hi.out]; rfl
      clear hi
      go_enter Tryd.func31, Tryd.ntmps31
      go_wp2_with (go_at_call 46; refine kw.out.mono ?_; rintro e u0 ⟨rfl, rfl⟩)
      go_ret
      exact ⟨by rw [e1.out]; rfl, rfl⟩
    | false =>
      by_cases hz : Z = s.size
      · subst hz
        have e1 : Hid (R = true) := by show _ = _; rw [hi.out]; simp
        clear hi
        go_enter Tryd.func31, Tryd.ntmps31
        go_wp2_with (first | (go_at_call 51; refine kz.out.mono ?_; rintro e u0 ⟨rfl, rfl⟩) | (go_at_call 46; refine kw.out.mono ?_; rintro e u0 ⟨rfl, rfl⟩))
        go_ret
        exact ⟨by rw [e1.out]; rfl, rfl⟩
      · have e1 : Hid (R = false) := by show _ = _; rw [hi.out, decide_eq_false hz]; rfl
        have hz' : ¬ (Z : Int) = (s.size : Int) := by omega
        have hz2 : ((Z : Int) == (s.size : Int)) = false := beq_false_of_ne (by omega)
        clear hi
        go_enter Tryd.func31, Tryd.ntmps31
        go_wp2_with (first | (go_at_call 51; refine kz.out.mono ?_; rintro e u0 ⟨rfl, rfl⟩) | (go_at_call 46; refine kw.out.mono ?_; rintro e u0 ⟨rfl, rfl⟩))
        go_ret
        exact ⟨by rw [e1.out]; rfl, rfl⟩
end Go.Proofs.YtjndgjheehjohaaDoor.SignCalls
