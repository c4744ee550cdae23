/-
  The walk of the exact law of TextBody.
-/
import Derived.Test.YtjbhelcdakhjbaaDoorTextImpl
import Derived.Test.YtjbhelcdakhjbaaDoorInsOwn
namespace Go.Proofs.YtjbhelcdakhjbaaDoor.TextLawB
open Go.RowKit PlainOps NameCalls InsCalls PlainShape PlainRead PlainCut SpecTextB OwnIns InsMem MarkIns InsOwn TextIns ByteMem

theorem impl_empty (w : World) :
    Calls Tryd.prog 5 #[.string ⟨#[]⟩] w fun e w' => e = .returned (.tuple #[.slice none 0 0, .bool true]) ∧ Below w.heap.size w w' := by
  go_enter Tryd.func5, Tryd.ntmps5
  go_wp2_with fail
  refine bodyPost_ret ?_ rfl ⟨rfl, ((Below.refl _ _).alloc (Nat.le_refl _) _).alloc (by simp) _⟩
  simp [results, go_sem]
/-- What an answer is, as the law's walk wants it. -/
theorem ans_is {P : Ending → World → Prop} {w : World} {R : List I3} {F : Bool} {f : FuncId} {args : Array Value}
    (h : Calls Tryd.prog f args w fun e w' => ∃ v, e = .returned (.tuple #[v, .bool F]) ∧ OwnI w.heap.size w' v R ∧ Below w.heap.size w w')
    (hP : ∀ w' a cap, OI w.heap.size w' a R → Below w.heap.size w w' → P (.returned (.tuple #[.slice a R.length cap, .bool F])) w') : Calls Tryd.prog f args w P := by
  refine h.mono ?_
  rintro e w' ⟨v, rfl, ho, hb⟩
  obtain ⟨a, cap, rfl, hoi⟩ := own_oi ho
  exact hP w' a cap hoi hb
theorem ans_len (l : List UInt8) (hl : l.length ≤ 1048576) : (SpecTextC.ansL l).length ≤ 1048577 := by
  have := cut_count 59 l
  unfold SpecTextC.ansL rdB
  split
  · rw [List.length_map]; omega
  · simp
set_option maxHeartbeats 4000000 in
theorem law_walk (s : ByteArray) (hs : ¬ (1048576 : Int) < (s.size : Int)) (w : World) (R : List I3) (F : Bool) (hRl : R.length ≤ 1048577)
    (hS : Hid (∀ u : World, Calls Tryd.prog 4 #[.string s] u fun e w' => ∃ a c, e = .returned (.tuple #[.slice a R.length c, .bool F]) ∧ OI u.heap.size w' a R ∧ Below u.heap.size u w'))
    (hI : Hid (∀ u : World, Below w.heap.size w u → Calls Tryd.prog 5 #[.string s] u fun e w' => ∃ a c, e = .returned (.tuple #[.slice a R.length c, .bool F]) ∧ OI u.heap.size w' a R ∧ Below u.heap.size u w')) :
    Calls Tryd.prog 3 #[.string s] w fun e w' => e = .returned (.bool true) ∧ Below w.heap.size w w' := by
  have hN3 : ¬ (1 + 3 * (R.length : Int)) < 0 := by omega
  go_enter Tryd.func3, Tryd.ntmps3
  go_wp2_with (go_at_call 4; refine (hS.out _).mono ?_; rintro e w2 ⟨a0, cap0, rfl, k2, b2⟩)
  go_wp2_with (go_at_call 5; refine (hI.out _ b2).mono ?_; rintro e w4 ⟨ag, capg, rfl, kg, b4⟩)
  have c4 := b2.trans (b4.mono b2.size)
  have k4 := k2.below b4
  have l0 := k2.lt
  have lg := kg.lt
  go_wp2_with (go_at_call 6; refine (eqInsS _ _ _ _ _ R kg.rd k4.rd (by omega)).mono ?_; rintro e w9 ⟨rfl, b9⟩)
  have c9 := c4.trans (b9.mono c4.size)
  have k9 := k4.below b9
  have kg9 := kg.below b9
  have z2 := b2.size
  go_wp2_with (go_at_call 7; refine (markInsS _ _ _ _ 1 kg9.wt (by omega) (by omega) (by omega)).mono ?_; rintro e w10 ⟨rfl, r10, o10⟩)
  have k10 := k9.only o10 (fun p p' hp hp' => by have := (l0 p hp).2; have := (lg p' hp').1; omega)
  have c10 := below_only' c9 o10 c9.size (fun p hp => by have := (lg p hp).1; omega)
  go_wp2_with (go_at_call 8; refine (heldInsS _ _ _ _ 1 r10 (by omega) (by omega) (by omega)).mono ?_; rintro e w' ⟨rfl, rfl⟩)
  go_wp2_with (go_at_call 5; refine (hI.out _ c10).mono ?_; rintro e w12 ⟨ah, caph, rfl, kh, b12⟩)
  have k12 := k10.below b12
  have r12 := MkI.later r10 b12
  have c12 := c10.trans (b12.mono c10.size)
  go_wp2_with (go_at_call 6; refine (eqInsS _ _ _ _ _ R kh.rd k12.rd (by omega)).mono ?_; rintro e w13 ⟨rfl, b13⟩)
  have r13 := MkI.later r12 b13
  go_wp2_with (go_at_call 8; refine (heldInsS _ _ _ _ 1 r13 (by omega) (by omega) (by omega)).mono ?_; rintro e w' ⟨rfl, rfl⟩)
  go_ret
  exact ⟨rfl, c12.trans (b13.mono c12.size)⟩
theorem fnExactTextBody (s : ByteArray) (w : World) (hT : Tb w) :
    Calls Tryd.prog 3 #[.string s] w fun e w' => e = .returned (.bool true) ∧ Below w.heap.size w w' := by
  by_cases hbig : (1048576 : Int) < (s.size : Int)
  · go_enter Tryd.func3, Tryd.ntmps3
    go_wp2_with fail
    go_ret
    exact ⟨rfl, Below.refl _ _⟩
  · by_cases hs : s = ⟨#[]⟩
    · subst hs
      refine law_walk _ hbig w [] true (Nat.zero_le _) (fun u => ans_is (SpecTextC.spec_empty u) fun w' a c ho hb => ⟨a, c, rfl, ho, hb⟩) (fun u _ => (impl_empty u).mono ?_)
      rintro e w' ⟨rfl, hb⟩
      exact ⟨none, 0, rfl, .inl ⟨rfl, rfl⟩, hb⟩
    · have hl : s.data.toList.length = s.size := rfl
      have hne : s.data.toList ≠ [] := fun e => hs (by apply ByteArray.ext; simpa using e)
      have htx : tx s.data.toList = s := rfl
      refine law_walk _ hbig w (SpecTextC.ansL s.data.toList) (okB s.data.toList) (ans_len _ (by omega)) (fun u => ans_is (SpecTextC.spec_textBody s _ rfl hne u (by omega)) fun w' a c ho hb => ⟨a, c, rfl, ho, hb⟩) (fun u hu => ?_)
      have := TextImpl.impl_textBody s.data.toList (by omega) hne u (hT.later hu)
      rw [htx] at this
      exact ans_is this fun w' a c ho hb => ⟨a, c, rfl, ho, hb⟩
theorem walked (s : ByteArray) (w : World) (_ : s.size ≤ 9223372036854775807) (ht : Tab w) (hp : BodyImpl.Pow w) (hm : ∃ m, w.cell? ⟨3, 0, none⟩ = some (.int .i64 m))
    (he : (∃ ev, w.cell? ⟨4, 0, none⟩ = some ev ∧ (ev = .nilIface ∨ ∃ te pe, ev = .iface te pe)) ∧ ∃ ev, w.cell? ⟨5, 0, none⟩ = some ev ∧ (ev = .nilIface ∨ ∃ te pe, ev = .iface te pe)) :
    Calls Tryd.prog 3 #[.string s] w fun e w' => e = .returned (.bool true) ∧ Below w.heap.size w w' :=
  fnExactTextBody s w ⟨ht, hp, hm, he.1, he.2⟩
end Go.Proofs.YtjbhelcdakhjbaaDoor.TextLawB
