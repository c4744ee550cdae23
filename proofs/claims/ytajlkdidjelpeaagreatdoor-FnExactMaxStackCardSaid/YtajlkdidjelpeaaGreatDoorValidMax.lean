/-
  MaxStack, as the program answers it. (Written by my validmax.py.)
-/
import Derived.Test.YtajlkdidjelpeaaGreatDoorValidFace
namespace Go.Proofs.YtajlkdidjelpeaaGreatDoor.ValidMax
open Go.RowKit PlainOps NameCalls PlainNum NumCalls InsCalls InsImpl PlainShape InsMem PlainAll ShapeCalls FormCalls ModMem FormImpl PlainValid ValidCtx ValidMod Piles ValidIns ValidStep ValidWalk ValidHeights ValidFace

theorem maxL_at {l : List Int} {k : Nat} (hk : k < l.length) (q : Int) : maxL (l.drop k) q = maxL (l.drop (k + 1)) (if q < l.getD k 0 then l.getD k 0 else q) := by
  rw [List.drop_eq_getElem_cons hk, maxL]
  simp [List.getD, hk]
theorem ownS_rows {B : Nat} {w : World} {v : Value} {l : List Int} (h : OwnS B w v l) : ∃ a cap, v = .slice a l.length cap ∧ (l.length = 0 ∨ ∃ g, a = some ⟨g, 0, none⟩ ∧ ∀ j, j < l.length → w.cell? ⟨g, j, none⟩ = some (.int .i64 (l.getD j 0))) := by
  by_cases h0 : l.length = 0
  · obtain ⟨a, cap, hv⟩ := h.form0
    exact ⟨a, cap, hv, .inl h0⟩
  · obtain ⟨g, cap, hv, _, _, _⟩ := h.form h0
    subst hv
    exact ⟨_, cap, rfl, .inr ⟨g, rfl, fun j hj => h.cell j hj⟩⟩
theorem body_len (m : M) (j : Nat) : (bodyOf m j).1.length ≤ (MemFunc.at1 m.fns j).body.length := by
  have := (walk_len (ctxOf m (MemFunc.at1 m.fns j).sig (MemFunc.at1 m.fns j).loc) (MemFunc.at1 m.fns j).body (MemFunc.at1 m.fns j).body.length 0 (PlainValid.start (ctxOf m (MemFunc.at1 m.fns j).sig (MemFunc.at1 m.fns j).loc)) []).2
  unfold bodyOf body
  simpa using this
theorem stack_len {m : M} {i : Int} {l : List Int} (h : stackAt m i = some l) : l.length ≤ 1500 := by
  unfold stackAt at h
  split at h
  · rename_i hf
    unfold faultAt at hf
    split at hf
    · rename_i hh
      obtain ⟨h1, h2, h3⟩ := hasF_lt hh
      have := body_len m i.toNat
      have hb := ((facts h1).fn i.toNat (by omega)).2.2.2.2
      unfold boOk at hb
      simp only [Bool.and_eq_true] at hb
      have := of_decide_eq_true hb.1
      cases h
      omega
    · omega
  · cases h
set_option maxRecDepth 20000 in
set_option maxHeartbeats 8000000 in
theorem impl_maxStack (w : World) (p : P) (m : M) (i : Int) (h : Mod w p m) :
    Calls Tryz.prog 21 #[.agg #[.slice p.a0 m.sigs.length p.c0, .slice p.a1 m.imps.length p.c1, .slice p.a2 m.fns.length p.c2, .int .i64 m.pages, .int .i64 m.most, .slice p.a3 m.gls.length p.c3, .slice p.a4 m.exs.length p.c4, .slice p.a5 m.dat.length p.c5], .int .i64 i] w fun e w' => e = .returned (.int .i64 (maxStack m i)) ∧ Below w.heap.size w w' := by
  have kS : Hid (∀ u : World, Below w.heap.size w u → Calls Tryz.prog 15 #[.agg #[.slice p.a0 m.sigs.length p.c0, .slice p.a1 m.imps.length p.c1, .slice p.a2 m.fns.length p.c2, .int .i64 m.pages, .int .i64 m.most, .slice p.a3 m.gls.length p.c3, .slice p.a4 m.exs.length p.c4, .slice p.a5 m.dat.length p.c5], .int .i64 i] u fun e w' => (match stackAt m i with
    | none => e = .returned (.tuple #[.slice none 0 0, .bool false])
    | some l => ∃ v, e = .returned (.tuple #[v, .bool true]) ∧ OwnS u.heap.size w' v l) ∧ Below u.heap.size u w') := fun u hu => impl_stackAt u p m i (h.later hu)
  clear h
  cases hS : stackAt m i with
  | none =>
    rw [hS] at kS
    have e1 : Hid (maxStack m i = -1) := by show _ = _; unfold maxStack; rw [hS]
    rw [e1.out]
    clear hS e1
    generalize m.sigs.length = N0 at *
    generalize m.imps.length = N1 at *
    generalize m.fns.length = N2 at *
    generalize m.gls.length = N3 at *
    generalize m.exs.length = N4 at *
    generalize m.dat.length = N5 at *
    go_enter Tryz.func21, Tryz.ntmps21
    go_wp2_with (go_at_call 15; refine (kS.out _ ((Below.refl _ _).alloc (Nat.le_refl _) _)).mono ?_; rintro e w1 ⟨rfl, q1⟩)
    go_ret
    exact ⟨rfl, belB q1⟩
  | some l =>
    rw [hS] at kS
    have hl := stack_len hS
    obtain ⟨R, hR⟩ : ∃ R, maxL l 0 = R := ⟨_, rfl⟩
    have e1 : Hid (maxStack m i = R) := by show _ = _; unfold maxStack; rw [hS]; exact hR
    have hR' : Hid (maxL (l.drop 0) 0 = R) := hR
    rw [e1.out]
    clear hS e1 hR
    generalize m.sigs.length = N0 at *
    generalize m.imps.length = N1 at *
    generalize m.fns.length = N2 at *
    generalize m.gls.length = N3 at *
    generalize m.exs.length = N4 at *
    generalize m.dat.length = N5 at *
    go_enter Tryz.func21, Tryz.ntmps21
    go_wp2_with (go_at_call 15; refine (kS.out _ ((Below.refl _ _).alloc (Nat.le_refl _) _)).mono ?_; rintro e w1 ⟨⟨v, rfl, o1⟩, q1⟩; obtain ⟨av, cap, rfl, hrow⟩ := ownS_rows o1; have hrow' : Hid (l.length = 0 ∨ ∃ g, av = some ⟨g, 0, none⟩ ∧ ∀ j, j < l.length → w1.cell? ⟨g, j, none⟩ = some (.int .i64 (l.getD j 0))) := hrow; have b1 : Hid (Below w.heap.size w w1) := belB q1; clear o1 hrow)
    go_loop [7, 20] (fun vq vk => ∃ (k : Nat) (q : Int), k ≤ l.length ∧ vk = .int .i64 k ∧ vq = .int .i64 q ∧ maxL (l.drop k) q = R) (fun _ vk => l.length - (intOf vk).toNat)
    case atStart => exact ⟨0, 0, by omega, rfl, rfl, hR'.out⟩
    case round =>
      obtain ⟨k, q, hk, rfl, rfl, hm⟩ := hrel
      have hm' : Hid (maxL (l.drop k) q = R) := hm
      clear hm hR'
      by_cases hlt : k < l.length
      · have hlt' : (k : Int) < (l.length : Int) := by omega
        rcases hrow'.out with h0 | ⟨g, ha, hc⟩
        · omega
        · have c0 := hc k hlt
          subst ha
          clear hc
          have e2 : Hid (maxL (l.drop (k + 1)) (if q < l.getD k 0 then l.getD k 0 else q) = R) := by rw [← maxL_at hlt]; exact hm'.out
          generalize l.getD k 0 = z at *
          by_cases hz : q < z
          · rw [if_pos hz] at e2
            go_wp2_with fail
            exact ⟨⟨k + 1, z, by omega, by go_num, by rw [show max q z = z by omega], e2.out⟩, by simp [intOf]; omega⟩
          · rw [if_neg hz] at e2
            go_wp2_with fail
            exact ⟨⟨k + 1, q, by omega, by go_num, by rw [show max q z = q by omega], e2.out⟩, by simp [intOf]; omega⟩
      · obtain rfl : k = l.length := by omega
        have e2 : Hid (q = R) := by have := hm'.out; rw [List.drop_length] at this; exact this
        go_wp2_with fail
        go_ret
        exact ⟨by rw [← e2.out]; rfl, b1.out⟩
end Go.Proofs.YtajlkdidjelpeaaGreatDoor.ValidMax
