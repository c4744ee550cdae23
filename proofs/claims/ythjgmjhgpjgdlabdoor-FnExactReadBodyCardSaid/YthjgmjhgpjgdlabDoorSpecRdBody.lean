/-
  What the specification's ReadBody answers when it is called.
-/
import Derived.Test.YthjgmjhgpjgdlabDoorSpecOne
import Derived.Test.YthjgmjhgpjgdlabDoorReadBodyI
namespace Go.Proofs.YthjgmjhgpjgdlabDoor.SpecRdBody
open Go.RowKit PlainOps NameCalls PlainNum PlainLeb PlainGet PlainRd PlainIns NumCalls ByteMem PutU InsCalls PlainShape InsMem OwnIns PlainAll SpecRd ReadBodyI EveryIns

theorem drop_nil {bs : List UInt8} {p : Nat} (h : bs.drop p = []) : bs.length ≤ p := by
  have := congrArg List.length h
  rw [List.length_drop, List.length_nil] at this
  omega
theorem one_yes (r b off cap : Nat) (bs : List UInt8) (p : Nat) (bad : Bool) (w : World) (h : SR w r b off cap bs p bad) (hl : bs.length ≤ 1048576) (o x1 x2 : Int) (k : Nat) (hi : rdIns (bs.drop p) = some ((o, x1, x2), k)) :
    Calls Tryd.prog 25 #[.pointer (some ⟨r, 0, none⟩)] w fun e w' => e = .returned (.agg #[.int .i64 o, .int .i64 x1, .int .i64 x2]) ∧ SR w' r b off cap bs (p + k) bad ∧ w.grownBy w' (some r) := by
  cases hd : bs.drop p with
  | nil => rw [hd] at hi; cases hi
  | cons u rest =>
    obtain ⟨hp, hu, hrest⟩ := byAt_drop hd
    rw [hd, rdIns] at hi
    split at hi
    · cases hi
    · rename_i hop
      cases htl : rdTail (u.toNat : Int) rest with
      | none => rw [htl] at hi; cases hi
      | some q =>
        obtain ⟨a, bb, j⟩ := q
        rw [htl] at hi
        simp only [Option.some.injEq, Prod.mk.injEq] at hi
        obtain ⟨⟨rfl, rfl, rfl⟩, rfl⟩ := hi
        rw [show p + (j + 1) = p + 1 + j by omega]
        unfold rdTail at htl
        rcases kd_is (u.toNat : Int) with hk | hk | hk | hk | hk
        · rw [if_neg (by omega), if_neg (by omega), if_neg (by omega), if_neg (by omega)] at htl
          by_cases ho : (u.toNat : Int) = 63 ∨ (u.toNat : Int) = 64
          · rw [if_pos ho] at htl
            cases hr : rest with
            | nil => rw [hr] at htl; cases htl
            | cons x0 rest' =>
              rw [hr] at htl
              simp only at htl
              obtain ⟨hp1, hx0, _⟩ := byAt_drop (hrest.trans hr)
              by_cases h0 : x0 = 0
              · rw [if_pos h0] at htl
                simp only [Option.some.injEq, Prod.mk.injEq] at htl
                obtain ⟨rfl, rfl, rfl⟩ := htl
                exact SpecOne.one5 r b off cap bs p bad w h hp hl u hu hop hk ho hp1 (by rw [hx0, h0]; rfl)
              · rw [if_neg h0] at htl; cases htl
          · rw [if_neg ho] at htl
            simp only [Option.some.injEq, Prod.mk.injEq] at htl
            obtain ⟨rfl, rfl, rfl⟩ := htl
            exact SpecOne.one0 r b off cap bs p bad w h hp hl u hu hop hk ho
        · rw [if_pos hk] at htl
          cases hr : rest with
          | nil => rw [hr] at htl; cases htl
          | cons x0 rest' =>
            rw [hr] at htl
            simp only at htl
            obtain ⟨hp1, hx0, _⟩ := byAt_drop (hrest.trans hr)
            by_cases h64 : x0 = 64
            · rw [if_pos h64] at htl
              simp only [Option.some.injEq, Prod.mk.injEq] at htl
              obtain ⟨rfl, rfl, rfl⟩ := htl
              exact SpecOne.one1_0 r b off cap bs p bad w h hp hl u hu hop hk hp1 (hx0.trans h64)
            · rw [if_neg h64] at htl
              by_cases h127 : x0 = 127
              · rw [if_pos h127] at htl
                simp only [Option.some.injEq, Prod.mk.injEq] at htl
                obtain ⟨rfl, rfl, rfl⟩ := htl
                exact SpecOne.one1_1 r b off cap bs p bad w h hp hl u hu hop hk hp1 (hx0.trans h127)
              · rw [if_neg h127] at htl; cases htl
        · rw [if_neg (by omega), if_pos hk] at htl
          cases hg : gU rest with
          | none => rw [hg] at htl; cases htl
          | some q =>
            obtain ⟨n, i⟩ := q
            rw [hg] at htl
            simp only [Option.some.injEq, Prod.mk.injEq] at htl
            obtain ⟨rfl, rfl, rfl⟩ := htl
            exact SpecOne.one2 r b off cap bs p bad w h hp hl u hu hop hk n i (by rw [hrest]; exact hg)
        · rw [if_neg (by omega), if_neg (by omega), if_pos hk] at htl
          cases hg : gU rest with
          | none => rw [hg] at htl; cases htl
          | some q =>
            obtain ⟨n, i⟩ := q
            rw [hg] at htl
            simp only at htl
            cases hg2 : gU (rest.drop i) with
            | none => rw [hg2] at htl; cases htl
            | some q =>
              obtain ⟨m, i2⟩ := q
              rw [hg2] at htl
              simp only [Option.some.injEq, Prod.mk.injEq] at htl
              obtain ⟨rfl, rfl, rfl⟩ := htl
              rw [← Nat.add_assoc]
              exact SpecOne.one3 r b off cap bs p bad w h hp hl u hu hop hk n i m i2 (by rw [hrest]; exact hg) (by rw [← List.drop_drop, hrest]; exact hg2)
        · rw [if_neg (by omega), if_neg (by omega), if_neg (by omega), if_pos hk] at htl
          cases hg : gS rest with
          | none => rw [hg] at htl; cases htl
          | some q =>
            obtain ⟨n, i⟩ := q
            rw [hg] at htl
            simp only [Option.some.injEq, Prod.mk.injEq] at htl
            obtain ⟨rfl, rfl, rfl⟩ := htl
            exact SpecOne.one4 r b off cap bs p bad w h hp hl u hu hop hk n i (by rw [hrest]; exact hg)
theorem one_no (r b off cap : Nat) (bs : List UInt8) (p : Nat) (bad : Bool) (w : World) (h : SR w r b off cap bs p bad) (hp : p < bs.length) (hl : bs.length ≤ 1048576) (hi : rdIns (bs.drop p) = none) :
    Calls Tryd.prog 25 #[.pointer (some ⟨r, 0, none⟩)] w fun e w' => (∃ x y z : Int, e = .returned (.agg #[.int .i64 x, .int .i64 y, .int .i64 z])) ∧ (∃ p', SR w' r b off cap bs p' true) ∧ w.grownBy w' (some r) := by
  cases hd : bs.drop p with
  | nil => have := drop_nil hd; omega
  | cons u rest =>
    obtain ⟨_, hu, hrest⟩ := byAt_drop hd
    rw [hd, rdIns] at hi
    split at hi
    · rename_i hop
      exact SpecOne.one_none r b off cap bs p bad w h hp hl u hu hop
    · rename_i hop
      cases htl : rdTail (u.toNat : Int) rest with
      | some p => rw [htl] at hi; cases hi
      | none =>
        unfold rdTail at htl
        rcases kd_is (u.toNat : Int) with hk | hk | hk | hk | hk
        · rw [if_neg (by omega), if_neg (by omega), if_neg (by omega), if_neg (by omega)] at htl
          by_cases ho : (u.toNat : Int) = 63 ∨ (u.toNat : Int) = 64
          · rw [if_pos ho] at htl
            refine SpecOne.one5_no r b off cap bs p bad w h hp hl u hu hop hk ho fun hp1 => ?_
            cases hr : rest with
            | nil => have := drop_nil (hrest.trans hr); omega
            | cons x0 rest' =>
              obtain ⟨_, hx0, _⟩ := byAt_drop (hrest.trans hr)
              rw [hr] at htl
              simp only at htl
              by_cases h0 : x0 = 0
              · rw [if_pos h0] at htl; cases htl
              · rw [hx0]
                intro e
                exact h0 (UInt8.toNat_inj.1 (by show x0.toNat = 0; omega))
          · rw [if_neg ho] at htl; cases htl
        · rw [if_pos hk] at htl
          cases hr : rest with
          | nil => exact SpecOne.one1_end r b off cap bs p bad w h hp hl u hu hop hk (by have := drop_nil (hrest.trans hr); omega)
          | cons x0 rest' =>
            obtain ⟨hp1, hx0, _⟩ := byAt_drop (hrest.trans hr)
            rw [hr] at htl
            simp only at htl
            by_cases h64 : x0 = 64
            · rw [if_pos h64] at htl; cases htl
            · rw [if_neg h64] at htl
              by_cases h127 : x0 = 127
              · rw [if_pos h127] at htl; cases htl
              · exact SpecOne.one1_no r b off cap bs p bad w h hp hl u hu hop hk x0 hp1 hx0 h64 h127
        · rw [if_neg (by omega), if_pos hk] at htl
          cases hg : gU rest with
          | none => exact SpecOne.one2_no r b off cap bs p bad w h hp hl u hu hop hk (by rw [hrest]; exact hg)
          | some q =>
            obtain ⟨n, i⟩ := q
            rw [hg] at htl; cases htl
        · rw [if_neg (by omega), if_neg (by omega), if_pos hk] at htl
          cases hg : gU rest with
          | none => exact SpecOne.one3_no r b off cap bs p bad w h hp hl u hu hop hk (by rw [hrest]; exact hg)
          | some q =>
            obtain ⟨n, i⟩ := q
            rw [hg] at htl
            simp only at htl
            cases hg2 : gU (rest.drop i) with
            | none => exact SpecOne.one3_no2 r b off cap bs p bad w h hp hl u hu hop hk n i (by rw [hrest]; exact hg) (by rw [← List.drop_drop, hrest]; exact hg2)
            | some q =>
              obtain ⟨m, i2⟩ := q
              rw [hg2] at htl; cases htl
        · rw [if_neg (by omega), if_neg (by omega), if_neg (by omega), if_pos hk] at htl
          cases hg : gS rest with
          | none => exact SpecOne.one4_no r b off cap bs p bad w h hp hl u hu hop hk (by rw [hrest]; exact hg)
          | some q =>
            obtain ⟨n, i⟩ := q
            rw [hg] at htl; cases htl
/-- A list is right where each of it is. -/
def okI (i : I3) : Bool := insOk i.1 i.2.1 i.2.2
theorem allF_all (l : List I3) : ∀ (f k : Nat), k + f = l.length → allF l f k = (l.drop k).all okI
  | 0, k, h => by rw [List.drop_of_length_le (by omega)]; rfl
  | f + 1, k, h => by
    have hk : k < l.length := by omega
    rw [List.drop_eq_getElem_cons hk, List.all_cons, ← allF_all l f (k + 1) (by omega)]
    have e : okAt l k = okI l[k] := by simp [okAt, okI, oAt, aAt, bAt, List.getD, hk]
    cases ho : okAt l k with
    | false => rw [allF_no ho, ← e, ho]; rfl
    | true => rw [allF_yes ho, ← e, ho]; rfl
def ansF (x : Option (List I3)) : Option (List I3) :=
  match x with
  | none => none
  | some l => if l.length ≤ 1500 ∧ l.all okI = true then some l else none
theorem ansB_is (bs : List UInt8) : ansB bs = ansF (rdAll bs.length bs) := by
  unfold ansB ansF
  cases rdAll bs.length bs with
  | none => rfl
  | some l => simp only [allF_all l l.length 0 (by omega), List.drop_zero]
theorem ansF_some {l : List I3} (h1 : l.length ≤ 1500) (h2 : l.all okI = true) : ansF (some l) = some l := if_pos ⟨h1, h2⟩
theorem ansF_bad {l : List I3} {i : I3} (x : Option (List I3)) (h : okI i = false ∨ l.length = 1500) : ansF (joinR (l ++ [i]) x) = none := by
  cases x with
  | none => rfl
  | some l2 =>
    show (if (l ++ [i] ++ l2).length ≤ 1500 ∧ (l ++ [i] ++ l2).all okI = true then some (l ++ [i] ++ l2) else none) = none
    refine if_neg fun ⟨h1, h2⟩ => ?_
    rcases h with h | h
    · rw [List.all_append, List.all_append] at h2
      simp [h] at h2
    · simp only [List.length_append, List.length_cons, List.length_nil] at h1
      omega
theorem all_snoc {l : List I3} {i : I3} (h : l.all okI = true) (hi : okI i = true) : (l ++ [i]).all okI = true := by rw [List.all_append, h]; simp [hi]
theorem Src.sr {w : World} {b off cap : Nat} {bs : List UInt8} (h : Src w b off cap bs) : SR (w.alloc (.cells #[.slice (some ⟨b, off, none⟩) bs.length cap, .int .i64 0, .bool false] 51)) w.heap.size b off cap bs 0 false :=
  ⟨World.alloc_heap_new w _, fun j hj => by rw [((Below.refl w.heap.size w).alloc (Nat.le_refl _) _).cell h.lt]; exact h.rd j hj, Nat.zero_le _, h.lt⟩
theorem below_grown {B : Nat} {w0 w w' : World} {r : Nat} (hb : Below B w0 w) (hg : w.grownBy w' (some r)) (hB : B ≤ w.heap.size) (hr : B ≤ r) : Below B w0 w' := hb.grown hg hB (fun k hk => by injection hk; omega)
set_option maxHeartbeats 4000000 in
set_option maxRecDepth 20000 in
theorem spec_readBody (w : World) (b off cap : Nat) (bs : List UInt8) (hs : Src w b off cap bs) (hl : bs.length ≤ 1048576) :
    Calls Tryd.prog 14 #[.slice (some ⟨b, off, none⟩) bs.length cap] w fun e w' => ((∃ l v, ansB bs = some l ∧ e = .returned (.tuple #[v, .bool true]) ∧ OwnI w.heap.size w' v l) ∨ (ansB bs = none ∧ e = .returned (.tuple #[.slice none 0 0, .bool false]))) ∧ Below w.heap.size w w' := by
  have hS0 : Hid (SR (w.alloc (.cells #[.slice (some ⟨b, off, none⟩) bs.length cap, .int .i64 0, .bool false] 51)) w.heap.size b off cap bs 0 false) := Src.sr hs
  have hbw := hs.lt
  obtain ⟨A, hA⟩ : ∃ A, ansB bs = A := ⟨_, rfl⟩
  have hA' : Hid (ansF (rdAll bs.length bs) = A) := (ansB_is bs).symm.trans hA
  rw [hA]
  clear hs hA
  go_enter Tryd.func14, Tryd.ntmps14
  go_wp2_with fail
  go_loopw [5] (fun vl wr => ∃ (l1 : List I3) (p : Nat) (bad : Bool), OwnI (w.heap.size + 1) wr vl l1 ∧ SR wr w.heap.size b off cap bs p bad ∧ Below w.heap.size w wr ∧ l1.length ≤ 1500 ∧
      ((bad = false ∧ l1.all okI = true ∧ ∃ f, bs.length - p ≤ f ∧ ansF (joinR l1 (rdAll f (bs.drop p))) = A) ∨ (bad = true ∧ A = none))) (fun vl _ => 1501 - RdAllI.lenV vl)
  case atStart =>
    refine ⟨[], 0, false, ?_, hS0.out.alloc _, ((Below.refl _ _).alloc (Nat.le_refl _) _).alloc (by simp) _, by simp, .inl ⟨rfl, rfl, bs.length, by omega, ?_⟩⟩
    · have := World.ownsRow_made (base := w.heap.size + 1) (e := 38) (size := 3) (w.alloc (.cells #[.slice (some ⟨b, off, none⟩) bs.length cap, .int .i64 0, .bool false] 51)) #[] 0 (by simp) (by decide) rfl
      rw [World.size_alloc] at this
      exact this
    · rw [List.drop_zero, ← hA'.out]
      cases rdAll bs.length bs <;> simp [joinR]
  case round =>
    obtain ⟨l1, p, bad, hown, hsr, hbel, hlen, hst⟩ := hrel
    obtain ⟨a1, cap1, N, rfl, hN⟩ := hown.form
    obtain ⟨c0, c1, c2, f1, f2⟩ := hsr.facts
    have hown' : Hid (OwnI (w.heap.size + 1) wr (.slice a1 N cap1) l1) := hown
    have hsr' : Hid (SR wr w.heap.size b off cap bs p bad) := hsr
    have hbel' : Hid (Below w.heap.size w wr) := hbel
    have hsz := hbel.size
    have hrl := hsr.isLt
    have hple := hsr.le
    clear hown hsr hbel
    rcases hst with ⟨rfl, hall, f, hf, hj⟩ | ⟨rfl, hAn⟩
    · have hall' : Hid (l1.all okI = true) := hall
      have hj' : Hid (ansF (joinR l1 (rdAll f (bs.drop p))) = A) := hj
      clear hall hj
      by_cases hp : p < bs.length
      · have hp' : (p : Int) < (bs.length : Int) := by omega
        have hne : bs.drop p ≠ [] := fun e => by have := drop_nil e; omega
        have hbox : Hid (∀ (u : World) (x y z : Int), Calls Tryd.prog 18 #[.agg #[.int .i64 x, .int .i64 y, .int .i64 z]] u fun e w' => e = .returned (.bool (okI (x, y, z))) ∧ Below u.heap.size u w') := fun u x y z => spec_insOk x y z u
        have hNl : N = l1.length := hN.out
        cases hi : rdIns (bs.drop p) with
        | none =>
          have hAn : Hid (A = none) := by rw [← hj'.out, rdAll_no hne hi]; rfl
          have hO : Hid (Calls Tryd.prog 25 #[.pointer (some ⟨w.heap.size, 0, none⟩)] wr fun e w' => (∃ x y z : Int, e = .returned (.agg #[.int .i64 x, .int .i64 y, .int .i64 z])) ∧ (∃ p', SR w' w.heap.size b off cap bs p' true) ∧ wr.grownBy w' (some w.heap.size)) := one_no w.heap.size b off cap bs p false wr hsr'.out hp hl hi
          clear hj' hi hne hNl
          go_wp2_with (first | (go_at_call 25; refine hO.out.mono ?_; rintro e w1 ⟨⟨x, y, z, rfl⟩, ⟨p1, k1⟩, g1⟩; have k1' : Hid (SR w1 w.heap.size b off cap bs p1 true) := k1; have b1 : Hid (Below w.heap.size w w1) := below_grown hbel'.out g1 hsz (Nat.le_refl _); have o1 : Hid (OwnI (w.heap.size + 1) w1 (.slice a1 N cap1) l1) := hown'.out.kept g1 (fun k e => by injection e; omega); have z1 := b1.out.size; clear k1 g1 hO; have hK : Hid _ := fun u => hbox.out u x y z; obtain ⟨O, hO⟩ : ∃ O, okI (x, y, z) = O := ⟨_, rfl⟩; change Hid (∀ u : World, Calls Tryd.prog 18 #[.agg #[.int .i64 x, .int .i64 y, .int .i64 z]] u fun e w' => e = .returned (.bool (okI (x, y, z))) ∧ Below u.heap.size u w') at hK; rw [hO] at hK; clear hO hbox))
          have y1 := k1'.out.isLt
          cases O with
          | false =>
            go_wp2_with (go_at_call 18; refine (hK.out _).mono ?_; rintro e w2 ⟨rfl, q2⟩; obtain ⟨j0, j1, j2⟩ := box_cells q2; have b2 : Hid (Below w1.heap.size w1 w2) := hb2 (Nat.le_refl _) q2; have z2 := b2.out.size)
            go_ret2
            exact ⟨.inr ⟨hAn.out, rfl⟩, b1.out.trans (b2.out.mono (by omega))⟩
          | true =>
            by_cases h15 : N = 1500
            · have h15' : ((N : Int) == 1500) = true := by rw [h15]; rfl
              clear h15
              go_wp2_with (go_at_call 18; refine (hK.out _).mono ?_; rintro e w2 ⟨rfl, q2⟩; obtain ⟨j0, j1, j2⟩ := box_cells q2; have b2 : Hid (Below w1.heap.size w1 w2) := hb2 (Nat.le_refl _) q2; have z2 := b2.out.size)
              go_ret2
              exact ⟨.inr ⟨hAn.out, rfl⟩, b1.out.trans (b2.out.mono (by omega))⟩
            · have h15' : ((N : Int) == 1500) = false := by rw [beq_eq_false_iff_ne]; omega
              go_wp2_with (first | (go_at_call 18; refine (hK.out _).mono ?_; rintro e w2 ⟨rfl, q2⟩; obtain ⟨j0, j1, j2⟩ := box_cells q2; have b2 : Hid (Below w1.heap.size w1 w2) := hb2 (Nat.le_refl _) q2; have z2 := b2.out.size) | (at_builtin; refine wp_appI rfl _ _ rfl (own_belowI o1.out b2.out) (by omega) x y z (by omega) rfl _ _ rfl rfl ?_; intro g3 cap3 N3 w3 hN3 o3 q3; have hrow : ∀ k, (Value.slice a1 N cap1).ownBlock = some k → w.heap.size + 1 ≤ k := fun k e => (World.ownsRow.lt o1.out k e).1; have k3 : Hid (SR w3 w.heap.size b off cap bs p1 true) := ((k1'.out.below b2.out).alloc _).kept q3 (fun e => by have := hrow _ e.symm; omega) (fun e => by have := hrow _ e.symm; omega); have b3 : Hid (Below w.heap.size w w3) := ((b1.out.trans (b2.out.mono (by omega))).alloc (by omega) _).grown q3 (by simp; omega) (fun k hk => by have := hrow k hk; omega); have o3' : Hid (OwnI (w.heap.size + 1) w3 (.slice (some ⟨g3, 0, none⟩) N3 cap3) (l1 ++ [(x, y, z)])) := o3; have hN3' : Hid (N3 = (l1 ++ [(x, y, z)]).length) := hN3; clear o3 q3 hrow hN3))
              go_roundw
              case rel => exact ⟨_, p1, true, o3'.out, k3.out, b3.out, by have := hN.out; rw [List.length_append]; simp only [List.length_cons, List.length_nil]; omega, .inr ⟨rfl, hAn.out⟩⟩
              case measure =>
                have e1 := hN.out
                have e2 := hN3'.out
                rw [List.length_append] at e2
                simp only [List.length_cons, List.length_nil] at e2
                simp only [RdAllI.lenV]
                omega
        | some q =>
          obtain ⟨⟨i1, i2, i3⟩, k⟩ := q
          have hle := rdIns_le hi
          rw [List.length_drop] at hle
          obtain ⟨f, rfl⟩ : ∃ j, f = j + 1 := ⟨f - 1, by omega⟩
          have hj2 : Hid (ansF (joinR (l1 ++ [(i1, i2, i3)]) (rdAll f (bs.drop (p + k)))) = A) := by rw [← hj'.out, rdAll_yes hi, joinR_step, List.drop_drop]; rfl
          have hO : Hid (Calls Tryd.prog 25 #[.pointer (some ⟨w.heap.size, 0, none⟩)] wr fun e w' => e = .returned (.agg #[.int .i64 i1, .int .i64 i2, .int .i64 i3]) ∧ SR w' w.heap.size b off cap bs (p + k) false ∧ wr.grownBy w' (some w.heap.size)) := one_yes w.heap.size b off cap bs p false wr hsr'.out hl i1 i2 i3 k hi
          have hK : Hid (∀ u : World, Calls Tryd.prog 18 #[.agg #[.int .i64 i1, .int .i64 i2, .int .i64 i3]] u fun e w' => e = .returned (.bool (okI (i1, i2, i3))) ∧ Below u.heap.size u w') := fun u => hbox.out u i1 i2 i3
          obtain ⟨O, hOk⟩ : ∃ O, okI (i1, i2, i3) = O := ⟨_, rfl⟩
          rw [hOk] at hK
          have hOk' : Hid (okI (i1, i2, i3) = O) := hOk
          clear hj' hi hne hNl hbox hOk
          cases O with
          | false =>
            have hAn : Hid (A = none) := by rw [← hj2.out]; exact ansF_bad _ (.inl hOk'.out)
            clear hj2
            go_wp2_with (first | (go_at_call 25; refine hO.out.mono ?_; rintro e w1 ⟨rfl, k1, g1⟩; have k1' : Hid (SR w1 w.heap.size b off cap bs (p + k) false) := k1; have b1 : Hid (Below w.heap.size w w1) := below_grown hbel'.out g1 hsz (Nat.le_refl _); have o1 : Hid (OwnI (w.heap.size + 1) w1 (.slice a1 N cap1) l1) := hown'.out.kept g1 (fun k e => by injection e; omega); have z1 := b1.out.size; have y1 := k1.isLt; clear k1 g1 hO) | (go_at_call 18; refine (hK.out _).mono ?_; rintro e w2 ⟨rfl, q2⟩; obtain ⟨j0, j1, j2⟩ := box_cells q2; have b2 : Hid (Below w1.heap.size w1 w2) := hb2 (Nat.le_refl _) q2; have z2 := b2.out.size))
            go_ret2
            exact ⟨.inr ⟨hAn.out, rfl⟩, b1.out.trans (b2.out.mono (by omega))⟩
          | true =>
            by_cases h15 : N = 1500
            · have hAn : Hid (A = none) := by rw [← hj2.out]; exact ansF_bad _ (.inr (hN.out.symm.trans h15))
              have h15' : ((N : Int) == 1500) = true := by rw [h15]; rfl
              clear h15 hj2
              go_wp2_with (first | (go_at_call 25; refine hO.out.mono ?_; rintro e w1 ⟨rfl, k1, g1⟩; have k1' : Hid (SR w1 w.heap.size b off cap bs (p + k) false) := k1; have b1 : Hid (Below w.heap.size w w1) := below_grown hbel'.out g1 hsz (Nat.le_refl _); have o1 : Hid (OwnI (w.heap.size + 1) w1 (.slice a1 N cap1) l1) := hown'.out.kept g1 (fun k e => by injection e; omega); have z1 := b1.out.size; have y1 := k1.isLt; clear k1 g1 hO) | (go_at_call 18; refine (hK.out _).mono ?_; rintro e w2 ⟨rfl, q2⟩; obtain ⟨j0, j1, j2⟩ := box_cells q2; have b2 : Hid (Below w1.heap.size w1 w2) := hb2 (Nat.le_refl _) q2; have z2 := b2.out.size))
              go_ret2
              exact ⟨.inr ⟨hAn.out, rfl⟩, b1.out.trans (b2.out.mono (by omega))⟩
            · have h15' : ((N : Int) == 1500) = false := by rw [beq_eq_false_iff_ne]; omega
              go_wp2_with (first | (go_at_call 25; refine hO.out.mono ?_; rintro e w1 ⟨rfl, k1, g1⟩; have k1' : Hid (SR w1 w.heap.size b off cap bs (p + k) false) := k1; have b1 : Hid (Below w.heap.size w w1) := below_grown hbel'.out g1 hsz (Nat.le_refl _); have o1 : Hid (OwnI (w.heap.size + 1) w1 (.slice a1 N cap1) l1) := hown'.out.kept g1 (fun k e => by injection e; omega); have z1 := b1.out.size; have y1 := k1.isLt; clear k1 g1 hO) | (go_at_call 18; refine (hK.out _).mono ?_; rintro e w2 ⟨rfl, q2⟩; obtain ⟨j0, j1, j2⟩ := box_cells q2; have b2 : Hid (Below w1.heap.size w1 w2) := hb2 (Nat.le_refl _) q2; have z2 := b2.out.size) | (at_builtin; refine wp_appI rfl _ _ rfl (own_belowI o1.out b2.out) (by omega) i1 i2 i3 (by omega) rfl _ _ rfl rfl ?_; intro g3 cap3 N3 w3 hN3 o3 q3; have hrow : ∀ k, (Value.slice a1 N cap1).ownBlock = some k → w.heap.size + 1 ≤ k := fun k e => (World.ownsRow.lt o1.out k e).1; have k3 : Hid (SR w3 w.heap.size b off cap bs (p + k) false) := ((k1'.out.below b2.out).alloc _).kept q3 (fun e => by have := hrow _ e.symm; omega) (fun e => by have := hrow _ e.symm; omega); have b3 : Hid (Below w.heap.size w w3) := ((b1.out.trans (b2.out.mono (by omega))).alloc (by omega) _).grown q3 (by simp; omega) (fun k hk => by have := hrow k hk; omega); have o3' : Hid (OwnI (w.heap.size + 1) w3 (.slice (some ⟨g3, 0, none⟩) N3 cap3) (l1 ++ [(i1, i2, i3)])) := o3; have hN3' : Hid (N3 = (l1 ++ [(i1, i2, i3)]).length) := hN3; clear o3 q3 hrow hN3))
              go_roundw
              case rel => exact ⟨_, p + k, false, o3'.out, k3.out, b3.out, by have := hN.out; rw [List.length_append]; simp only [List.length_cons, List.length_nil]; omega, .inl ⟨rfl, all_snoc hall'.out hOk'.out, f, by omega, hj2.out⟩⟩
              case measure =>
                have e1 := hN.out
                have e2 := hN3'.out
                rw [List.length_append] at e2
                simp only [List.length_cons, List.length_nil] at e2
                simp only [RdAllI.lenV]
                omega
      · have hp' : ¬ (p : Int) < (bs.length : Int) := by omega
        have hAs : Hid (A = some l1) := by
          show A = some l1
          rw [← hj'.out, List.drop_of_length_le (by omega), rdAll_nil]
          show ansF (some (l1 ++ [])) = _
          rw [List.append_nil]
          exact ansF_some hlen hall'.out
        clear hj'
        go_wp2_with fail
        go_ret2
        have hO2 := own_lower (B' := w.heap.size) hown'.out (by omega)
        refine ⟨.inl ?_, hbel'.out⟩
        first
          | exact ⟨l1, _, hAs.out, rfl, hO2⟩
          | exact ⟨l1, hAs.out, _, rfl, hO2⟩
          | (refine ⟨l1, hAs.out, ?_⟩; simpa using hO2)
    · have hAn' : Hid (A = none) := hAn
      clear hAn
      by_cases hp : p < bs.length
      · have hp' : (p : Int) < (bs.length : Int) := by omega
        go_wp2_with fail
        go_ret2
        exact ⟨.inr ⟨hAn'.out, rfl⟩, hbel'.out⟩
      · have hp' : ¬ (p : Int) < (bs.length : Int) := by omega
        go_wp2_with fail
        go_ret2
        exact ⟨.inr ⟨hAn'.out, rfl⟩, hbel'.out⟩
end Go.Proofs.YthjgmjhgpjgdlabDoor.SpecRdBody
