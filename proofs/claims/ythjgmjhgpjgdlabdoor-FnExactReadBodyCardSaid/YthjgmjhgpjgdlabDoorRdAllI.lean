/-
  Instructions read by the program as long as there are bytes.
-/
import Derived.Test.YthjgmjhgpjgdlabDoorRdOne
import Derived.Test.YthjgmjhgpjgdlabDoorOwnIns
namespace Go.Proofs.YthjgmjhgpjgdlabDoor.RdAllI
open Go.RowKit PlainOps NameCalls PlainNum PlainLeb PlainGet PlainRd PlainIns NumCalls ByteMem PutU Reader ReadNum InsCalls PlainShape InsMem RdOne OwnIns

def lenV : Value → Nat
  | .slice _ n _ => n
  | _ => 0
/-- What reading all answers. -/
def AllPost (B : Nat) (w : World) (r : Nat) (c : Int) (b : Nat) (R : Option (List I3)) (e : Ending) (w' : World) : Prop :=
  ((∃ l v, R = some l ∧ e = .returned v ∧ OwnI B w' v l ∧ RdX w' r c b []) ∨ (R = none ∧ e = gave c)) ∧ w.grownBy w' (some r)
theorem rd_app {w0 wr w2 : World} {r : Nat} {c : Int} {b : Nat} {bs : List UInt8} {row : Option Nat} {o : Obj} (h : RdX wr r c b bs) (hr : r < w0.heap.size) (hb : b < r) (hg : (wr.alloc o).grownBy w2 row) (hrow : ∀ k, row = some k → w0.heap.size ≤ k) : RdX w2 r c b bs :=
  (h.alloc o).kept hg (fun e => by have := hrow r e.symm; omega) (fun e => by have := hrow b e.symm; omega)
set_option maxHeartbeats 4000000 in
set_option maxRecDepth 20000 in
theorem readIns (r : Nat) (c : Int) (b : Nat) (bs : List UInt8) (w : World) (h : RdX w r c b bs) (hl : bs.length ≤ 1048576) (ht : Tab w) (hgr : 0 ≠ r) (f0 : Nat) (hf0 : bs.length ≤ f0) :
    Calls Tryd.prog 28 #[.pointer (some ⟨r, 0, none⟩)] w fun e w' => AllPost w.heap.size w r c b (rdAll f0 bs) e w' := by
  have hrl := h.isLt
  have hbl := h.lt
  have h' : Hid (RdX w r c b bs) := h
  have ht' : Hid (Tab w) := ht
  obtain ⟨R, hR⟩ : ∃ R, rdAll f0 bs = R := ⟨_, rfl⟩
  have hR' : Hid (rdAll f0 bs = R) := hR
  rw [hR]
  clear h ht hR
  go_enter Tryd.func28, Tryd.ntmps28
  go_wp2_with fail
  go_loopw [3] (fun vl wr => ∃ (l1 : List I3) (rest : List UInt8) (f : Nat), OwnI w.heap.size wr vl l1 ∧ RdX wr r c b rest ∧ w.grownBy wr (some r) ∧ rest.length ≤ f ∧ l1.length + rest.length ≤ bs.length ∧ joinR l1 (rdAll f rest) = R) (fun vl _ => bs.length - lenV vl)
  case atStart => exact ⟨[], bs, f0, OwnI.nil _ _, h'.out, grown_refl _ _, hf0, by simp, by rw [hR'.out]; cases R <;> simp [joinR]⟩
  case round =>
    obtain ⟨l1, rest, f, hown, hrd, hgw, hf, hlen, hj⟩ := hrel
    obtain ⟨a1, cap1, N, rfl, hN⟩ := hown.form
    have hown' : Hid (OwnI w.heap.size wr (.slice a1 N cap1) l1) := hown
    have hrd' : Hid (RdX wr r c b rest) := hrd
    have hgw' : Hid (w.grownBy wr (some r)) := hgw
    have hj' : Hid (joinR l1 (rdAll f rest) = R) := hj
    have hsz := hgw.size
    have hF : Hid (Calls Tryd.prog 43 #[.pointer (some ⟨r, 0, none⟩)] wr fun e w' => e = .returned (.bool (decide (rest.length = 0))) ∧ wr = w') := by
      obtain ⟨o, k, x⟩ := hrd
      exact filled r c b o k rest wr x
    clear hown hj hrd hgw
    by_cases h0 : rest = []
    · subst h0
      rw [show decide (([] : List UInt8).length = 0) = true by decide] at hF
      have hRl : Hid (R = some l1) := by rw [← hj'.out, rdAll_nil]; show some (l1 ++ []) = _; rw [List.append_nil]
      clear hj'
      go_wp2_with (go_at_call 43; refine hF.out.mono ?_; rintro e w1 ⟨rfl, rfl⟩)
      go_ret
      exact ⟨.inl ⟨l1, _, hRl.out, rfl, hown'.out, hrd'.out⟩, hgw'.out⟩
    · have hpos : rest.length ≠ 0 := fun e => h0 (List.length_eq_zero_iff.1 e)
      rw [show decide (rest.length = 0) = false from decide_eq_false hpos] at hF
      have tk : Tab wr := Tab.kept ht'.out hgw'.out (fun e => hgr (Option.some.inj e))
      cases hi : rdIns rest with
      | none =>
        have hRn : Hid (R = none) := by rw [← hj'.out, rdAll_no h0 hi]; rfl
        have hO : Hid (Calls Tryd.prog 44 #[.pointer (some ⟨r, 0, none⟩)] wr fun e w' => e = gave c ∧ wr.grownBy w' (some r)) := readOne_no r c b rest wr hrd'.out (by omega) tk hgr hi
        clear hj' hi tk
        go_wp2_with (first | (go_at_call 43; refine hF.out.mono ?_; rintro e w1 ⟨rfl, rfl⟩) | (go_at_call 44; refine hO.out.mono ?_; rintro e w2 ⟨rfl, g2⟩))
        exact ⟨rfl, .inr ⟨hRn.out, rfl⟩, hgw'.out.trans g2⟩
      | some p =>
        obtain ⟨⟨i1, i2, i3⟩, k⟩ := p
        have hle := rdIns_le hi
        obtain ⟨f, rfl⟩ : ∃ j, f = j + 1 := ⟨f - 1, by omega⟩
        have hj2 : Hid (joinR (l1 ++ [(i1, i2, i3)]) (rdAll f (rest.drop k)) = R) := by rw [← hj'.out, rdAll_yes hi, joinR_step]; rfl
        have hO : Hid (Calls Tryd.prog 44 #[.pointer (some ⟨r, 0, none⟩)] wr fun e w' => e = .returned (.agg #[.int .i64 i1, .int .i64 i2, .int .i64 i3]) ∧ RdX w' r c b (rest.drop k) ∧ wr.grownBy w' (some r)) := readOne_yes r c b rest wr hrd'.out (by omega) tk hgr i1 i2 i3 k hi
        clear hj' hi tk
        go_wp2_with (first | (go_at_call 43; refine hF.out.mono ?_; rintro e w1 ⟨rfl, rfl⟩) | (go_at_call 44; refine hO.out.mono ?_; rintro e w2 ⟨rfl, k2, g2⟩; have k2' : Hid (RdX w2 r c b (rest.drop k)) := k2; have g2' : Hid (w.grownBy w2 (some r)) := hgw'.out.trans g2; have o2 : Hid (OwnI w.heap.size w2 (.slice a1 N cap1) l1) := hown'.out.kept g2 (fun k e => by injection e; omega); have z2 := g2.size; clear k2 g2) | (at_builtin; refine wp_appI rfl _ _ rfl o2.out (Nat.le_trans hsz z2) i1 i2 i3 (by omega) rfl _ _ rfl rfl ?_; intro g3 cap3 N3 w3 hN3 o3 q3; have hrow : ∀ k, (Value.slice a1 N cap1).ownBlock = some k → w.heap.size ≤ k := fun k e => (World.ownsRow.lt o2.out k e).1; have k3 : Hid (RdX w3 r c b (rest.drop k)) := rd_app k2'.out hrl hbl q3 hrow; have g3' : Hid (w.grownBy w3 (some r)) := grown_own g2'.out q3 hrow; have o3' : Hid (OwnI w.heap.size w3 (.slice (some ⟨g3, 0, none⟩) N3 cap3) (l1 ++ [(i1, i2, i3)])) := o3; have hN3' : Hid (N3 = (l1 ++ [(i1, i2, i3)]).length) := hN3; clear o3 q3 hrow hN3))
        go_roundw
        case rel => exact ⟨_, rest.drop k, f, o3'.out, k3.out, g3'.out, by rw [List.length_drop]; omega, by rw [List.length_append, List.length_drop]; simp only [List.length_cons, List.length_nil]; omega, hj2.out⟩
        case measure =>
          have e1 := hN.out
          have e2 := hN3'.out
          rw [List.length_append] at e2
          simp only [List.length_cons, List.length_nil] at e2
          simp only [lenV]
          omega
end Go.Proofs.YthjgmjhgpjgdlabDoor.RdAllI
