/-
  What the specification's BodyBytes answers when it is called.
-/
import Derived.Test.YtffngjgjhialnaaGreatDoorSpecIns
import Derived.Test.YtffngjgjhialnaaGreatDoorEveryIns
namespace Go.Proofs.YtffngjgjhialnaaGreatDoor.SpecBody
open Go.RowKit PlainOps NameCalls PlainNum PlainLeb NumCalls ByteMem PutU PutULaw InsCalls PlainShape InsMem PlainAll EveryIns PlainBytes SpecIns
theorem form_n {B : Nat} {w : World} {v : Value} {bs : List UInt8} (h : PutU.Own B w v bs) : ∃ a cap N, v = .slice a N cap ∧ Hid (N = bs.length) := by
  rcases h.2 with ⟨hv, h0⟩ | ⟨g, cap, cur, hv, _⟩
  · exact ⟨none, 0, 0, hv, h0.symm⟩
  · exact ⟨_, _, _, hv, rfl⟩
set_option maxHeartbeats 4000000 in
theorem spec_bodyBytes (w : World) (a : Option Addr) (cap : Nat) (l : List I3) (h : RdI w a l) (hn : l.length ≤ 1048576) :
    Calls Tryz.prog 77 #[.slice a l.length cap] w fun e w' => ∃ v, e = .returned v ∧ PutU.Own w.heap.size w' v (bodyBytes l) ∧ Below w.heap.size w w' := by
  have h' : Hid (RdI w a l) := h
  clear h
  go_enter Tryz.func77, Tryz.ntmps77
  go_wp2_with fail
  go_loopw [3, 9] (fun vb vk wr => ∃ (k f : Nat), k + f = l.length ∧ vk = .int .i64 k ∧ PutU.Own w.heap.size wr vb (bodyB l k) ∧ allF l f k = allF l l.length 0 ∧ Below w.heap.size w wr) (fun _ vk _ => l.length - (intOf vk).toNat)
  case atStart => exact ⟨0, l.length, by omega, rfl, World.ownsRow_made w #[] 0 (Nat.le_refl _) (by decide) rfl, rfl, (Below.refl _ _).alloc (Nat.le_refl _) _⟩
  case round =>
    obtain ⟨k, f, hk, rfl, hown, hall, hbel⟩ := hrel
    obtain ⟨a1, cap1, N, rfl, hN⟩ := form_n hown
    have hown' : Hid (PutU.Own w.heap.size wr (.slice a1 N cap1) (bodyB l k)) := hown
    have hall' : Hid (allF l f k = allF l l.length 0) := hall
    have hbel' : Hid (Below w.heap.size w wr) := hbel
    have hsz := hbel.size
    clear hown hall
    by_cases hlt : k < l.length
    · have hlt' : (k : Int) < (l.length : Int) := by omega
      obtain ⟨f, rfl⟩ : ∃ j, f = j + 1 := ⟨f - 1, by omega⟩
      rcases h'.out.later hbel with h0 | ⟨b, off, ha, hc⟩
      · omega
      · obtain ⟨c0, c1, c2⟩ := hc k hlt
        subst ha
        have hlen := bodyB_len l k
        have hok : Hid (∀ u, Calls Tryz.prog 121 #[.agg #[.int .i64 (oAt l k), .int .i64 (aAt l k), .int .i64 (bAt l k)]] u fun e w' => e = .returned (.bool (okAt l k)) ∧ Below u.heap.size u w') := fun u => spec_insOk (oAt l k) (aAt l k) (bAt l k) u
        have hI : Hid (∀ u, PutU.Own w.heap.size u (.slice a1 N cap1) (bodyB l k) → w.heap.size ≤ u.heap.size → Calls Tryz.prog 122 #[.slice a1 N cap1, .agg #[.int .i64 (oAt l k), .int .i64 (aAt l k), .int .i64 (bAt l k)]] u fun e w' => ∃ v, e = .returned v ∧ PutU.Own w.heap.size w' v (bodyB l (k + 1)) ∧ Below w.heap.size u w') := fun u hu hs => by
          rw [hN.out] at hu ⊢
          exact spec_ins w.heap.size a1 cap1 (bodyB l k) (oAt l k) (aAt l k) (bAt l k) u hu hs (by omega)
        have hno : Hid (okAt l k = false → allF l (f + 1) k = false) := fun h => allF_no h
        have hyes : Hid (okAt l k = true → allF l (f + 1) k = allF l f (k + 1)) := fun h => allF_yes h
        clear hc hbel hlen
        generalize okAt l k = O at *
        generalize oAt l k = o at *
        generalize aAt l k = x1 at *
        generalize bAt l k = x2 at *
        cases O with
        | false =>
          have e2 : Hid (bodyBytes l = []) := if_neg (by rw [← hall'.out, hno.out rfl]; decide)
          clear hno hyes
          go_wp2_with (go_at_call 121; refine (hok.out _).mono ?_; rintro e w1 ⟨rfl, q1⟩)
          go_ret
          exact ⟨_, rfl, by rw [e2.out]; exact World.ownsRow_nil _ _ _ _, hbel'.out.trans (hb2 hsz q1)⟩
        | true =>
          have e1 : Hid (allF l f (k + 1) = allF l l.length 0) := (hyes.out rfl).symm.trans hall'.out
          clear hno hyes
          go_wp2_with (first | (go_at_call 121; refine (hok.out _).mono ?_; rintro e w1 ⟨rfl, q1⟩; obtain ⟨c0, c1, c2⟩ := box_cells q1; have b1 : Hid (Below w.heap.size wr w1) := hb2 hsz q1; have ho1 : Hid (PutU.Own w.heap.size w1 (.slice a1 N cap1) (bodyB l k)) := own_below hown'.out (hb2 (Nat.le_refl _) q1)) | (go_at_call 122; refine (hI.out _ ho1.out (Nat.le_trans hsz b1.out.size)).mono ?_; rintro e w2 ⟨v2, rfl, o2, q2⟩; have ho2 : Hid (PutU.Own w.heap.size w2 v2 (bodyB l (k + 1))) := o2; clear o2))
          go_roundw
          case rel => exact ⟨k + 1, f, by omega, by go_num, ho2.out, e1.out, (hbel'.out.trans b1.out).trans q2⟩
          case measure => simp [intOf]; omega
    · obtain rfl : k = l.length := by omega
      obtain rfl : f = 0 := by omega
      have e2 : Hid (bodyBytes l = bodyB l l.length) := if_pos (hall'.out.symm.trans rfl)
      clear hbel
      go_wp2_with fail
      go_ret
      exact ⟨_, rfl, by rw [e2.out]; exact hown'.out, hbel'.out⟩
end Go.Proofs.YtffngjgjhialnaaGreatDoor.SpecBody
