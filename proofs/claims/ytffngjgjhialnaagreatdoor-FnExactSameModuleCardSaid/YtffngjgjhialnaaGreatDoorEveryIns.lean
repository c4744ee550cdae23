/-
  Every over a list of instructions: what it answers when it is called with InsOk.
-/
import Derived.Test.YtffngjgjhialnaaGreatDoorPlainAll
import Derived.Test.YtffngjgjhialnaaGreatDoorInsMem
namespace Go.Proofs.YtffngjgjhialnaaGreatDoor.EveryIns
open Go.RowKit PlainOps NameCalls PlainNum NumCalls InsCalls InsImpl PlainShape InsMem PlainAll
theorem hb2 {B : Nat} {w w' : World} {o : Obj} (hB : B ≤ w.heap.size) (h : Below (w.alloc o).heap.size (w.alloc o) w') : Below B w w' :=
  ((Below.refl _ _).alloc hB _).trans (h.mono (by simp; omega))
set_option maxHeartbeats 8000000 in
theorem every_ins (w : World) (a : Option Addr) (cap : Nat) (l : List I3) (h : RdI w a l) (hn : l.length ≤ 1048576) (ht : Tab w) :
    Calls Tryz.prog 141 #[.slice a l.length cap, .func (.func 142) #[] #[]] w fun e w' => e = .returned (.bool (allF l l.length 0)) ∧ Below w.heap.size w w' := by
  obtain ⟨R, hR⟩ : ∃ R, allF l l.length 0 = R := ⟨_, rfl⟩
  have hF : Hid (allF l l.length 0 = R) := hR
  rw [hR]
  have h' : Hid (RdI w a l) := h
  have ht' : Hid (Tab w) := ht
  clear hR h ht
  go_enter Tryz.func141, Tryz.ntmps141
  go_wp2_with fail
  go_loopw [9] (fun vk wr => ∃ (k f : Nat), k + f = l.length ∧ vk = .int .i64 k ∧ allF l f k = R ∧ Below w.heap.size w wr) (fun vk _ => l.length - (intOf vk).toNat)
  case atStart => exact ⟨0, l.length, by omega, rfl, hF.out, Below.refl _ _⟩
  case round =>
    obtain ⟨k, f, hk, rfl, hall, hbel⟩ := hrel
    have hall' : Hid (allF l f k = R) := hall
    have hbel' : Hid (Below w.heap.size w wr) := hbel
    have hsz := hbel.size
    clear hall hF
    by_cases hlt : k < l.length
    · have hlt' : (k : Int) < (l.length : Int) := by omega
      obtain ⟨f, rfl⟩ : ∃ j, f = j + 1 := ⟨f - 1, by omega⟩
      rcases h'.out.later hbel with h0 | ⟨b, off, ha, hc⟩
      · omega
      · obtain ⟨c0, c1, c2⟩ := hc k hlt
        subst ha
        clear hc hbel
        have hok : Hid (∀ u, Tab u → Calls Tryz.prog 142 #[.agg #[.int .i64 (oAt l k), .int .i64 (aAt l k), .int .i64 (bAt l k)]] u fun e w' => e = .returned (.bool (okAt l k)) ∧ Below u.heap.size u w') := fun u hu => impl_insOk (oAt l k) (aAt l k) (bAt l k) u hu
        have hno : Hid (okAt l k = false → allF l (f + 1) k = false) := fun h => allF_no h
        have hyes : Hid (okAt l k = true → allF l (f + 1) k = allF l f (k + 1)) := fun h => allF_yes h
        generalize okAt l k = O at *
        generalize oAt l k = o at *
        generalize aAt l k = x1 at *
        generalize bAt l k = x2 at *
        cases O with
        | false =>
          have e1 : Hid (allF l (f + 1) k = false) := hno.out rfl
          clear hno hyes
          go_wp2_with (go_at_call 142; refine (hok.out _ (ht'.out.later (hbel'.out.alloc hsz _))).mono ?_; rintro e w1 ⟨rfl, hb⟩)
          go_ret
          exact ⟨by rw [← hall'.out, e1.out]; rfl, hbel'.out.trans (hb2 hsz hb)⟩
        | true =>
          have e1 : Hid (allF l (f + 1) k = allF l f (k + 1)) := hyes.out rfl
          clear hno hyes
          go_wp2_with (go_at_call 142; refine (hok.out _ (ht'.out.later (hbel'.out.alloc hsz _))).mono ?_; rintro e w1 ⟨rfl, hb⟩)
          go_roundw
          case rel => exact ⟨k + 1, f, by omega, by go_num, by rw [← e1.out]; exact hall'.out, hbel'.out.trans (hb2 hsz hb)⟩
          case measure => simp [intOf]; omega
    · obtain rfl : k = l.length := by omega
      obtain rfl : f = 0 := by omega
      clear hbel
      go_wp2_with fail
      go_ret
      exact ⟨by rw [← hall'.out]; rfl, hbel'.out⟩
end Go.Proofs.YtffngjgjhialnaaGreatDoor.EveryIns
