/-
  A body written by the program: what putBody and BodyBytes do when they are called.
-/
import Derived.Test.YtffngjgjhialnaaGreatDoorWrIns
namespace Go.Proofs.YtffngjgjhialnaaGreatDoor.WrBody
open Go.RowKit PlainOps NameCalls PlainNum PlainLeb NumCalls ByteMem PutU ImplPut ImplApp PlainBytes ByteWr InsCalls InsImpl PlainShape InsMem PlainAll EveryIns WrIns

theorem ok_kd1 {o a b : Int} (h : insOk o a b = true) (hk : kd o = 1) : a = 0 ∨ a = 1 := by
  by_cases h0 : opNm o = ⟨#[]⟩
  · rw [insOk_no h0] at h; cases h
  · rw [insOk_kd h0, hk] at h
    simp [fits] at h
    omega
theorem own_mono {B B' : Nat} {w : World} {v : Value} {bs : List UInt8} (h : PutU.Own B w v bs) (hB : B' ≤ B) : PutU.Own B' w v bs := by
  refine ⟨h.1, ?_⟩
  rcases h.2 with h0 | ⟨g, cap, cur, hv, hg, r⟩
  · exact .inl h0
  · exact .inr ⟨g, cap, cur, hv, Nat.le_trans hB hg, r⟩
theorem all_ok {l : List I3} {f k : Nat} (h : allF l (f + 1) k = true) : okAt l k = true ∧ allF l f (k + 1) = true := by
  cases ho : okAt l k with
  | false => rw [allF_no ho] at h; cases h
  | true => rw [allF_yes ho] at h; exact ⟨rfl, h⟩
set_option maxHeartbeats 8000000 in
theorem putBody (p : Nat) (w0 w : World) (v : Value) (bs : List UInt8) (a : Option Addr) (cap : Nat) (l : List I3) (h : RdI w0 a l) (hb0 : Below w0.heap.size w0 w) (hp0 : w0.heap.size ≤ p) (hw : Wr p w v bs) (hn : l.length ≤ 1048576) (hall : allF l l.length 0 = true) (hl : bs.length + 21 * l.length ≤ 67108700) :
    Calls Tryz.prog 107 #[.pointer (some ⟨p, 0, none⟩), .slice a l.length cap] w fun e w' => e = .returned (.tuple #[]) ∧ ∃ v', Wr p w' v' (bs ++ bodyB l l.length) ∧ WApp p w w' v v' := by
  have h' : Hid (RdI w0 a l) := h
  have hb' : Hid (Below w0.heap.size w0 w) := hb0
  have hw' : Hid (Wr p w v bs) := hw
  have hF : Hid (allF l l.length 0 = true) := hall
  clear h hb0 hw hall
  go_enter Tryz.func107, Tryz.ntmps107
  go_wp2_with fail
  go_loopw [8] (fun vk wr => ∃ (k f : Nat) (v' : Value), k + f = l.length ∧ vk = .int .i64 k ∧ allF l f k = true ∧ Wr p wr v' (bs ++ bodyB l k) ∧ WApp p w wr v v') (fun vk _ => l.length - (intOf vk).toNat)
  case atStart => exact ⟨0, l.length, v, by omega, rfl, hF.out, by simpa [bodyB] using hw'.out, WApp.refl _ _ _⟩
  case round =>
    obtain ⟨k, f, v1, hk, rfl, hall, hwr, hwa⟩ := hrel
    have hwr' : Hid (Wr p wr v1 (bs ++ bodyB l k)) := hwr
    have hwa' : Hid (WApp p w wr v v1) := hwa
    by_cases hlt : k < l.length
    · have hlt' : (k : Int) < (l.length : Int) := by omega
      obtain ⟨f, rfl⟩ : ∃ j, f = j + 1 := ⟨f - 1, by omega⟩
      obtain ⟨hok, hall2⟩ := all_ok hall
      have hall3 : Hid (allF l f (k + 1) = true) := hall2
      rcases h'.out.later (hb'.out.trans ((hwa.below hw'.out).mono hp0)) with h0 | ⟨b, off, ha, hc⟩
      · omega
      · obtain ⟨c0, c1, c2⟩ := hc k hlt
        subst ha
        have hlen := bodyB_len l k
        have hI : Hid (∀ u, Wr p u v1 (bs ++ bodyB l k) → Calls Tryz.prog 133 #[.pointer (some ⟨p, 0, none⟩), .agg #[.int .i64 (oAt l k), .int .i64 (aAt l k), .int .i64 (bAt l k)]] u fun e w' => e = .returned (.tuple #[]) ∧ ∃ v', Wr p w' v' (bs ++ bodyB l (k + 1)) ∧ WApp p u w' v1 v') := fun u hu => by
          have := putIns p u v1 (bs ++ bodyB l k) (oAt l k) (aAt l k) (bAt l k) (fun hk => ok_kd1 hok hk) hu (by rw [List.length_append]; omega)
          rw [List.append_assoc] at this
          exact this
        clear hc hwr hwa hall hok hall2
        generalize oAt l k = o at *
        generalize aAt l k = x1 at *
        generalize bAt l k = x2 at *
        go_wp2_with (go_at_call 133; refine (hI.out _ (hwr'.out.alloc _)).mono ?_; rintro e w2 ⟨rfl, v2, k2, a2⟩; have k2' : Hid (Wr p w2 v2 (bs ++ bodyB l (k + 1))) := k2; clear k2)
        go_roundw
        case rel => exact ⟨k + 1, f, v2, by omega, by go_num, hall3.out, k2'.out, hwa'.out.trans ((WApp.alloc p wr v1 _).trans a2)⟩
        case measure => simp [intOf]; omega
    · obtain rfl : k = l.length := by omega
      clear hwr hwa
      go_wp2_with fail
      go_end0
      exact ⟨rfl, v1, hwr'.out, hwa'.out⟩
end Go.Proofs.YtffngjgjhialnaaGreatDoor.WrBody
