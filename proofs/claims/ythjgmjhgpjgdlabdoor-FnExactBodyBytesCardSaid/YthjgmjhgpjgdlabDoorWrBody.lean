/-
  A body written by the program: what putBody and BodyBytes do when they are called.
-/
import Derived.Test.YthjgmjhgpjgdlabDoorWrIns
namespace Go.Proofs.YthjgmjhgpjgdlabDoor.WrBody
open Go.RowKit PlainOps NameCalls PlainNum PlainLeb NumCalls ByteMem PutU ImplPut ImplApp PlainBytes ByteWr InsCalls InsImpl PlainShape InsMem PlainAll EveryIns WrIns

theorem ok_kd1 {o a b : Int} (h : insOk o a b = true) (hk : kd o = 1) : a = 0 ∨ a = 1 := by
  by_cases h0 : opNm o = ⟨#[]⟩
  · rw [insOk_no h0] at h; cases h
  · rw [insOk_kd h0, hk] at h
    simp [fits] at h
    omega
theorem own_mono {B B' : Nat} {w : World} {v : Value} {bs : List UInt8} (h : PutU.Own B w v bs) (hB : B' ≤ B) : PutU.Own B' w v bs := by
  refine ⟨h.1, ?_⟩
  rcases h.2 with h0 | ⟨g, cap, cur, hv, hg, r⟩
  · exact .inl h0
  · exact .inr ⟨g, cap, cur, hv, Nat.le_trans hB hg, r⟩
theorem all_ok {l : List I3} {f k : Nat} (h : allF l (f + 1) k = true) : okAt l k = true ∧ allF l f (k + 1) = true := by
  cases ho : okAt l k with
  | false => rw [allF_no ho] at h; cases h
  | true => rw [allF_yes ho] at h; exact ⟨rfl, h⟩
set_option maxHeartbeats 8000000 in
theorem putBody (p : Nat) (w0 w : World) (v : Value) (bs : List UInt8) (a : Option Addr) (cap : Nat) (l : List I3) (h : RdI w0 a l) (hb0 : Below w0.heap.size w0 w) (hp0 : w0.heap.size ≤ p) (hw : Wr p w v bs) (hn : l.length ≤ 1048576) (hall : allF l l.length 0 = true) (hl : bs.length + 21 * l.length ≤ 67108700) :
    Calls Tryd.prog 23 #[.pointer (some ⟨p, 0, none⟩), .slice a l.length cap] w fun e w' => e = .returned (.tuple #[]) ∧ ∃ v', Wr p w' v' (bs ++ bodyB l l.length) ∧ WApp p w w' v v' := by
  have h' : Hid (RdI w0 a l) := h
  have hb' : Hid (Below w0.heap.size w0 w) := hb0
  have hw' : Hid (Wr p w v bs) := hw
  have hF : Hid (allF l l.length 0 = true) := hall
  clear h hb0 hw hall
  go_enter Tryd.func23, Tryd.ntmps23
  go_wp2_with fail
  go_loopw [8] (fun vk wr => ∃ (k f : Nat) (v' : Value), k + f = l.length ∧ vk = .int .i64 k ∧ allF l f k = true ∧ Wr p wr v' (bs ++ bodyB l k) ∧ WApp p w wr v v') (fun vk _ => l.length - (intOf vk).toNat)
  case atStart => exact ⟨0, l.length, v, by omega, rfl, hF.out, by simpa [bodyB] using hw'.out, WApp.refl _ _ _⟩
  case round =>
    obtain ⟨k, f, v1, hk, rfl, hall, hwr, hwa⟩ := hrel
    have hwr' : Hid (Wr p wr v1 (bs ++ bodyB l k)) := hwr
    have hwa' : Hid (WApp p w wr v v1) := hwa
    by_cases hlt : k < l.length
    · have hlt' : (k : Int) < (l.length : Int) := by omega
      obtain ⟨f, rfl⟩ : ∃ j, f = j + 1 := ⟨f - 1, by omega⟩
      obtain ⟨hok, hall2⟩ := all_ok hall
      have hall3 : Hid (allF l f (k + 1) = true) := hall2
      rcases h'.out.later (hb'.out.trans ((hwa.below hw'.out).mono hp0)) with h0 | ⟨b, off, ha, hc⟩
      · omega
      · obtain ⟨c0, c1, c2⟩ := hc k hlt
        subst ha
        have hlen := bodyB_len l k
        have hI : Hid (∀ u, Wr p u v1 (bs ++ bodyB l k) → Calls Tryd.prog 37 #[.pointer (some ⟨p, 0, none⟩), .agg #[.int .i64 (oAt l k), .int .i64 (aAt l k), .int .i64 (bAt l k)]] u fun e w' => e = .returned (.tuple #[]) ∧ ∃ v', Wr p w' v' (bs ++ bodyB l (k + 1)) ∧ WApp p u w' v1 v') := fun u hu => by
          have := putIns p u v1 (bs ++ bodyB l k) (oAt l k) (aAt l k) (bAt l k) (fun hk => ok_kd1 hok hk) hu (by rw [List.length_append]; omega)
          rw [List.append_assoc] at this
          exact this
        clear hc hwr hwa hall hok hall2
        generalize oAt l k = o at *
        generalize aAt l k = x1 at *
        generalize bAt l k = x2 at *
        go_wp2_with (go_at_call 37; refine (hI.out _ (hwr'.out.alloc _)).mono ?_; rintro e w2 ⟨rfl, v2, k2, a2⟩; have k2' : Hid (Wr p w2 v2 (bs ++ bodyB l (k + 1))) := k2; clear k2)
        go_roundw
        case rel => exact ⟨k + 1, f, v2, by omega, by go_num, hall3.out, k2'.out, hwa'.out.trans ((WApp.alloc p wr v1 _).trans a2)⟩
        case measure => simp [intOf]; omega
    · obtain rfl : k = l.length := by omega
      clear hwr hwa
      go_wp2_with fail
      go_end0
      exact ⟨rfl, v1, hwr'.out, hwa'.out⟩
set_option maxHeartbeats 4000000 in
theorem impl_bodyBytes (w : World) (a : Option Addr) (cap : Nat) (l : List I3) (h : RdI w a l) (hn : l.length ≤ 1048576) (ht : Tab w) :
    Calls Tryd.prog 8 #[.slice a l.length cap] w fun e w' => ∃ v, e = .returned v ∧ PutU.Own w.heap.size w' v (bodyBytes l) ∧ Below w.heap.size w w' := by
  have hE : Hid (Calls Tryd.prog 21 #[.slice a l.length cap, .func (.func 22) #[] #[]] w fun e w' => e = .returned (.bool (allF l l.length 0)) ∧ Below w.heap.size w w') := every_ins w a cap l h hn ht
  have h' : Hid (RdI w a l) := h
  clear h ht
  cases hall : allF l l.length 0 with
  | false =>
    have e2 : Hid (bodyBytes l = []) := if_neg (by rw [hall]; decide)
    rw [hall] at hE
    clear hall
    go_enter Tryd.func8, Tryd.ntmps8
    go_wp2_with (go_at_call 21; refine hE.out.mono ?_; rintro e w1 ⟨rfl, b1⟩)
    go_ret
    exact ⟨_, rfl, by rw [e2.out]; exact World.ownsRow_nil _ _ _ _, b1⟩
  | true =>
    have e2 : Hid (bodyBytes l = bodyB l l.length) := if_pos hall
    rw [hall] at hE
    have hP : Hid (∀ u, Below w.heap.size w u → Calls Tryd.prog 23 #[.pointer (some ⟨u.heap.size, 0, none⟩), .slice a l.length cap] (u.alloc (.cells #[.slice none 0 0] 45)) fun e w' => e = .returned (.tuple #[]) ∧ ∃ v', Wr u.heap.size w' v' (bodyB l l.length) ∧ WApp u.heap.size (u.alloc (.cells #[.slice none 0 0] 45)) w' (.slice none 0 0) v') := fun u hu => by
      have := putBody u.heap.size w (u.alloc (.cells #[.slice none 0 0] 45)) (.slice none 0 0) [] a cap l h'.out (hu.alloc hu.size _) hu.size ⟨Boxed.new _ _ _, World.ownsRow_nil _ _ _ _⟩ hn hall (by simp; omega)
      simpa using this
    clear hall
    go_enter Tryd.func8, Tryd.ntmps8
    go_wp2_with (first | (go_at_call 21; refine hE.out.mono ?_; rintro e w1 ⟨rfl, b1⟩) | (go_at_call 23; refine (hP.out _ b1).mono ?_; rintro e w2 ⟨rfl, v2, k2, a2⟩; have hc := k2.box.cell; have k2' : Hid (Wr w1.heap.size w2 v2 (bodyB l l.length)) := k2; clear k2))
    go_ret
    have hw0 : Wr w1.heap.size (w1.alloc (.cells #[.slice none 0 0] 45)) (.slice none 0 0) [] := ⟨Boxed.new _ _ _, World.ownsRow_nil _ _ _ _⟩
    exact ⟨_, rfl, by rw [e2.out]; exact own_mono k2'.out.own (by have := b1.size; omega), b1.trans (((Below.refl _ _).alloc b1.size _).trans ((a2.below hw0).mono b1.size))⟩
end Go.Proofs.YthjgmjhgpjgdlabDoor.WrBody
