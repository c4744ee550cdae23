/-
  What the program's TextNum answers at every text of at most 2^20 letters, and the walk of its exact law.
-/
import Derived.Test.YtjbhelcdakhjbaaDoorReadCalls
import Derived.Test.YtjbhelcdakhjbaaDoorTextCalls
namespace Go.Proofs.YtjbhelcdakhjbaaDoor.ImplRead
open Go.RowKit PlainNum NumCalls Digits NumTextLaw TextCalls PlainRead ReadCalls
theorem parse_bad (s : ByteArray) (hs : s.size ≤ 1048576) (h : ∀ v, Lib.parseIntB 32 s.data.toList ≠ .ok v) (ev1 ev2 : Value) (w : World)
    (hv1 : w.cell? ⟨4, 0, none⟩ = some ev1) (hev1 : ev1 = .nilIface ∨ ∃ te pe, ev1 = .iface te pe) (hv2 : w.cell? ⟨5, 0, none⟩ = some ev2) (hev2 : ev2 = .nilIface ∨ ∃ te pe, ev2 = .iface te pe) :
    Calls Tryd.prog 38 #[.string s, .int .i64 10, .int .i64 32] w fun e w' => ∃ (n : Int) (N : Nat), e = .returned (.tuple #[.int .i64 n, .iface 81 (.pointer (some ⟨N, 0, none⟩))]) ∧ Below w.heap.size w w' := by
  cases hp : Lib.parseIntB 32 s.data.toList with
  | ok v => exact absurd hp (h v)
  | «syntax» => exact (Tryd.strconv_ParseInt_10_at32_syntax s (by omega) hp ev1 w hv1 hev1).mono fun _ _ ⟨N, he, _, _, hb⟩ => ⟨_, N, he, hb⟩
  | range => exact (Tryd.strconv_ParseInt_10_at32_range s (by omega) hp ev2 w hv2 hev2).mono fun _ _ ⟨N, he, _, _, hb⟩ => ⟨_, N, he, hb⟩
theorem impl_no (s : ByteArray) (hs : s.size ≤ 1048576) (hno : ∀ v, inR v → Lib.itoa v ≠ s.data.toList) (ev1 ev2 : Value) (w : World) (htab : Lib.TabIs Tryd.prog w "internal/strconv.uint64pow10" .u64 Lib.pow10Tab)
    (hv1 : w.cell? ⟨4, 0, none⟩ = some ev1) (hev1 : ev1 = .nilIface ∨ ∃ te pe, ev1 = .iface te pe) (hv2 : w.cell? ⟨5, 0, none⟩ = some ev2) (hev2 : ev2 = .nilIface ∨ ∃ te pe, ev2 = .iface te pe) :
    Calls Tryd.prog 25 #[.string s] w fun e w' => e = .returned (.tuple #[.int .i64 0, .bool false]) ∧ Below w.heap.size w w' := by
  by_cases hp : ∃ v, Lib.parseIntB 32 s.data.toList = .ok v
  · obtain ⟨v, hp⟩ := hp
    have hw := wrap32_lo v
    have c1 : Hid (Calls Tryd.prog 38 #[.string s, .int .i64 10, .int .i64 32] w fun e w' => e = .returned (.tuple #[.int .i64 v, .nilIface]) ∧ Below w.heap.size w w') := parse_ok s (by omega) v hp w
    have hDs : ¬ (⟨(Lib.itoa (wrap32 v)).toArray⟩ : ByteArray) = s := fun e => hno (wrap32 v) hw (by rw [← e])
    have hDb : (ByteArray.toList ⟨(Lib.itoa (wrap32 v)).toArray⟩ == s.toList) = false := toList_ne hDs
    have c2 : Hid (∀ w', Below w.heap.size w w' → Calls Tryd.prog 48 #[.int .i64 (wrap32 v)] w' fun e w2 => e = .returned (.string ⟨(Lib.itoa (wrap32 v)).toArray⟩) ∧ Below w.heap.size w w2) :=
      fun w' hb => (itoa_below (wrap32 v) hw.1 hw.2 w' (Lib.tabBelow_of_tabIs htab w' hb)).mono fun _ _ ⟨he, hb'⟩ => ⟨he, hb.trans (hb'.mono hb.size)⟩
    generalize (⟨(Lib.itoa (wrap32 v)).toArray⟩ : ByteArray) = D at *
    clear htab hDs hp hv1 hv2 hno hev1 hev2
    go_enter Tryd.func25, Tryd.ntmps25
    go_wp2_with (first | (go_at_call 38; refine c1.out.mono ?_; rintro e w' ⟨rfl, hbel⟩) | (go_at_call 48; refine (c2.out _ ?_).mono ?_; assumption; rintro e w' ⟨rfl, hbel⟩) | go_in)
    go_ret2
    exact ⟨rfl, by assumption⟩
  · have c1 : Hid (Calls Tryd.prog 38 #[.string s, .int .i64 10, .int .i64 32] w fun e w' => ∃ (n : Int) (N : Nat), e = .returned (.tuple #[.int .i64 n, .iface 81 (.pointer (some ⟨N, 0, none⟩))]) ∧ Below w.heap.size w w') := parse_bad s hs (fun v e => hp ⟨v, e⟩) ev1 ev2 w hv1 hev1 hv2 hev2
    clear htab hp hv1 hv2 hno hev1 hev2
    go_enter Tryd.func25, Tryd.ntmps25
    go_wp2_with (first | (go_at_call 38; refine c1.out.mono ?_; rintro e w' ⟨n, N, rfl, hbel⟩) | go_in)
    go_ret2
    exact ⟨rfl, by assumption⟩
theorem impl_textNum (s : ByteArray) (hs : s.size ≤ 1048576) (ev1 ev2 : Value) (w : World) (htab : Lib.TabIs Tryd.prog w "internal/strconv.uint64pow10" .u64 Lib.pow10Tab)
    (hv1 : w.cell? ⟨4, 0, none⟩ = some ev1) (hev1 : ev1 = .nilIface ∨ ∃ te pe, ev1 = .iface te pe) (hv2 : w.cell? ⟨5, 0, none⟩ = some ev2) (hev2 : ev2 = .nilIface ∨ ∃ te pe, ev2 = .iface te pe) :
    Calls Tryd.prog 25 #[.string s] w fun e w' => e = .returned (.tuple #[.int .i64 (T s.data.toList).1, .bool (T s.data.toList).2]) ∧ Below w.heap.size w w' := by
  by_cases h : ∃ v, inR v ∧ Lib.itoa v = s.data.toList
  · obtain ⟨v, hv, e⟩ := h
    have hse : s = ⟨(Lib.itoa v).toArray⟩ := by apply ByteArray.ext; rw [e]
    rw [T_yes hv e, hse]
    exact impl_textNum_yes v hv.1 hv.2 w htab
  · have hno : ∀ v, inR v → Lib.itoa v ≠ s.data.toList := fun v hv e => h ⟨v, hv, e⟩
    rw [T_no hno]
    exact impl_no s hs hno ev1 ev2 w htab hv1 hev1 hv2 hev2
end Go.Proofs.YtjbhelcdakhjbaaDoor.ImplRead
