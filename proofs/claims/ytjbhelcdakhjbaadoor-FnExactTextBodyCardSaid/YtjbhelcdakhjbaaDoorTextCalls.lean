/-
  What the program's TextNum answers at a text that NumText writes.
-/
import Derived.Test.YtjbhelcdakhjbaaDoorNumTextLaw
import Derived.Test.YtjbhelcdakhjbaaDoorPlainText
import Derived.Lib.AtoiErrMem
namespace Go.Proofs.YtjbhelcdakhjbaaDoor.TextCalls
open Go.RowKit PlainNum NumCalls Digits NumTextLaw
theorem itoa_below (v : Int) (h0 : -2147483648 ≤ v) (h1 : v ≤ 2147483647) (w : World) (htab : Lib.TabIs Tryd.prog w "internal/strconv.uint64pow10" .u64 Lib.pow10Tab) :
    Calls Tryd.prog 48 #[.int .i64 v] w fun e w' => e = .returned (.string ⟨(Lib.itoa v).toArray⟩) ∧ Below w.heap.size w w' :=
  (Tryd.strconv_Itoa v (by omega) (by omega) w htab).mono fun _ _ ⟨he, k, os, hw⟩ => ⟨he, by rw [hw]; exact below_grow w k os⟩
theorem parse_ok (s : ByteArray) (hs : s.size ≤ 9223372036854775806) (v : Int) (h : Lib.parseIntB 32 s.data.toList = .ok v) (w : World) :
    Calls Tryd.prog 38 #[.string s, .int .i64 10, .int .i64 32] w fun e w' => e = .returned (.tuple #[.int .i64 v, .nilIface]) ∧ Below w.heap.size w w' :=
  (Tryd.strconv_ParseInt_10_at32_ok s hs v h w).mono fun _ _ ⟨he, hw⟩ => ⟨he, by
    rcases hw with rfl | ⟨t, rfl⟩
    · exact Below.refl _ _
    · exact Lib.bytesWorld_below w 5 t⟩
theorem impl_textNum_yes (v : Int) (h0 : -2147483648 ≤ v) (h1 : v ≤ 2147483647) (w : World) (htab : Lib.TabIs Tryd.prog w "internal/strconv.uint64pow10" .u64 Lib.pow10Tab) :
    Calls Tryd.prog 25 #[.string ⟨(Lib.itoa v).toArray⟩] w fun e w' => e = .returned (.tuple #[.int .i64 v, .bool true]) ∧ Below w.heap.size w w' := by
  have hlen : (Lib.itoa v).length ≤ 21 := Lib.itoa_length_le v (by omega) (by omega)
  have hp : Hid (Calls Tryd.prog 38 #[.string ⟨(Lib.itoa v).toArray⟩, .int .i64 10, .int .i64 32] w fun e w' => e = .returned (.tuple #[.int .i64 v, .nilIface]) ∧ Below w.heap.size w w') :=
    parse_ok _ (by show (Lib.itoa v).toArray.size ≤ _; simp; omega) v (by simpa using PlainText.parse_itoa v h0 h1) w
  have hi : Hid (∀ w', Below w.heap.size w w' → Calls Tryd.prog 48 #[.int .i64 v] w' fun e w2 => e = .returned (.string ⟨(Lib.itoa v).toArray⟩) ∧ Below w.heap.size w w2) :=
    fun w' hb => (itoa_below v h0 h1 w' (Lib.tabBelow_of_tabIs htab w' hb)).mono fun _ _ ⟨he, hb'⟩ => ⟨he, hb.trans (hb'.mono hb.size)⟩
  generalize (⟨(Lib.itoa v).toArray⟩ : ByteArray) = D at *
  clear htab hlen
  go_enter Tryd.func25, Tryd.ntmps25
  go_wp2_with (first | (go_at_call 38; refine hp.out.mono ?_; rintro e w' ⟨rfl, hbel⟩) | (go_at_call 48; refine (hi.out _ ?_).mono ?_; assumption; rintro e w' ⟨rfl, hbel⟩) | go_in)
  go_ret2
  exact ⟨rfl, by assumption⟩
end Go.Proofs.YtjbhelcdakhjbaaDoor.TextCalls
