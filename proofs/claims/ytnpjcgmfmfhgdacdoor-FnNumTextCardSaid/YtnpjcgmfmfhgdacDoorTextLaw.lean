/-
  The walk of the law of texts of numbers, over whatever number a draw gives, where the library's table holds what its text lays.
-/
import Derived.Test.YtnpjcgmfmfhgdacDoorDraws
import Derived.Test.YtnpjcgmfmfhgdacDoorTextCalls
namespace Go.Proofs.YtnpjcgmfmfhgdacDoor.TextLaw
open Go.RowKit PlainNum NumCalls Draws Digits NumTextLaw TextCalls
theorem fnNumText (a : Option Addr) (len cap : Nat) (w : World) (hs : Src w.heap.size w a len) (htab : Lib.TabIs Tryd.prog w "internal/strconv.uint64pow10" .u64 Lib.pow10Tab) :
    Calls Tryd.prog 4 #[.slice a len cap] w fun e w' => e = .returned (.bool true) ∧ Below w.heap.size w w' := by
  have hm := hs.1
  have hb := Below.refl w.heap.size w
  have ht : Hid (Lib.TabIs Tryd.prog w "internal/strconv.uint64pow10" .u64 Lib.pow10Tab) := htab
  clear htab
  by_cases hbig : 1048576 < (len : Int)
  · go_enter Tryd.func4, Tryd.ntmps4
    go_wp2
    go_ret
    exact ⟨rfl, hb⟩
  · go_enter Tryd.func4, Tryd.ntmps4
    go_wp2_with (go_at_call 12; refine (drawNumText hs (Nat.le_refl _) ?_).mono ?_; assumption; rintro e w' ⟨x, rfl, hb'⟩)
    have hx := wrap32_lo x
    have c1 : Hid (∀ w', Below w.heap.size w w' → Calls Tryd.prog 13 #[.int .i64 x] w' fun e w2 => e = .returned (.string ⟨(Lib.itoa (wrap32 x)).toArray⟩) ∧ Below w.heap.size w w2) :=
      fun w' hb => (impl_numText x w' (Lib.tabBelow_of_tabIs ht.out w' hb)).mono fun _ _ ⟨he, hb'⟩ => ⟨he, hb.trans (hb'.mono hb.size)⟩
    have c2 : Hid (∀ w', Below w.heap.size w w' → Calls Tryd.prog 15 #[.int .i64 x] w' fun e w2 => e = .returned (.string ⟨(Lib.itoa (wrap32 x)).toArray⟩) ∧ Below w.heap.size w w2) :=
      fun w' hb => (spec_numText x w').mono fun _ _ ⟨he, hb'⟩ => ⟨he, hb.trans (hb'.mono hb.size)⟩
    have c3 : Hid (∀ w', Below w.heap.size w w' → Calls Tryd.prog 14 #[.string ⟨(Lib.itoa (wrap32 x)).toArray⟩] w' fun e w2 => e = .returned (.tuple #[.int .i64 (wrap32 x), .bool true]) ∧ Below w.heap.size w w2) :=
      fun w' hb => (impl_textNum_yes (wrap32 x) hx.1 hx.2 w' (Lib.tabBelow_of_tabIs ht.out w' hb)).mono fun _ _ ⟨he, hb'⟩ => ⟨he, hb.trans (hb'.mono hb.size)⟩
    generalize (⟨(Lib.itoa (wrap32 x)).toArray⟩ : ByteArray) = D at *
    go_wp2_with (first
      | (go_at_call 13; refine (c1.out _ ?_).mono ?_; assumption; rintro e w' ⟨rfl, hbel⟩)
      | (go_at_call 15; refine (c2.out _ ?_).mono ?_; assumption; rintro e w' ⟨rfl, hbel⟩)
      | (go_at_call 14; refine (c3.out _ ?_).mono ?_; assumption; rintro e w' ⟨rfl, hbel⟩)
      | (go_at_call 16; refine (impl_wrap _ _).mono ?_; rintro e w' ⟨rfl, rfl⟩))
    go_ret
    exact ⟨rfl, by assumption⟩
end Go.Proofs.YtnpjcgmfmfhgdacDoor.TextLaw
