/-
  What the program's NumText answers where the library's table of powers of ten holds what its text lays, and the walk of its exact law.
-/
import Derived.Test.YtnpjcgmfmfhgdakDoorDigits
import Derived.Test.YtnpjcgmfmfhgdakDoorShelf
import Derived.Lib.AppendIntMem
namespace Go.Proofs.YtnpjcgmfmfhgdakDoor.NumTextLaw
open Go.RowKit PlainNum NumCalls Digits
theorem below_grow (w : World) (q : Nat) (os : Array Obj) : Below w.heap.size w (Go.Sort.grow (w.drewN q) os) :=
  ⟨rfl, rfl, rfl, by show w.heap.size ≤ (w.heap ++ os).size; simp, fun k hk => by show (w.heap ++ os)[k]? = w.heap[k]?; rw [Array.getElem?_append_left hk]⟩
theorem impl_numText (n : Int) (w : World) (htab : Lib.TabIs Tryd.prog w "internal/strconv.uint64pow10" .u64 Lib.pow10Tab) :
    Calls Tryd.prog 9 #[.int .i64 n] w fun e w' => e = .returned (.string ⟨(Lib.itoa (wrap32 n)).toArray⟩) ∧ Below w.heap.size w w' := by
  have hb := wrap32_lo n
  have hit : Hid (Calls Tryd.prog 20 #[.int .i64 (wrap32 n)] w fun e w' => e = .returned (.string ⟨(Lib.itoa (wrap32 n)).toArray⟩) ∧ Below w.heap.size w w') :=
    (Tryd.strconv_Itoa (wrap32 n) (by omega) (by omega) w htab).mono fun _ _ ⟨he, k, os, hw⟩ => ⟨he, by rw [hw]; exact below_grow w k os⟩
  generalize (⟨(Lib.itoa (wrap32 n)).toArray⟩ : ByteArray) = D at *
  clear htab
  go_enter Tryd.func9, Tryd.ntmps9
  go_wp2_with (first | (go_at_call 20; refine hit.out.mono ?_; rintro e w' ⟨rfl, hbel⟩) | go_in)
  go_ret
  exact ⟨rfl, by assumption⟩
theorem fnExactNumText (n : Int) (w : World) (htab : Lib.TabIs Tryd.prog w "internal/strconv.uint64pow10" .u64 Lib.pow10Tab) :
    Calls Tryd.prog 4 #[.int .i64 n] w fun e w' => e = .returned (.bool true) ∧ Below w.heap.size w w' := by
  have hs : Hid (∀ w, Calls Tryd.prog 8 #[.int .i64 n] w fun e w' => e = .returned (.string ⟨(Lib.itoa (wrap32 n)).toArray⟩) ∧ Below w.heap.size w w') := spec_numText n
  have hi : Hid (∀ w', Below w.heap.size w w' → Calls Tryd.prog 9 #[.int .i64 n] w' fun e w2 => e = .returned (.string ⟨(Lib.itoa (wrap32 n)).toArray⟩) ∧ Below w.heap.size w w2) :=
    fun w' hb => (impl_numText n w' (Lib.tabBelow_of_tabIs htab w' hb)).mono fun _ _ ⟨he, hb'⟩ => ⟨he, hb.trans (hb'.mono hb.size)⟩
  generalize (⟨(Lib.itoa (wrap32 n)).toArray⟩ : ByteArray) = D at *
  clear htab
  go_enter Tryd.func4, Tryd.ntmps4
  go_wp2_with (first | (go_at_call 8; refine (hs.out _).mono ?_; rintro e w' ⟨rfl, hbel⟩) | (go_at_call 9; refine (hi.out _ ?_).mono ?_; assumption; rintro e w' ⟨rfl, hbel⟩))
  go_ret
  exact ⟨rfl, by assumption⟩
end Go.Proofs.YtnpjcgmfmfhgdakDoor.NumTextLaw
