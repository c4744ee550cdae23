/-
  What the program's NumText answers where the library's table of powers of ten holds what its text lays, and the walk of its exact law.
-/
import Derived.Test.YtjndgjheehjohaaDoorDigits
import Derived.Test.YtjndgjheehjohaaDoorShelf
import Derived.Lib.AppendIntMem
namespace Go.Proofs.YtjndgjheehjohaaDoor.NumTextLaw
open Go.RowKit PlainNum NumCalls Digits
theorem below_grow (w : World) (q : Nat) (os : Array Obj) : Below w.heap.size w (Go.Sort.grow (w.drewN q) os) :=
  ⟨rfl, rfl, rfl, by show w.heap.size ≤ (w.heap ++ os).size; simp, fun k hk => by show (w.heap ++ os)[k]? = w.heap[k]?; rw [Array.getElem?_append_left hk]⟩
theorem impl_numText (n : Int) (w : World) (htab : Lib.TabIs Tryd.prog w "internal/strconv.uint64pow10" .u64 Lib.pow10Tab) :
    Calls Tryd.prog 30 #[.int .i64 n] w fun e w' => e = .returned (.string ⟨(Lib.itoa (wrap32 n)).toArray⟩) ∧ Below w.heap.size w w' := by
  have hb := wrap32_lo n
  have hit : Hid (Calls Tryd.prog 71 #[.int .i64 (wrap32 n)] w fun e w' => e = .returned (.string ⟨(Lib.itoa (wrap32 n)).toArray⟩) ∧ Below w.heap.size w w') :=
    (Tryd.strconv_Itoa (wrap32 n) (by omega) (by omega) w htab).mono fun _ _ ⟨he, k, os, hw⟩ => ⟨he, by rw [hw]; exact below_grow w k os⟩
  generalize (⟨(Lib.itoa (wrap32 n)).toArray⟩ : ByteArray) = D at *
  clear htab
  go_enter Tryd.func30, Tryd.ntmps30
  go_wp2_with (first | (go_at_call 71; refine hit.out.mono ?_; rintro e w' ⟨rfl, hbel⟩) | go_in)
  go_ret
  exact ⟨rfl, by assumption⟩
end Go.Proofs.YtjndgjheehjohaaDoor.NumTextLaw
