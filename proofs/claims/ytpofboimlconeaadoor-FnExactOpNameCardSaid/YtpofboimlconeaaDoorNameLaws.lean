/-
  The walks of the exact laws of OpName and NameOp.
-/
import Derived.Test.YtpofboimlconeaaDoorNameCalls
namespace Go.Proofs.YtpofboimlconeaaDoor.NameLaws
open Go.RowKit PlainOps NameCalls
theorem fnExactOpName (op : Int) (w : World) (ht : Tab w) :
    Calls Tryd.prog 4 #[.int .i64 op] w fun e w' => e = .returned (.bool true) ∧ Below w.heap.size w w' := by
  have h1 : Hid _ := fun u => spec_opName op u
  have h2 : Hid _ := fun u => impl_opName op u
  have ht' : Hid (Tab w) := ht
  clear ht
  generalize opNm op = T at h1 h2
  go_enter Tryd.func4, Tryd.ntmps4
  go_wp2_with (first | (go_at_call 9; refine (h1.out _).mono ?_; rintro e w1 ⟨rfl, b1⟩) | (go_at_call 8; refine (h2.out _ (ht'.out.later b1)).mono ?_; rintro e w2 ⟨rfl, rfl⟩))
  go_ret
  exact ⟨rfl, b1⟩
theorem fnExactNameOp (s : ByteArray) (w : World) (ht : Tab w) :
    Calls Tryd.prog 5 #[.string s] w fun e w' => e = .returned (.bool true) ∧ Below w.heap.size w w' := by
  have h1 : Hid _ := fun u => spec_nameOp s u
  have h2 : Hid _ := fun u => impl_nameOp s u
  have ht' : Hid (Tab w) := ht
  clear ht
  generalize nmOp s = T at h1 h2
  by_cases hbig : (1048576 : Int) < (s.size : Int)
  · go_enter Tryd.func5, Tryd.ntmps5
    go_wp2_with fail
    go_ret
    exact ⟨rfl, Below.refl _ _⟩
  · go_enter Tryd.func5, Tryd.ntmps5
    go_wp2_with (first | (go_at_call 11; refine (h1.out _).mono ?_; rintro e w1 ⟨rfl, b1⟩) | (go_at_call 10; refine (h2.out _ (ht'.out.later b1)).mono ?_; rintro e w2 ⟨rfl, rfl⟩))
    go_ret
    exact ⟨rfl, b1⟩
end Go.Proofs.YtpofboimlconeaaDoor.NameLaws
