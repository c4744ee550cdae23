/-
  What the program's Ctz answers where the library's table holds what its text lays, and the walk of its exact law.
-/
import Derived.Test.YtnpjcgmfmfhgdacDoorCtzCalls
import Derived.Test.YtnpjcgmfmfhgdacDoorShelf7
namespace Go.Proofs.YtnpjcgmfmfhgdacDoor.CtzLaw
open Go.RowKit PlainNum NumCalls PlainCtz CtzCalls
theorem lib_tz (x : Int) (w : World) (h0 : 0 ≤ x) (h1 : x ≤ 4294967295) (hT : TabAt 0 Lib.deBruijn32tab w) :
    Calls Tryd.prog 24 #[.int .u32 x] w fun e w' => e = .returned (.int .i64 (Lib.ctz 32 x.toNat : Int)) ∧ w = w' := by
  have e : ((x.toNat : Nat) : Int) = x := by omega
  have h := Any7.bits_TrailingZeros32 Tryd.lays28 x.toNat (by omega) w (fun _ => hT)
  rw [e] at h
  exact h.mono fun _ _ ⟨a, b⟩ => ⟨a, b.symm⟩
theorem impl_ctz (n : Int) (w : World) (hT : TabAt 0 Lib.deBruijn32tab w) :
    Calls Tryd.prog 9 #[.int .i64 n] w fun e w' => e = .returned (.int .i64 (Lib.ctz 32 (n % 4294967296).toNat : Int)) ∧ w = w' := by
  have u1 : IntKind.u32.wrap (wrap32 n) = n % 4294967296 := by rw [IntKind.wrap_u32]; exact plain_wrap n
  have hT' : Hid (TabAt 0 Lib.deBruijn32tab w) := hT
  have h0 : Hid (0 ≤ n % 4294967296) := by show 0 ≤ n % 4294967296; omega
  have h1 : Hid (n % 4294967296 ≤ 4294967295) := by show n % 4294967296 ≤ 4294967295; omega
  clear hT
  go_enter Tryd.func9, Tryd.ntmps9
  go_wp2_with (first | (go_at_call 24; refine (lib_tz (n % 4294967296) _ h0.out h1.out hT'.out).mono ?_; rintro e w' ⟨rfl, rfl⟩) | go_in)
  go_ret
  exact ⟨rfl, rfl⟩
end Go.Proofs.YtnpjcgmfmfhgdacDoor.CtzLaw
