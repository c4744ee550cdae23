/-
  The specification's digits: what l01Digits and NumText answer, and what they do to memory.
-/
import Derived.Test.YtjbhelcdakhjbaaDoorNumCalls
import Derived.WalkSpells
import Derived.WalkLawsBesides
import Derived.Laws.IdiomStrings
import Derived.Laws.Concat
import Derived.Deep.RegionWith
import Derived.Lib.ItoaNum
import Derived.Lib.ItoaLen
import Derived.Lib.ItoaMem
namespace Go.Proofs.YtjbhelcdakhjbaaDoor.Digits
open Go.RowKit PlainNum NumCalls
theorem conv1 (c : UInt8) (d : Int) (hd : (c.toNat : Int) = d) (W : World) (b : Nat) (hc : W.cell? ⟨b, 0, none⟩ = some (.int .u8 d)) :
    (convert 67 9 (.slice (some ⟨b, 0, none⟩) 1 1)).run Tryd.prog W = .ok (.string ⟨#[c]⟩) W := by
  have h := run_convert_bytes_back (P := Tryd.prog) W 67 9 5 ⟨b, 0, none⟩ 1 [c] Tryd.underlying67 Tryd.underlying5 Tryd.underlying9 (fun j hj => by
    have hj0 : j = 0 := by simp at hj; exact hj
    subst hj0
    show W.cell? ((⟨b, 0, none⟩ : Addr).add 0) = some (.int .u8 (c.toNat : Int))
    rw [hd]; simpa [Addr.add] using hc)
  simpa using h
theorem byte_of (n : Nat) (h : n < 10) : ((UInt8.ofNat (48 + n)).toNat : Int) = 48 + (n : Int) := by
  rw [UInt8.toNat_ofNat']; omega
theorem join (a b : List UInt8) : (⟨a.toArray⟩ : ByteArray) ++ ⟨b.toArray⟩ = ⟨(a ++ b).toArray⟩ := by
  apply ByteArray.ext
  rw [ByteArray.data_append]; simp
theorem b1 {w w' : World} {o : Obj} (hb : Below w.drew.heap.size w.drew w') : Below w.heap.size w (w'.alloc o) :=
  ((Below.refl w.heap.size w).drew.trans hb).alloc hb.size o
theorem b2 {w w' : World} {o : Obj} (hb : Below (w.alloc o).drew.heap.size (w.alloc o).drew w') : Below w.heap.size w w' :=
  (((Below.refl w.heap.size w).alloc (Nat.le_refl _) o).drew).trans (hb.mono (by show w.heap.size ≤ (w.heap.push o).size; simp))
theorem dig_small (u : Nat) (hu : u < 10) (w : World) :
    Calls Tryd.prog 32 #[.int .i64 u] w fun e w' => e = .returned (.string ⟨(Lib.decDigits u).toArray⟩) ∧ Below w.heap.size w w' := by
  have h1 : (u : Int) < 10 := by omega
  rw [Lib.decDigits_one hu]
  obtain ⟨c, hc⟩ : ∃ c, c = UInt8.ofNat (48 + u) := ⟨_, rfl⟩
  have hcv := conv1 c (48 + (u : Int)) (by rw [hc]; exact byte_of u hu)
  rw [← hc]
  clear hc
  go_enter Tryd.func32, Tryd.ntmps32
  go_wp2_with fail
  go_ret
  exact ⟨rfl, (Below.refl _ _).alloc (Nat.le_refl _) _⟩
theorem dig_step (u : Nat) (hu : 10 ≤ u) (hm : u ≤ 4294967296) (w : World) (D : ByteArray) (c : UInt8) (hc : (c.toNat : Int) = 48 + (u : Int) % 10) (hD : D.size ≤ 20) (ih : ∀ W, Calls Tryd.prog 32 #[.int .i64 ((u : Int) / 10)] W fun e w' => e = .returned (.string D) ∧ Below W.heap.size W w' ∧ ∀ p : Addr, p.block < W.heap.size → w'.cell? p = W.cell? p) :
    Calls Tryd.prog 32 #[.int .i64 u] w fun e w' => e = .returned (.string (D ++ ⟨#[c]⟩)) ∧ Below w.heap.size w w' := by
  have h1 : ¬ (u : Int) < 10 := by omega
  have ih' : Hid (∀ W, Calls Tryd.prog 32 #[.int .i64 ((u : Int) / 10)] W fun e w' => e = .returned (.string D) ∧ Below W.heap.size W w' ∧ ∀ p : Addr, p.block < W.heap.size → w'.cell? p = W.cell? p) := ih
  have q1 : IntKind.i64.wrap ((u : Int) / 10) = (u : Int) / 10 := IntWalk.i64_in _ (by omega)
  have q2 : (u : Int).tmod 10 = (u : Int) % 10 := Int.tmod_eq_emod_of_nonneg (by omega)
  have q3 : IntKind.i64.wrap (48 + (u : Int) % 10) = 48 + (u : Int) % 10 := IntWalk.i64_in _ (by omega)
  have q4 : IntKind.u8.wrap (48 + (u : Int) % 10) = 48 + (u : Int) % 10 := IntWalk.u8_in _ (by omega)
  have hcv := conv1 c (48 + (u : Int) % 10) hc
  clear ih hc
  go_enter Tryd.func32, Tryd.ntmps32
  go_wp2_with fail
  go_region_with (go_at_call 32; refine (ih'.out _).mono ?_; rintro e w' ⟨rfl, hb, hcell⟩)
  all_goals (go_wp2_with fail)
  all_goals go_ret
  all_goals first | exact ⟨rfl, b1 (by assumption)⟩ | exact ⟨rfl, b2 (by assumption)⟩
theorem digits : ∀ (u : Nat), u ≤ 4294967296 → ∀ w : World,
    Calls Tryd.prog 32 #[.int .i64 u] w fun e w' => e = .returned (.string ⟨(Lib.decDigits u).toArray⟩) ∧ Below w.heap.size w w' := by
  intro u
  induction u using Nat.strongRecOn with
  | _ u ih =>
    intro hm w
    by_cases hu : u < 10
    · exact dig_small u hu w
    · have e1 : Lib.decDigits u = Lib.decDigits (u / 10) ++ [UInt8.ofNat (48 + u % 10)] := by rw [Lib.decDigits, dif_neg hu]
      have hl : (Lib.decDigits (u / 10)).length ≤ 20 := by rw [Lib.decDigits_length]; exact Lib.nDigits_le20 _ (by omega)
      have h := dig_step u (by omega) hm w ⟨(Lib.decDigits (u / 10)).toArray⟩ (UInt8.ofNat (48 + u % 10)) (by rw [byte_of _ (by omega)]; omega) (by show (Lib.decDigits (u / 10)).toArray.size ≤ 20; simpa using hl)
        (fun W => (ih (u / 10) (by omega) (by omega) W).mono fun _ _ ⟨he, hb⟩ => ⟨he, hb, fun p hp => hb.cell hp⟩)
      refine h.mono fun e w' ⟨he, hb⟩ => ⟨?_, hb⟩
      rw [he, e1, join]
theorem spec_numText (n : Int) (w : World) :
    Calls Tryd.prog 18 #[.int .i64 n] w fun e w' => e = .returned (.string ⟨(Lib.itoa (wrap32 n)).toArray⟩) ∧ Below w.heap.size w w' := by
  have hb := wrap32_lo n
  by_cases hneg : wrap32 n < 0
  · obtain ⟨u, hu, hul, hu1⟩ : ∃ u : Nat, -wrap32 n = (u : Int) ∧ u ≤ 4294967296 ∧ 1 ≤ u := ⟨(-wrap32 n).toNat, by omega, by omega, by omega⟩
    have e1 : Lib.itoa (wrap32 n) = 45 :: Lib.decDigits u := by rw [show wrap32 n = -(u : Int) by omega]; exact Lib.itoa_neg u hu1
    have hl : (Lib.decDigits u).length ≤ 20 := by rw [Lib.decDigits_length]; exact Lib.nDigits_le20 _ (by omega)
    have hj : Hid ((⟨(45 :: Lib.decDigits u).toArray⟩ : ByteArray) = ⟨#[45]⟩ ++ ⟨(Lib.decDigits u).toArray⟩) := by
      show _ = _
      exact (join [45] (Lib.decDigits u)).symm
    rw [e1]
    have hD : (⟨(Lib.decDigits u).toArray⟩ : ByteArray).size ≤ 20 := by show (Lib.decDigits u).toArray.size ≤ 20; simpa using hl
    have hdig : Hid (∀ w : World, Calls Tryd.prog 32 #[.int .i64 (u : Int)] w fun e w' => e = .returned (.string ⟨(Lib.decDigits u).toArray⟩) ∧ Below w.heap.size w w') := digits u hul
    rw [hj.out]
    generalize (⟨(Lib.decDigits u).toArray⟩ : ByteArray) = D at *
    clear e1 hl hj
    go_enter Tryd.func18, Tryd.ntmps18
    go_wp2_with (first | (go_at_call 17; refine (spec_wrap _ _).mono ?_; rintro e w' ⟨rfl, rfl⟩) | (go_at_call 32; refine (hdig.out _).mono ?_; rintro e w' ⟨rfl, hbel⟩))
    go_ret
    exact ⟨rfl, by assumption⟩
  · obtain ⟨u, hu, hul⟩ : ∃ u : Nat, wrap32 n = (u : Int) ∧ u ≤ 4294967296 := ⟨(wrap32 n).toNat, by omega, by omega⟩
    have e1 : Lib.itoa (wrap32 n) = Lib.decDigits u := by rw [hu]; exact Lib.itoa_nonneg u
    rw [e1]
    have hdig : Hid (∀ w : World, Calls Tryd.prog 32 #[.int .i64 (u : Int)] w fun e w' => e = .returned (.string ⟨(Lib.decDigits u).toArray⟩) ∧ Below w.heap.size w w') := digits u hul
    generalize (⟨(Lib.decDigits u).toArray⟩ : ByteArray) = D at *
    clear e1
    go_enter Tryd.func18, Tryd.ntmps18
    go_wp2_with (first | (go_at_call 17; refine (spec_wrap _ _).mono ?_; rintro e w' ⟨rfl, rfl⟩) | (go_at_call 32; refine (hdig.out _).mono ?_; rintro e w' ⟨rfl, hbel⟩))
    go_ret
    exact ⟨rfl, by assumption⟩
end Go.Proofs.YtjbhelcdakhjbaaDoor.Digits
