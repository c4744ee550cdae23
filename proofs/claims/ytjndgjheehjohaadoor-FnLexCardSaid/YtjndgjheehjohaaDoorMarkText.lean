/-
  The text that the laws write as a mark: that there is one.
-/
import Derived.Test.YtjndgjheehjohaaDoorNumCalls
import Derived.WalkSpells
import Derived.WalkLawsBesides
import Derived.Laws.IdiomStrings
import Derived.Laws.Concat
import Derived.Deep.RegionWith
namespace Go.Proofs.YtjndgjheehjohaaDoor.MarkText
open Go.RowKit PlainNum NumCalls
theorem conv1 (c : UInt8) (d : Int) (hd : (c.toNat : Int) = d) (W : World) (b : Nat) (hc : W.cell? ⟨b, 0, none⟩ = some (.int .u8 d)) :
    (convert 40 9 (.slice (some ⟨b, 0, none⟩) 1 1)).run Tryd.prog W = .ok (.string ⟨#[c]⟩) W := by
  have h := run_convert_bytes_back (P := Tryd.prog) W 40 9 5 ⟨b, 0, none⟩ 1 [c] Tryd.underlying40 Tryd.underlying5 Tryd.underlying9 (fun j hj => by
    have hj0 : j = 0 := by simp at hj; exact hj
    subst hj0
    show W.cell? ((⟨b, 0, none⟩ : Addr).add 0) = some (.int .u8 (c.toNat : Int))
    rw [hd]; simpa [Addr.add] using hc)
  simpa using h
theorem pow_step {u f : Nat} (hp : 0 < u) (h : u < 10 ^ f) : ∃ g, f = g + 1 ∧ u / 10 < 10 ^ g := by
  cases f with
  | zero => rw [Nat.pow_zero] at h; omega
  | succ g => exact ⟨g, rfl, by rw [Nat.pow_succ] at h; omega⟩
set_option maxHeartbeats 4000000 in
theorem markText (q : Int) (q0 : 1 ≤ q) (q1 : q ≤ 35184372088832) (w : World) :
    Calls Tryd.prog 39 #[.int .i64 q] w fun e w' => (∃ s, e = .returned (.string s)) ∧ Below w.heap.size w w' := by
  obtain ⟨n, rfl⟩ : ∃ n : Nat, q = n := ⟨q.toNat, by omega⟩
  have hn : n ≤ 35184372088832 := by omega
  have hz : ¬ (n : Int) ≤ 0 := by omega
  go_enter Tryd.func39, Tryd.ntmps39
  go_wp2_with fail
  go_loopw [0, 3] (fun vq vs wr => ∃ (u f : Nat) (s : ByteArray), vq = .int .i64 u ∧ vs = .string s ∧ u ≤ n ∧ u < 10 ^ f ∧ s.size + f ≤ 14 ∧ Below w.heap.size w wr) (fun vq _ _ => (intOf vq).toNat)
  case atStart => exact ⟨n, 14, ⟨#[]⟩, rfl, rfl, Nat.le_refl _, by omega, by decide, Below.refl _ _⟩
  case round =>
    obtain ⟨u, f, s, rfl, rfl, hu, hf, hs, hb⟩ := hrel
    have hf' : Hid (u < 10 ^ f) := hf
    have hb' : Hid (Below w.heap.size w wr) := hb
    clear hf hb
    by_cases hp : 0 < u
    · have hp' : (u : Int) > 0 := by omega
      have hp2 : (0 : Int) < u := by omega
      obtain ⟨g, hg, hlt⟩ := pow_step hp hf'.out
      have hlt' : Hid (u / 10 < 10 ^ g) := hlt
      have q2 : (u : Int).tmod 10 = (u : Int) % 10 := Int.tmod_eq_emod_of_nonneg (by omega)
      have q3 : IntKind.i64.wrap (48 + (u : Int) % 10) = 48 + (u : Int) % 10 := IntWalk.i64_in _ (by omega)
      have q4 : IntKind.u8.wrap (48 + (u : Int) % 10) = 48 + (u : Int) % 10 := IntWalk.u8_in _ (by omega)
      have hc : ((UInt8.ofNat (48 + u % 10)).toNat : Int) = 48 + (u : Int) % 10 := by rw [UInt8.toNat_ofNat']; omega
      have hcv := conv1 (UInt8.ofNat (48 + u % 10)) (48 + (u : Int) % 10) hc
      generalize UInt8.ofNat (48 + u % 10) = c at *
      have q5 : IntKind.i64.wrap ((u : Int) / 10) = (u : Int) / 10 := IntWalk.i64_in _ (by omega)
      have q6 : (u : Int).tdiv 10 = (u : Int) / 10 := Int.tdiv_eq_ediv_of_nonneg (by omega)
      have hsz : Hid (((⟨#[c]⟩ : ByteArray) ++ s).size = s.size + 1) := by show _ = _; rw [ByteArray.size_append]; show 1 + s.size = _; omega
      clear hlt hc hf'
      go_wp2_with fail
      go_roundw
      case rel => exact ⟨u / 10, g, _, by go_num, rfl, by omega, hlt'.out, by rw [hsz.out]; omega, hb'.out.alloc hb'.out.size _⟩
      case measure => simp [intOf]; omega
    · obtain rfl : u = 0 := by omega
      go_wp2_with fail
      go_ret
      exact ⟨⟨_, rfl⟩, hb'.out⟩
end Go.Proofs.YtjndgjheehjohaaDoor.MarkText
