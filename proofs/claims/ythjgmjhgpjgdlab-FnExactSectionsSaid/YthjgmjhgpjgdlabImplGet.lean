/-
  What the program's bytesAt and piecesAt tell: the bytes of the number at a place, and what they make together.
-/
import Derived.Test.YthjgmjhgpjgdlabImplPut
import Derived.Test.YthjgmjhgpjgdlabPlainGet
namespace Go.Proofs.Ythjgmjhgpjgdlab.ImplGet
open Go.RowKit Go.Shelf PlainNum PlainLeb PlainGet NumCalls ByteMem PutU ImplPut
attribute [local go_sem] Oper.semAt_some
set_option maxRecDepth 100000 in
set_option maxHeartbeats 2000000 in
theorem bytesAt1 (F : Fence) (n : Nat) (hf : F.fn 33) (hro : F.round = none) (hn : 1 ≤ n) (l Ba Bb n₀ b off cap : Nat) (bs : List UInt8) (p : Nat) (hp : p < bs.length) (hcap : bs.length ≤ cap) (hln : bs.length ≤ 4611686018427387904) (hb : b < n₀) (J Jx : List UInt8 → World → Prop)
    (hY : ∀ pre u W, J pre W → pre.length < (took 5 (bs.drop p)).length → YieldAt F (n - 1) Try.prog l #[.int .u8 (u.toNat : Int)] W fun e W' =>
      (e = .returned (.bool true) ∧ J (pre ++ [u]) W' ∧ Below n₀ W W') ∨ (e = .returned (.bool false) ∧ Jx (pre ++ [u]) W'))
    (W : World) (hBa : W.cell? ⟨Ba, 0, none⟩ = some (.int .i64 (p : Int))) (hBb : W.cell? ⟨Bb, 0, none⟩ = some (.slice (some ⟨b, off, none⟩) bs.length cap))
    (hc : ∀ j, j < bs.length → W.cell? ⟨b, off + j, none⟩ = some (.int .u8 ((bs[j]?.getD 0).toNat : Int))) (h0 : J [] W) :
    CallsIn F n Try.prog 33 #[.func (.yield l) #[] #[], .pointer (some ⟨Ba, 0, none⟩), .pointer (some ⟨Bb, 0, none⟩)] W fun e W' => (∃ v, e = .returned v) ∧
      ((∃ ys, ys = took 5 (bs.drop p) ∧ J ys W') ∨ (∃ pre, pre <+: took 5 (bs.drop p) ∧ Jx pre W')) := by
  have hc' : Hid (∀ j, j < bs.length → W.cell? ⟨b, off + j, none⟩ = some (.int .u8 ((bs[j]?.getD 0).toNat : Int))) := hc
  clear hc
  have h1 : ¬ (p : Int) < 0 := by omega
  have h2 : ¬ (bs.length : Int) ≤ (p : Int) := by omega
  refine callsIn_of_wp Try.func33 rfl hf ?_ hro
  simp only [Try.ntmps33, List.size_toArray, List.length_cons, List.length_nil, Nat.reduceAdd, Nat.reduceSub, Array.replicate_succ, Array.replicate_zero, List.push_toArray, List.append_toArray, List.nil_append, List.cons_append]
  gi_wp2
  obtain ⟨m, hm⟩ : ∃ m, (min ((p : Int) + 5) (bs.length : Int)).toNat - p = m := ⟨_, rfl⟩
  rw [hm]
  have hm5 : m ≤ 5 ∧ p + m ≤ bs.length ∧ (m = 5 ∨ p + m = bs.length) := by omega
  clear hm
  gi_loopw [23] (fun i wr => ∃ (k : Nat) (pre : List UInt8), k ≤ m ∧ i = .int .i64 (k : Int) ∧ pre.length = k ∧ took 5 (bs.drop p) = pre ++ took (5 - k) (bs.drop (p + k)) ∧ J pre wr ∧ Below n₀ W wr)
    (fun i _ => m - (intOf i).toNat)
  case atStart => exact ⟨0, [], by omega, rfl, rfl, rfl, h0, Below.refl _ _⟩
  case round =>
    obtain ⟨k, pre, hk, rfl, hpl, htk, hJs, hnx⟩ := hrel
    by_cases hlt : k < m
    · have hin : p + k < bs.length := by omega
      have hcx : wr.cell? ⟨b, off + p + k, none⟩ = some (.int .u8 ((bs[p + k]?.getD 0).toNat : Int)) := by
        rw [Nat.add_assoc]; exact (hnx.cell (p := ⟨b, off + (p + k), none⟩) hb).trans (hc'.out _ hin)
      have hd := drop_cons hin
      obtain ⟨j, hj⟩ : ∃ j, 5 - k = j + 1 := ⟨4 - k, by omega⟩
      rw [hj, hd] at htk
      generalize bs[p + k]?.getD 0 = u at *
      have hu := u.toNat_lt
      have hklt : (k : Int) < (m : Int) := by omega
      by_cases h128 : u.toNat < 128
      · have ht : took 5 (bs.drop p) = pre ++ [u] := by rw [htk, took_small _ _ h128]
        have hzz : ((u.toNat : Nat) : Int) < 128 := by omega
        obtain ⟨fn, tmps, assign, body, hy, hR⟩ := hY pre u wr hJs (by rw [ht]; simp)
        gi_wp2
        refine hR.mono ?_
        rintro e W3 (⟨rfl, hJ3, hk3⟩ | ⟨rfl, hJx3⟩)
        · gi_wp2
          refine bodyPost_ret (results_none rfl _ _ _) rfl ?_
          exact ⟨⟨_, rfl⟩, .inl ⟨_, ht.symm, hJ3⟩⟩
        · gi_wp2
          refine bodyPost_ret (results_none rfl _ _ _) rfl ?_
          exact ⟨⟨_, rfl⟩, .inr ⟨_, by rw [ht]; exact List.prefix_refl _, hJx3⟩⟩
      · have ht : took 5 (bs.drop p) = (pre ++ [u]) ++ took j (bs.drop (p + k + 1)) := by rw [htk, took_big _ _ h128]; simp
        have hzz : ¬ ((u.toNat : Nat) : Int) < 128 := by omega
        obtain ⟨fn, tmps, assign, body, hy, hR⟩ := hY pre u wr hJs (by rw [ht]; simp)
        gi_wp2
        refine hR.mono ?_
        rintro e W3 (⟨rfl, hJ3, hk3⟩ | ⟨rfl, hJx3⟩)
        · gi_wp2
          go_roundw
          case rel => exact ⟨k + 1, pre ++ [u], by omega, by go_num, by simp [hpl], by rw [show 5 - (k + 1) = j by omega]; exact ht, hJ3, hnx.trans hk3⟩
          case measure => simp [intOf]; omega
        · gi_wp2
          refine bodyPost_ret (results_none rfl _ _ _) rfl ?_
          exact ⟨⟨_, rfl⟩, .inr ⟨_, ⟨_, ht.symm⟩, hJx3⟩⟩
    · obtain rfl : k = m := by omega
      have ht : took 5 (bs.drop p) = pre := by
        rcases hm5.2.2 with h | h
        · rw [htk, h, show 5 - 5 = 0 by omega, took, List.append_nil]
        · rw [htk, h, List.drop_length, took_nil, List.append_nil]
      gi_wp2
      go_end0
      exact ⟨⟨_, rfl⟩, .inl ⟨_, ht.symm, hJs⟩⟩
set_option maxRecDepth 100000 in
set_option maxHeartbeats 2000000 in
/-- .. outside of the bytes: no round. -/
theorem bytesAt1_out (F : Fence) (n : Nat) (hf : F.fn 33) (hro : F.round = none) (l Ba Bb len cap : Nat) (a : Option Addr) (p : Int) (hp : p < 0 ∨ (len : Int) ≤ p) (J : List UInt8 → World → Prop)
    (W : World) (hBa : W.cell? ⟨Ba, 0, none⟩ = some (.int .i64 p)) (hBb : W.cell? ⟨Bb, 0, none⟩ = some (.slice a len cap)) (h0 : J [] W) :
    CallsIn F n Try.prog 33 #[.func (.yield l) #[] #[], .pointer (some ⟨Ba, 0, none⟩), .pointer (some ⟨Bb, 0, none⟩)] W fun e W' => (∃ v, e = .returned v) ∧ J [] W' := by
  refine callsIn_of_wp Try.func33 rfl hf ?_ hro
  simp only [Try.ntmps33, List.size_toArray, List.length_cons, List.length_nil, Nat.reduceAdd, Nat.reduceSub, Array.replicate_succ, Array.replicate_zero, List.push_toArray, List.append_toArray, List.nil_append, List.cons_append]
  rcases (show p < 0 ∨ (¬ p < 0 ∧ (len : Int) ≤ p) by omega) with h1 | ⟨h1, h2⟩
  · gi_wp2
    refine bodyPost_ret (results_none rfl _ _ _) rfl ?_
    exact ⟨⟨_, rfl⟩, h0⟩
  · gi_wp2
    refine bodyPost_ret (results_none rfl _ _ _) rfl ?_
    exact ⟨⟨_, rfl⟩, h0⟩
/-- The bytes that come: those of the number at p, none where p lies outside. -/
def come (bs : List UInt8) (p : Int) : List UInt8 := if 0 ≤ p ∧ p < bs.length then tk bs p else []
theorem bytesAt_stops (F : Fence) (n : Nat) (hf : F.fn 33) (hro : F.round = none) (hn : 1 ≤ n) (Ba Bb n₀ b off cap : Nat) (bs : List UInt8) (p : Int) (hcap : bs.length ≤ cap) (hln : bs.length ≤ 4611686018427387904) (hb : b < n₀) (w : World) (hn₀ : n₀ ≤ w.heap.size) (hla : Ba < w.heap.size) (hlb : Bb < w.heap.size)
    (hBa : w.cell? ⟨Ba, 0, none⟩ = some (.int .i64 p)) (hBb : w.cell? ⟨Bb, 0, none⟩ = some (.slice (some ⟨b, off, none⟩) bs.length cap))
    (hc : ∀ j, j < bs.length → w.cell? ⟨b, off + j, none⟩ = some (.int .u8 ((bs[j]?.getD 0).toNat : Int))) :
    SeqStopsK F n Try.prog 33 #[.pointer (some ⟨Ba, 0, none⟩), .pointer (some ⟨Bb, 0, none⟩)] (fun u : UInt8 => #[Value.int .u8 (u.toNat : Int)]) (Below n₀) (fun ys => ys = come bs p) (fun pre => pre <+: come bs p) (come bs p).length w := fun l J Jx W hW _ _ hY h0 => by
  have ka := (hW.cell (p := ⟨Ba, 0, none⟩) hla).trans hBa
  have kb := (hW.cell (p := ⟨Bb, 0, none⟩) hlb).trans hBb
  by_cases hin : 0 ≤ p ∧ p < bs.length
  · have e1 : come bs p = took 5 (bs.drop p.toNat) := if_pos hin
    have e2 : ((p.toNat : Nat) : Int) = p := by omega
    rw [e1] at hY ⊢
    exact bytesAt1 F n hf hro hn l Ba Bb n₀ b off cap bs p.toNat (by omega) hcap hln hb J Jx hY W (by rw [e2]; exact ka) kb (fun j hj => (hW.cell (p := ⟨b, off + j, none⟩) (Nat.lt_of_lt_of_le hb hn₀)).trans (hc j hj)) h0
  · have e1 : come bs p = [] := if_neg hin
    rw [e1]
    exact (bytesAt1_out F n hf hro l Ba Bb bs.length cap _ p (by omega) J W ka kb h0).mono fun e W' ⟨he, hj⟩ => ⟨he, .inl ⟨_, rfl, hj⟩⟩
set_option maxHeartbeats 1000000 in
theorem bytesAt (F : Fence) (n : Nat) (hf : F.fn 32) (hro : F.round = none) (a : Option Addr) (len cap : Nat) (p : Int) (w : World) :
    CallsIn F n Try.prog 32 #[.slice a len cap, .int .i64 p] w fun e w' => e = .returned (.func (.func 33) #[] #[.pointer (some ⟨w.heap.size + 1, 0, none⟩), .pointer (some ⟨w.heap.size, 0, none⟩)]) ∧ w' = (w.alloc (.cells #[.slice a len cap] 22)).alloc (.cells #[.int .i64 p] 3) := by
  refine callsIn_of_wp Try.func32 rfl hf ?_ hro
  simp only [Try.ntmps32, List.size_toArray, List.length_cons, List.length_nil, Nat.reduceAdd, Nat.reduceSub, Array.replicate_succ, Array.replicate_zero, List.push_toArray, List.append_toArray, List.nil_append, List.cons_append]
  gi_wp2
  go_ret
  exact ⟨rfl, rfl⟩
end Go.Proofs.Ythjgmjhgpjgdlab.ImplGet
