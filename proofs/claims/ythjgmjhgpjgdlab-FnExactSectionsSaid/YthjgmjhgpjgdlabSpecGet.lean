/-
  What the specification reads as pieces.
-/
import Derived.Test.YthjgmjhgpjgdlabPutU
import Derived.Test.YthjgmjhgpjgdlabPlainGet
namespace Go.Proofs.Ythjgmjhgpjgdlab.SpecGet
open Go.RowKit PlainNum PlainLeb PlainGet NumCalls ByteMem PutU

def pcs (t : List UInt8) (at' : Nat) : Value :=
  if fin t then .tuple #[.int .i64 (val t : Int), .int .i64 ((at' : Int) + t.length), .int .i64 (lst t : Int), .int .i64 (t.length : Int)] else .tuple #[.int .i64 0, .int .i64 0, .int .i64 0, .int .i64 0]
theorem pcs_fin {t : List UInt8} (at' : Nat) (h : fin t) : pcs t at' = .tuple #[.int .i64 (val t : Int), .int .i64 ((at' : Int) + t.length), .int .i64 (lst t : Int), .int .i64 (t.length : Int)] := if_pos h
theorem pcs_not {t : List UInt8} (at' : Nat) (h : ¬ fin t) : pcs t at' = .tuple #[.int .i64 0, .int .i64 0, .int .i64 0, .int .i64 0] := if_neg h
theorem results_tmp4 {fn : Func} {t u v x : Tmp} (h : fn.results = #[.tmp t, .tmp u, .tmp v, .tmp x]) (tmps : Array Value) (P : Program) (w : World) :
    (results fn tmps).run P w = .ok (.tuple #[tmps.getD t undef, tmps.getD u undef, tmps.getD v undef, tmps.getD x undef]) w := by
  simp [results, h]
theorem tup4 {a b c d a' b' c' d' : Int} (h1 : a = a') (h2 : b = b') (h3 : c = c') (h4 : d = d') : Ending.returned (.tuple #[.int .i64 a, .int .i64 b, .int .i64 c, .int .i64 d]) = Ending.returned (.tuple #[.int .i64 a', .int .i64 b', .int .i64 c', .int .i64 d']) := by
  subst h1 h2 h3 h4; rfl
set_option maxRecDepth 100000 in
set_option maxHeartbeats 4000000 in
theorem spec_pieces (w : World) (b off cap : Nat) (bs : List UInt8) (at' : Nat) (h : ∀ j, j < bs.length → w.cell? ⟨b, off + j, none⟩ = some (.int .u8 ((bs[j]?.getD 0).toNat : Int))) (hat : at' < bs.length) (hl : bs.length ≤ 4611686018427387904) :
    Calls Try.prog 25 #[.slice (some ⟨b, off, none⟩) bs.length cap, .int .i64 (at' : Int)] w fun e w' => e = .returned (pcs (took 5 (bs.drop at')) at') ∧ w = w' := by
  have h' : Hid (∀ j, j < bs.length → w.cell? ⟨b, off + j, none⟩ = some (.int .u8 ((bs[j]?.getD 0).toNat : Int))) := h
  clear h
  obtain ⟨ans, hans⟩ : ∃ ans, pcs (took 5 (bs.drop at')) at' = ans := ⟨_, rfl⟩
  rw [hans]
  go_enter Try.func25, Try.ntmps25
  go_wp2_with fail
  go_loop [8, 9] (fun s i => ∃ (k : Nat) (pre : List UInt8), k ≤ 5 ∧ i = .int .i64 (k : Int) ∧ pre.length = k ∧ s = .int .i64 (val pre : Int) ∧ took 5 (bs.drop at') = pre ++ took (5 - k) (bs.drop (at' + k)) ∧ ∀ u ∈ pre, 128 ≤ u.toNat) (fun _ i => 5 - (intOf i).toNat)
  case atStart => exact ⟨0, [], by omega, rfl, rfl, rfl, rfl, fun u hu => by simp at hu⟩
  case round =>
    obtain ⟨k, pre, hk, rfl, hpl, rfl, htk, hge⟩ := hrel
    have hv := val_lt pre
    by_cases hk5 : k = 5
    · have hnf : ¬ fin (took 5 (bs.drop at')) := by rw [htk, hk5, show 5 - 5 = 0 by omega, took, List.append_nil]; exact not_fin hge
      subst hk5
      go_wp2_with fail
      (try simp only [Exit.inBlock, Exit.then])
      refine bodyPost_ret (results_tmp4 rfl _ _ _) rfl ?_
      exact ⟨by rw [← hans, pcs_not _ hnf]; rfl, rfl⟩
    · by_cases hin : at' + k < bs.length
      · have c1 := h'.out _ hin
        have hd := drop_cons hin
        have hu := (bs[at' + k]?.getD 0).toNat_lt
        have hand := and_i64_127 ((bs[at' + k]?.getD 0).toNat : Int)
        have hsn := val_snoc pre (bs[at' + k]?.getD 0)
        have hls := lst_snoc pre (bs[at' + k]?.getD 0)
        have hi0 : ¬ (at' : Int) < 0 := by omega
        have hi1 : ¬ (bs.length : Int) ≤ (at' : Int) + (k : Int) := by omega
        obtain ⟨j, hj⟩ : ∃ j, 5 - k = j + 1 := ⟨4 - k, by omega⟩
        rw [hj, hd] at htk
        generalize bs[at' + k]?.getD 0 = u at *
        rw [hpl] at hsn hv
        by_cases h128 : u.toNat < 128
        · have ht : took 5 (bs.drop at') = pre ++ [u] := by rw [htk, took_small _ _ h128]
          have hf : fin (took 5 (bs.drop at')) := by rw [ht]; exact ⟨by simp, by rw [hls]; exact h128⟩
          have hzz : ((u.toNat : Nat) : Int) < 128 := by omega
          have hres := hans.symm.trans (pcs_fin at' hf)
          rw [ht, hsn, hls, List.length_append, List.length_singleton, hpl] at hres
          clear htk ht hf hd hge hj
          rcases (show k = 0 ∨ k = 1 ∨ k = 2 ∨ k = 3 ∨ k = 4 by omega) with rfl | rfl | rfl | rfl | rfl
          all_goals
            simp only [Nat.reducePow] at hv hres
            (try simp only [Nat.add_zero] at c1)
            have hres' : Hid (ans = _) := hres
            clear hres hans
            go_wp2_with fail
            (try simp only [Exit.inBlock, Exit.then])
            refine bodyPost_ret (results_tmp4 rfl _ _ _) rfl ?_
            refine ⟨?_, rfl⟩
            rw [hres'.out]
            exact tup4 (by omega) (by omega) rfl (by omega)
        · have ht : took 5 (bs.drop at') = (pre ++ [u]) ++ took j (bs.drop (at' + k + 1)) := by rw [htk, took_big _ _ h128]; simp
          have hge' : Hid (∀ v ∈ pre ++ [u], 128 ≤ v.toNat) := fun v hv => by
            rcases List.mem_append.1 hv with h | h
            · exact hge v h
            · simp at h; subst h; omega
          have hzz : ¬ ((u.toNat : Nat) : Int) < 128 := by omega
          have ht' : Hid (took 5 (bs.drop at') = (pre ++ [u]) ++ took (5 - (k + 1)) (bs.drop (at' + (k + 1)))) := by rw [show 5 - (k + 1) = j by omega]; exact ht
          clear htk ht hd hge hans
          rcases (show k = 0 ∨ k = 1 ∨ k = 2 ∨ k = 3 ∨ k = 4 by omega) with rfl | rfl | rfl | rfl | rfl
          all_goals
            simp only [Nat.reducePow] at hv hsn
            (try simp only [Nat.add_zero] at c1)
            go_wp2_with fail
            go_round
            case rel => exact ⟨_, pre ++ [u], by decide, by rfl, by rw [List.length_append, hpl]; rfl, by rw [hsn]; go_num, ht'.out, hge'.out⟩
            case measure => simp only [intOf]; omega
      · have hnf : ¬ fin (took 5 (bs.drop at')) := by rw [htk, List.drop_eq_nil_of_le (by omega), took_nil, List.append_nil]; exact not_fin hge
        have hi0 : ¬ (at' : Int) < 0 := by omega
        have hi1 : (bs.length : Int) ≤ (at' : Int) + (k : Int) := by omega
        have hk' : (k : Int) < 5 := by omega
        have hres' : Hid (ans = _) := hans.symm.trans (pcs_not at' hnf)
        clear hans htk hge hnf
        go_wp2_with fail
        (try simp only [Exit.inBlock, Exit.then])
        refine bodyPost_ret (results_tmp4 rfl _ _ _) rfl ?_
        exact ⟨by rw [hres'.out]; rfl, rfl⟩
end Go.Proofs.Ythjgmjhgpjgdlab.SpecGet
