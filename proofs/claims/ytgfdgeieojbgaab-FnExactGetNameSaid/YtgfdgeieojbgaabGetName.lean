/-
  What GetName answers when it is called, the specification's and the program's.
-/
import Derived.Test.YtgfdgeieojbgaabPutULaw
import Derived.Test.YtgfdgeieojbgaabSpecGets
import Derived.Test.YtgfdgeieojbgaabImplGets
import Derived.Laws.BytesArg
import Derived.Shelf.Bytes.SlSmallAll
namespace Go.Proofs.Ytgfdgeieojbgaab.GetName
open Go.RowKit PlainNum PlainLeb PlainGet NumCalls ByteMem PutU PutULaw

/-- The text of k bytes from n on. -/
def sub (bs : List UInt8) (n k : Nat) : ByteArray := strOfNums (((bs.drop n).take k).map (fun u => (u.toNat : Int)))
theorem sub_zero (bs : List UInt8) (n : Nat) : sub bs n 0 = ByteArray.empty := rfl
theorem sub_cell {w : World} {b : Nat} {bs : List UInt8} (k : Blk w b bs) {n m : Nat} (h : n + m ≤ bs.length) : ∀ i, i < m → w.cell? ⟨b, n + i, none⟩ = some (.int .u8 ((((bs.drop n).take m).map (fun u => (u.toNat : Int))).getD i 0)) := by
  intro i hi
  rw [k.cell (n + i) (by omega)]
  have h2 : n + i < bs.length := by omega
  simp [List.getD, hi, h2]
def ansN (bs : List UInt8) (p : Int) : Value :=
  if 0 ≤ p ∧ p < bs.length ∧ okU (tk bs p) ∧ (val (tk bs p) : Int) ≤ (bs.length : Int) - (p + (tk bs p).length) then .tuple #[.string (sub bs (p + (tk bs p).length).toNat (val (tk bs p))), .int .i64 (p + (tk bs p).length + val (tk bs p)), .bool true] else .tuple #[.string ByteArray.empty, .int .i64 0, .bool false]
theorem ansU_cases2 (bs : List UInt8) (p : Int) :
    (∃ (N L : Nat), ansU bs p = .tuple #[.int .i64 (N : Int), .int .i64 (p + L), .bool true] ∧ 0 ≤ p ∧ p < bs.length ∧ L ≤ 5 ∧ ((N : Int) ≤ (bs.length : Int) - (p + L) → ansN bs p = .tuple #[.string (sub bs (p + L).toNat N), .int .i64 (p + L + N), .bool true]) ∧ (¬ (N : Int) ≤ (bs.length : Int) - (p + L) → ansN bs p = .tuple #[.string ByteArray.empty, .int .i64 0, .bool false])) ∨ (ansU bs p = .tuple #[.int .i64 0, .int .i64 0, .bool false] ∧ ansN bs p = .tuple #[.string ByteArray.empty, .int .i64 0, .bool false]) := by
  by_cases h : 0 ≤ p ∧ p < bs.length ∧ okU (tk bs p)
  · exact .inl ⟨_, _, ansU_yes h, h.1, h.2.1, tk_length _ _, fun hf => if_pos ⟨h.1, h.2.1, h.2.2, hf⟩, fun hf => if_neg fun hh => hf hh.2.2.2⟩
  · exact .inr ⟨ansU_no h, if_neg fun hh => h ⟨hh.1, hh.2.1, hh.2.2.1⟩⟩
set_option maxRecDepth 100000 in
set_option maxHeartbeats 4000000 in
theorem spec_getName (w : World) (b cap : Nat) (bs : List UInt8) (p : Int) (k : Blk w b bs) (hcap : bs.length ≤ cap) (hl : bs.length ≤ 1048576) :
    Calls Try.prog 11 #[.slice (some ⟨b, 0, none⟩) bs.length cap, .int .i64 p] w fun e w' => e = .returned (ansN bs p) ∧ w = w' := by
  have hc := SpecGets.spec_getU w b 0 cap bs p (fun j hj => by rw [Nat.zero_add]; exact k.cell j hj) (by omega)
  obtain ⟨ans, hans⟩ : ∃ ans, ansN bs p = ans := ⟨_, rfl⟩
  rw [hans]
  rcases ansU_cases2 bs p with ⟨N, L, aU, p0, p1, L0, hyes, hno⟩ | ⟨aU, hno⟩
  · rw [aU] at hc
    obtain ⟨pn, rfl⟩ : ∃ pn : Nat, p = pn := ⟨p.toNat, by omega⟩
    by_cases hfit : (N : Int) ≤ (bs.length : Int) - ((pn : Int) + L)
    · have hres : Hid (ans = _) := hans.symm.trans (hyes hfit)
      rw [show ((pn : Int) + (L : Int)).toNat = pn + L by omega] at hres
      clear hyes hno hans
      have hf1 : ¬ (bs.length : Int) - ((pn : Int) + L) < (N : Int) := by omega
      by_cases hN : N = 0
      · subst hN
        have hcv := fun (w : World) (q : Option Addr) (c : Nat) => run_convert_bytes_zero w 22 5 Try.underlying22 Try.underlying5 q c 9 Try.underlying9
        have hsub : Hid (sub bs (pn + L) 0 = ByteArray.empty) := sub_zero _ _
        rw [hsub.out] at hres
        go_enter Try.func11, Try.ntmps11
        go_wp2_with (go_at_call 16; refine hc.mono ?_; rintro e w' ⟨rfl, rfl⟩)
        all_goals (go_ret3; exact ⟨by rw [hres.out]; rfl, rfl⟩)
      · have hcv : Hid (∀ w, Blk w b bs → (convert 22 9 (.slice (some ⟨b, pn + L, none⟩) N (cap - (pn + L)))).run Try.prog w = .ok (.string (sub bs (pn + L) N)) w) := fun w k => run_convert_bytes_arg w 22 5 Try.underlying22 Try.underlying5 b (pn + L) N (cap - (pn + L)) (((bs.drop (pn + L)).take N).map (fun u : UInt8 => (u.toNat : Int))) (by simp; omega) (sub_cell k (by omega)) 9 Try.underlying9
        have hlt : pn + L < cap := by omega
        generalize sub bs (pn + L) N = S at *
        have hcw := hcv.out w k
        go_enter Try.func11, Try.ntmps11
        go_wp2_with (go_at_call 16; refine hc.mono ?_; rintro e w' ⟨rfl, rfl⟩)
        go_ret3
        exact ⟨by rw [hres.out]; rfl, rfl⟩
    · have hres : Hid (ans = _) := hans.symm.trans (hno hfit)
      clear hyes hno hans
      have hf1 : (bs.length : Int) - ((pn : Int) + L) < (N : Int) := by omega
      go_enter Try.func11, Try.ntmps11
      go_wp2_with (go_at_call 16; refine hc.mono ?_; rintro e w' ⟨rfl, rfl⟩)
      go_ret3
      exact ⟨by rw [hres.out]; rfl, rfl⟩
  · rw [aU] at hc
    have hres : Hid (ans = _) := hans.symm.trans hno
    clear hans hno
    go_enter Try.func11, Try.ntmps11
    go_wp2_with (go_at_call 16; refine hc.mono ?_; rintro e w' ⟨rfl, rfl⟩)
    go_ret3
    exact ⟨by rw [hres.out]; rfl, rfl⟩
set_option maxRecDepth 100000 in
set_option maxHeartbeats 4000000 in
theorem impl_getName (w : World) (b cap : Nat) (bs : List UInt8) (p : Int) (k : Blk w b bs) (hcap : bs.length ≤ cap) (hl : bs.length ≤ 1048576) :
    Calls Try.prog 12 #[.slice (some ⟨b, 0, none⟩) bs.length cap, .int .i64 p] w fun e w' => e = .returned (ansN bs p) ∧ Below w.heap.size w w' := by
  have hc := ImplGets.impl_getU w b 0 cap bs p hcap (by omega) k.lt (fun j hj => by rw [Nat.zero_add]; exact k.cell j hj)
  obtain ⟨ans, hans⟩ : ∃ ans, ansN bs p = ans := ⟨_, rfl⟩
  rw [hans]
  rcases ansU_cases2 bs p with ⟨N, L, aU, p0, p1, L0, hyes, hno⟩ | ⟨aU, hno⟩
  · rw [aU] at hc
    obtain ⟨pn, rfl⟩ : ∃ pn : Nat, p = pn := ⟨p.toNat, by omega⟩
    by_cases hfit : (N : Int) ≤ (bs.length : Int) - ((pn : Int) + L)
    · have hres : Hid (ans = _) := hans.symm.trans (hyes hfit)
      rw [show ((pn : Int) + (L : Int)).toNat = pn + L by omega] at hres
      clear hyes hno hans
      have hf1 : ¬ (bs.length : Int) - ((pn : Int) + L) < (N : Int) := by omega
      by_cases hN : N = 0
      · subst hN
        have hcv := fun (w : World) (q : Option Addr) (c : Nat) => run_convert_bytes_zero w 22 5 Try.underlying22 Try.underlying5 q c 9 Try.underlying9
        have hsub : Hid (sub bs (pn + L) 0 = ByteArray.empty) := sub_zero _ _
        rw [hsub.out] at hres
        go_enter Try.func12, Try.ntmps12
        go_wp2_with (go_at_call 17; refine hc.mono ?_; rintro e w2 ⟨rfl, b2⟩)
        all_goals (go_ret3; exact ⟨by rw [hres.out]; rfl, b2⟩)
      · have hcv : Hid (∀ w, Blk w b bs → (convert 22 9 (.slice (some ⟨b, pn + L, none⟩) N (cap - (pn + L)))).run Try.prog w = .ok (.string (sub bs (pn + L) N)) w) := fun w k => run_convert_bytes_arg w 22 5 Try.underlying22 Try.underlying5 b (pn + L) N (cap - (pn + L)) (((bs.drop (pn + L)).take N).map (fun u : UInt8 => (u.toNat : Int))) (by simp; omega) (sub_cell k (by omega)) 9 Try.underlying9
        have hlt : pn + L < cap := by omega
        generalize sub bs (pn + L) N = S at *
        go_enter Try.func12, Try.ntmps12
        go_wp2_with (go_at_call 17; refine hc.mono ?_; rintro e w2 ⟨rfl, b2⟩; have hcw := hcv.out w2 (k.below b2))
        go_ret3
        exact ⟨by rw [hres.out]; rfl, b2⟩
    · have hres : Hid (ans = _) := hans.symm.trans (hno hfit)
      clear hyes hno hans
      have hf1 : (bs.length : Int) - ((pn : Int) + L) < (N : Int) := by omega
      go_enter Try.func12, Try.ntmps12
      go_wp2_with (go_at_call 17; refine hc.mono ?_; rintro e w2 ⟨rfl, b2⟩)
      go_ret3
      exact ⟨by rw [hres.out]; rfl, b2⟩
  · rw [aU] at hc
    have hres : Hid (ans = _) := hans.symm.trans hno
    clear hans hno
    go_enter Try.func12, Try.ntmps12
    go_wp2_with (go_at_call 17; refine hc.mono ?_; rintro e w2 ⟨rfl, b2⟩)
    go_ret3
    exact ⟨by rw [hres.out]; rfl, b2⟩
end Go.Proofs.Ytgfdgeieojbgaab.GetName
