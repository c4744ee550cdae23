/-
  strings.SplitSeq at one byte: the parts come one by one, in their order.
-/
import Derived.Test.YtjbhelcdakhjbaaDoorRangeBox
namespace Go.Proofs.YtjbhelcdakhjbaaDoor.SplitSeq
open Go.RowKit Go.Shelf PlainOps PlainCut SplitCut SpecTextB RangeBox
attribute [local go_sem] Oper.semAt_some

abbrev Part := { t : List UInt8 // t.length ≤ 1048576 }
/-- The iterator's three boxes lie as they lay. -/
def Keep3 (B : Nat) (W W' : World) : Prop := W.heap.size ≤ W'.heap.size ∧ ∀ b, B ≤ b → b < B + 3 → W'.heap[b]? = W.heap[b]?
theorem Keep3.trans {B : Nat} {X Y Z : World} (h : Keep3 B X Y) (k : Keep3 B Y Z) : Keep3 B X Z := ⟨Nat.le_trans h.1 k.1, fun b h1 h2 => (k.2 b h1 h2).trans (h.2 b h1 h2)⟩
theorem Keep3.box {B b : Nat} {W W' : World} {t : TypeId} {v : Value} (h : Keep3 B W W') (hb : Boxed W b t v) (h1 : B ≤ b) (h2 : b < B + 3) : Boxed W' b t v := (h.2 b h1 h2).trans hb
/-- How much is left. -/
def left (B : Nat) (W : World) : Nat := match W.cell? ⟨B, 0, none⟩ with
  | some (.string s) => s.size
  | _ => 0
theorem left_is {B : Nat} {W : World} {t : TypeId} {s : ByteArray} (h : Boxed W B t (.string s)) : left B W = s.size := by unfold left; rw [h.cell]
theorem box_other {W : World} {b c : Nat} {t : TypeId} {v x : Value} (h : Boxed W b t v) (hne : b ≠ c) : Boxed (W.setCell ⟨c, 0, none⟩ x) b t v := (Below.heap_setCell _ _ _ _ hne).trans h
set_option maxRecDepth 100000 in
set_option maxHeartbeats 4000000 in
theorem seq1 (n : Nat) (hn : 1 ≤ n) (B : Nat) (l : List UInt8) (hl : l.length ≤ 1048576) (w : World) (hs : Boxed w B 9 (.string (tx l))) (hp : Boxed w (B + 1) 9 (.string ⟨#[59]⟩)) (hv : Boxed w (B + 2) 3 (.int .i64 0)) :
    SeqBox Fence.wide n 33 #[.pointer (some ⟨B + 1, 0, none⟩), .pointer (some ⟨B, 0, none⟩), .pointer (some ⟨B + 2, 0, none⟩)] (fun x : Part => #[Value.string (tx x.1)]) (Keep3 B) B
      (fun ys => ys.map (·.1) = cutL 59 l) (fun pre => pre.map (·.1) <+: cutL 59 l) (cutL 59 l).length w := fun L J Jx W hW hJ hY h0 => by
  have s0 := hW.box hs (Nat.le_refl _) (by omega)
  have p0 := hW.box hp (by omega) (by omega)
  have v0 := hW.box hv (by omega) (by omega)
  have hix : Hid _ := fun (t : List UInt8) u => Tryd.strings_Index_one (tx t) 59 u
  refine callsIn_of_wp Tryd.func33 rfl trivial ?_ rfl
  simp only [Tryd.ntmps33, List.size_toArray, List.length_cons, List.length_nil, Nat.reduceAdd, Nat.reduceSub, Array.replicate_succ, Array.replicate_zero, List.push_toArray, List.append_toArray, List.nil_append, List.cons_append]
  have c0 := s0.cell
  have c1 := p0.cell
  have c2 := v0.cell
  have hz : (⟨#[59]⟩ : ByteArray).size = 1 := rfl
  gi_wp2
  gi_loopw [7] (fun _ wr => ∃ (pre : List Part) (rest : List UInt8), rest.length ≤ l.length ∧ cutL 59 l = pre.map (·.1) ++ cutL 59 rest ∧ Boxed wr B 9 (.string (tx rest)) ∧ Boxed wr (B + 1) 9 (.string ⟨#[59]⟩) ∧ Boxed wr (B + 2) 3 (.int .i64 0) ∧ J pre wr)
    (fun _ wr => left B wr)
  case atStart => exact ⟨[], l, Nat.le_refl _, rfl, s0, p0, v0, h0⟩
  case round =>
    obtain ⟨pre, rest, hr, hc, s1, p1, v1, hj⟩ := hrel
    have d0 := s1.cell
    have d1 := p1.cell
    have d2 := v1.cell
    have f0 := s1.frozen
    by_cases q : Lib.indexByte rest 59 = -1
    · have hm := cut_miss 59 rest q
      rw [hm] at hc
      obtain ⟨fn, tmps, assign, body, hy, hR⟩ := hY pre ⟨rest, by omega⟩ wr hj (by rw [hc]; simp)
      dsimp only at hy
      gi_wp2_with (refine ⟨trivial, ?_⟩; gi_at_call 35; refine (callsIn_wide.2 (hix.out rest _)).mono ?_; rw [tx_l, q]; rintro e w' ⟨rfl, rfl⟩)
      refine hR.mono ?_
      rintro e W3 (⟨rfl, hJ3, hk3⟩ | ⟨rfl, hJx3⟩)
      · gi_wp2
        go_end0
        exact ⟨⟨_, rfl⟩, .inl ⟨_, by simp [hc], hJ3⟩⟩
      · gi_wp2
        go_end0
        exact ⟨⟨_, rfl⟩, .inr ⟨_, by simp [hc], hJx3⟩⟩
    · have hge := Lib.indexByte_ge rest 59
      obtain ⟨i, hi⟩ : ∃ i : Nat, Lib.indexByte rest 59 = i := ⟨(Lib.indexByte rest 59).toNat, by omega⟩
      have hlt : i < rest.length := (List.getElem?_eq_some_iff.1 (Lib.indexByte_some hi).1).1
      have hm := cut_hit 59 rest i hi
      have hn0 : ¬ (i : Int) < 0 := by omega
      have hsz := tx_len rest
      obtain ⟨fn, tmps, assign, body, hy, hR⟩ := hY pre ⟨rest.take i, by rw [List.length_take]; omega⟩ wr hj (by rw [hc, hm]; simp)
      dsimp only at hy
      rw [← tx_take] at hy
      gi_wp2_with (refine ⟨trivial, ?_⟩; gi_at_call 35; refine (callsIn_wide.2 (hix.out rest _)).mono ?_; rw [tx_l, hi]; rintro e w' ⟨rfl, rfl⟩)
      refine hR.mono ?_
      rintro e W3 (⟨rfl, hJ3, hk3⟩ | ⟨rfl, hJx3⟩)
      · have s3 := hk3.box s1 (Nat.le_refl _) (by omega)
        have p3 := hk3.box p1 (by omega) (by omega)
        have v3 := hk3.box v1 (by omega) (by omega)
        have e0 := s3.cell
        have e1 := p3.cell
        have e2 := v3.cell
        have g0 := s3.frozen
        have hns : (i : Int) + 1 ≤ ((tx rest).size : Int) := by omega
        gi_wp2
        go_roundw
        case rel => exact ⟨pre ++ [⟨rest.take i, by rw [List.length_take]; omega⟩], rest.drop (i + 1), by rw [List.length_drop]; omega, by rw [hc, hm]; simp, by rw [← tx_drop]; exact s3.set _, box_other p3 (by omega), box_other v3 (by omega), hJ _ _ _ hJ3⟩
        case measure => rw [left_is s1, left_is (s3.set _), ByteArray.size_extract]; omega
      · gi_wp2
        refine bodyPost_ret (results_none rfl _ _ _) rfl ?_
        exact ⟨⟨_, rfl⟩, .inr ⟨_, ⟨cutL 59 (rest.drop (i + 1)), by rw [hc, hm]; simp⟩, hJx3⟩⟩
end Go.Proofs.YtjbhelcdakhjbaaDoor.SplitSeq
