/-
  The program's textIns at any part, and what strings.SplitSeq hands back.
-/
import Derived.Test.YtjbhelcdakhjbaaDoorTextIns2
import Derived.Test.YtjbhelcdakhjbaaDoorTextIns3
import Derived.Test.YtjbhelcdakhjbaaDoorSplitSeq
namespace Go.Proofs.YtjbhelcdakhjbaaDoor.TextWalk
open Go.RowKit Go.Shelf PlainOps NameCalls InsCalls PlainShape PlainRead PlainCut SpecTextB TextIns TextIns2 TextIns3 RangeBox SplitSeq

theorem ok_miss (t : List UInt8) (h : ¬ ((cutL 32 t).length : Int) - 1 = fC (kd (nmOp (tx ((cutL 32 t).getD 0 []))))) : okI t = false := by
  unfold okI
  simp only [decide_eq_false h, Bool.false_and]
theorem impl_textIns (t : List UInt8) (hl : t.length ≤ 1048576) (w : World) (hT : Tb w) :
    Calls Tryd.prog 14 #[.string (tx t)] w fun e w' => (∃ x y z, e = .returned (.tuple #[.agg #[.int .i64 x, .int .i64 y, .int .i64 z], .bool (okI t)]) ∧ (okI t = true → (x, y, z) = rdI t)) ∧ Below w.heap.size w w' := by
  have hd := getD_size 32 t
  by_cases hm : ((cutL 32 t).length : Int) - 1 = fC (kd (nmOp (tx ((cutL 32 t).getD 0 []))))
  · rcases hQ : cutL 32 t with _ | ⟨q0, _ | ⟨q1, _ | ⟨q2, _ | ⟨q3, r⟩⟩⟩⟩
    · exact absurd hQ (cutL_ne 32 t)
    · rw [hQ] at hm hd
      have hm' : fC (kd (nmOp (tx q0))) = 0 := by simp at hm; omega
      have e1 : okI t = insOk (nmOp (tx q0)) 0 0 := by unfold okI rdI; rw [hQ]; simp [hm']
      have e2 : rdI t = (nmOp (tx q0), 0, 0) := by unfold rdI; rw [hQ]; simp
      rw [e1, e2]
      refine (ins_one t q0 hQ hl w hT hm').mono ?_
      rintro e w' ⟨rfl, hb⟩
      exact ⟨⟨_, _, _, rfl, fun _ => rfl⟩, hb⟩
    · rw [hQ] at hm hd
      have hm' : fC (kd (nmOp (tx q0))) = 1 := by simp at hm; omega
      have hl1 := hd 1
      simp at hl1
      have e1 : okI t = ((T q1).2 && insOk (nmOp (tx q0)) (T q1).1 0) := by unfold okI rdI; rw [hQ]; simp [hm']
      have e2 : rdI t = (nmOp (tx q0), (T q1).1, 0) := by unfold rdI; rw [hQ]; simp
      rw [e1, e2]
      refine (ins_two t q0 q1 hQ hl w hT hm' (T q1).1 (T q1).2 rfl (by omega)).mono ?_
      rintro e w' ⟨⟨x, y, z, rfl, hx⟩, hb⟩
      refine ⟨⟨x, y, z, rfl, fun h => ?_⟩, hb⟩
      obtain ⟨rfl, rfl, rfl⟩ := hx (by simp only [Bool.and_eq_true] at h; exact h.1)
      rfl
    · rw [hQ] at hm hd
      have hm' : fC (kd (nmOp (tx q0))) = 2 := by simp at hm; omega
      have hl1 := hd 1
      have hl2 := hd 2
      simp at hl1 hl2
      have e1 : okI t = ((T q1).2 && ((T q2).2 && insOk (nmOp (tx q0)) (T q1).1 (T q2).1)) := by unfold okI rdI; rw [hQ]; simp [hm']
      have e2 : rdI t = (nmOp (tx q0), (T q1).1, (T q2).1) := by unfold rdI; rw [hQ]; simp
      rw [e1, e2]
      refine (ins_three t q0 q1 q2 hQ hl w hT hm' (T q1).1 (T q1).2 rfl (by omega) (T q2).1 (T q2).2 rfl (by omega)).mono ?_
      rintro e w' ⟨⟨x, y, z, rfl, hx⟩, hb⟩
      refine ⟨⟨x, y, z, rfl, fun h => ?_⟩, hb⟩
      simp only [Bool.and_eq_true] at h
      obtain ⟨rfl, rfl, rfl⟩ := hx h.1 h.2.1
      rfl
    · rw [hQ] at hm
      have := fC_two (kd (nmOp (tx ((q0 :: q1 :: q2 :: q3 :: r).getD 0 []))))
      simp only [List.length_cons] at hm
      omega
  · rw [ok_miss t hm]
    refine (ins_miss t _ rfl hl w hT (List.length_pos_iff.2 (cutL_ne 32 t)) hm).mono ?_
    rintro e w' ⟨rfl, hb⟩
    exact ⟨⟨_, _, _, rfl, fun h => by cases h⟩, hb⟩
theorem split_in (s : ByteArray) (w : World) :
    Calls Tryd.prog 21 #[.string s, .string ⟨#[59]⟩, .int .i64 0] w fun e w' => e = .returned (.func (.func 33) #[] #[.pointer (some ⟨w.heap.size + 1, 0, none⟩), .pointer (some ⟨w.heap.size, 0, none⟩), .pointer (some ⟨w.heap.size + 2, 0, none⟩)]) ∧
      w' = ((w.alloc (.cells #[.string s] 9)).alloc (.cells #[.string ⟨#[59]⟩] 9)).alloc (.cells #[.int .i64 0] 3) := by
  go_enter Tryd.func21, Tryd.ntmps21
  go_wp2_with fail
  go_ret
  exact ⟨rfl, rfl⟩
theorem split_seq (s : ByteArray) (w : World) :
    Calls Tryd.prog 13 #[.string s, .string ⟨#[59]⟩] w fun e w' => e = .returned (.func (.func 33) #[] #[.pointer (some ⟨w.heap.size + 1, 0, none⟩), .pointer (some ⟨w.heap.size, 0, none⟩), .pointer (some ⟨w.heap.size + 2, 0, none⟩)]) ∧
      w' = ((w.alloc (.cells #[.string s] 9)).alloc (.cells #[.string ⟨#[59]⟩] 9)).alloc (.cells #[.int .i64 0] 3) := by
  go_enter Tryd.func13, Tryd.ntmps13
  go_wp2_with (go_at_call 21; refine (split_in _ _).mono ?_; rintro e w1 ⟨rfl, rfl⟩)
  go_ret
  exact ⟨rfl, rfl⟩
end Go.Proofs.YtjbhelcdakhjbaaDoor.TextWalk
