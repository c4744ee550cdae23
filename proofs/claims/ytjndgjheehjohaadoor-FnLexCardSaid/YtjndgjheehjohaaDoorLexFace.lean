/-
  What the program's Lex answers when it is called.
-/
import Derived.Test.YtjndgjheehjohaaDoorLexImpl
import Derived.Test.YtjndgjheehjohaaDoorOwnTok
import Derived.WalkMore
namespace Go.Proofs.YtjndgjheehjohaaDoor.LexFace
open Go.RowKit InsMem PlainOps PlainLex PlainScan NameCalls CharCalls WordCalls SignCalls TokCalls LexImpl OwnTok

def outL : Ans → List T4
  | .ok l => l
  | .bad _ _ => []
def outC : Ans → Nat
  | .ok _ => 0
  | .bad c _ => c
def outA : Ans → Nat
  | .ok _ => 0
  | .bad _ a => a
theorem alloc_below {w wr : World} (h : Below w.heap.size w wr) (o : Obj) : Below w.heap.size w (wr.alloc o) := h.alloc h.size o
set_option maxRecDepth 20000 in
set_option maxHeartbeats 4000000 in
theorem impl_lex (s : ByteArray) (l : List UInt8) (hl : s.data.toList = l) (w : World) (hm : s.size ≤ 1048576) (hx : MaxL w) (hw : WTab w) (hst : STab w) :
    Calls Tryd.prog 20 #[.string s] w fun e w' => ∃ v, e = .returned (.tuple #[v, .int .i64 (outC (lexT l) : Nat), .int .i64 (outA (lexT l) : Nat)]) ∧ OwnT w.heap.size w' v (outL (lexT l)) ∧ Below w.heap.size w w' := by
  have hsz := size_list hl
  by_cases hbig : s.size ≤ 6000
  · have hT : lexT l = lexAt l 0 := if_pos (by omega)
    obtain ⟨R, hR⟩ : ∃ R, lexT l = R := ⟨_, rfl⟩
    have hR' : Hid ((lexAt l 0).after [] = R) := by show _ = _; rw [← hR, hT]; cases lexAt l 0 <;> rfl
    rw [hR]
    have hl' : Hid (s.data.toList = l) := hl
    have hsz' : Hid (s.size = l.length) := hsz
    have hx' : Hid (MaxL w) := hx
    have hw' : Hid (WTab w) := hw
    have hst' : Hid (STab w) := hst
    have hb0 : ¬ (6000 : Int) < (s.size : Int) := by omega
    clear hl hsz hx hw hst hT hR
    go_enter Tryd.func20, Tryd.ntmps20
    go_wp2_with fail
    go_step3
    go_wp2_with fail
    go_step3
    go_wp2_with fail
    go_loopw [5, 6, 7] (fun vl va vf wr => ∃ (k : Nat) (toks : List T4), k ≤ s.size ∧ va = .int .i64 k ∧ vf = .int .i64 0 ∧ toks.length ≤ k ∧ (lexAt l k).after toks = R ∧ OwnT w.heap.size wr vl toks ∧ Below w.heap.size w wr) (fun _ va _ _ => s.size - (intOf va).toNat)
    case atStart => exact ⟨0, [], by omega, rfl, rfl, by simp, hR'.out, OwnT.nil _ _, Below.refl _ _⟩
    case round =>
      obtain ⟨k, toks, hk, rfl, rfl, htk, hans, hown, hbel⟩ := hrel
      obtain ⟨a1, cap1, N, rfl, hN⟩ := hown.form
      have hown' : Hid (OwnT w.heap.size wr (.slice a1 N cap1) toks) := hown
      have hbel' : Hid (Below w.heap.size w wr) := hbel
      have hans' : Hid ((lexAt l k).after toks = R) := hans
      have hwz := hbel.size
      clear hown hbel hans
      by_cases hlt : k < s.size
      · have hlt' : (k : Int) < (s.size : Int) := by omega
        have hk' : (k : Int) ≤ (s.size : Int) := by omega
        have hst2 : Hid _ := lexAt_step l k (by rw [← hsz'.out]; exact hlt)
        have hdl : Hid ((s.extract k s.size).data.toList = l.drop k) := drop_list hl'.out k
        have hds : Hid ((s.extract k s.size).size ≤ 1048576) := by show _ ≤ _; rw [ByteArray.size_extract]; omega
        have kg : Hid (Calls Tryd.prog 37 #[.string (s.extract k s.size)] wr fun e w' => e = .returned (gapV (gap (l.drop k))) ∧ wr = w') := impl_gapSize _ _ hdl.out wr hds.out (hx'.out.later hbel'.out)
        cases hg : gap (l.drop k) with
        | none =>
          rw [hg] at kg
          have he : Hid (R = .bad 4 k) := by show _ = _; rw [← hans'.out, hst2.out, hg]; rfl
          change Hid (Calls Tryd.prog 37 #[.string (s.extract k s.size)] wr fun e w' => e = .returned (.tuple #[.int .i64 0, .bool true]) ∧ wr = w') at kg
          clear hst2 hg
          go_wp2_with (go_at_call 37; refine kg.out.mono ?_; rintro e u0 ⟨rfl, rfl⟩)
          try rw [Exit.noGoto_ret]
          refine bodyPost_ret (v := .tuple #[.slice none 0 0, .int .i64 4, .int .i64 k]) (by simp [results, go_sem]) rfl ⟨_, by rw [he.out]; rfl, ?_, hbel'.out⟩
          rw [he.out]
          exact OwnT.nil _ _
        | some g =>
          rw [hg] at kg
          change Hid (Calls Tryd.prog 37 #[.string (s.extract k s.size)] wr fun e w' => e = .returned (.tuple #[.int .i64 (g : Nat), .bool false]) ∧ wr = w') at kg
          have hgl := gap_le hg
          rw [List.length_drop, ← hsz'.out] at hgl
          by_cases hg0 : g = 0
          · have hst3 : Hid (lexAt l k = if (one (l.drop k)).code ≠ 0 then .bad (one (l.drop k)).code k else (lexAt l (k + (one (l.drop k)).size)).cons ((one (l.drop k)).tok k)) := by
              show _ = _
              rw [hst2.out, hg]
              simp only [hg0]
              rfl
            have hne : l.drop k ≠ [] := by rw [Ne, List.drop_eq_nil_iff, ← hsz'.out]; omega
            have kf : Hid (Calls Tryd.prog 38 #[.string (s.extract k s.size)] wr fun e w' => e = .returned (firstV (one (l.drop k))) ∧ Below wr.heap.size wr w') := impl_firstTok _ _ hdl.out hne wr hds.out (hw'.out.later hbel'.out) (hst'.out.later hbel'.out)
            have hpos : Hid ((one (l.drop k)).code = 0 → 0 < (one (l.drop k)).size ∧ k + (one (l.drop k)).size ≤ s.size) := fun h => by
              have := one_pos h
              rw [List.length_drop, ← hsz'.out] at this
              omega
            have hcode : Hid ((one (l.drop k)).code ≤ 9) := one_code _
            have htok : Hid ((one (l.drop k)).code = 0 → ∃ kd n t, (one (l.drop k)).tok 0 = (kd, n, t, 0) ∧ (one (l.drop k)).tok k = (kd, n, t, (k : Int))) := fun h => one_tok h k
            subst hg0
            clear hst2 hg hgl hne
            generalize one (l.drop k) = o at *
            by_cases hc : o.code = 0
            · obtain ⟨kd, n, t, ht1, ht2⟩ := htok.out hc
              have kf2 : Hid (Calls Tryd.prog 38 #[.string (s.extract k s.size)] wr fun e w' => e = .returned (.tuple #[.agg #[.int .i64 kd, .int .i64 n, .string (tx t), .int .i64 0], .int .i64 (o.size : Nat), .int .i64 0]) ∧ Below wr.heap.size wr w') := by
                have := kf.out
                unfold firstV at this
                rw [ht1, hc] at this
                exact this
              have hans2 : Hid ((lexAt l (k + o.size)).after (toks ++ [(kd, n, t, (k : Int))]) = R) := by
                show _ = _
                rw [← hans'.out, hst3.out, if_neg (by simp [hc]), ht2, after_cons]
              obtain ⟨p1, p2⟩ := hpos.out hc
              clear kf hst3 htok ht1 ht2 hpos hcode hans' hc
              generalize o.size = Z at *
              have htk' : toks.length ≤ 10000000 := by omega
              go_wp2_with (first
                | (go_at_call 37; refine kg.out.mono ?_; rintro e u0 ⟨rfl, rfl⟩)
                | (go_at_call 38; refine kf2.out.mono ?_; rintro e w2 ⟨rfl, q2⟩; have b2 : Hid (Below w.heap.size w w2) := hbel'.out.trans (q2.mono hwz); have o2 : Hid (OwnT w.heap.size w2 (.slice a1 N cap1) toks) := own_belowT hown'.out q2; have z2 := b2.out.size; clear q2)
                | (at_builtin; refine wp_appT rfl _ _ rfl (World.ownsRow.alloc o2.out _) (alloc_below b2.out _).size kd n t (k : Int) htk' rfl _ (w2.heap.size + 1) (by simp) rfl ?_; intro g3 cap3 N3 w3 hN3 o3 q3; have b3 : Hid (Below w.heap.size w w3) := (alloc_below (alloc_below b2.out _) _).grown q3 (alloc_below (alloc_below b2.out _) _).size (fun k hk => (World.ownsRow.lt o2.out k hk).1); have o3' : Hid (OwnT w.heap.size w3 (.slice (some ⟨g3, 0, none⟩) N3 cap3) (toks ++ [(kd, n, t, (k : Int))])) := o3; clear o3 q3 hN3))
              go_roundw
              case rel => exact ⟨k + Z, toks ++ [(kd, n, t, (k : Int))], p2, by go_num, rfl, by rw [List.length_append]; simp only [List.length_cons, List.length_nil]; omega, hans2.out, o3'.out, b3.out⟩
              case measure => simp [intOf]; omega
            · have he : Hid (R = .bad o.code k) := by show _ = _; rw [← hans'.out, hst3.out, if_pos hc]; rfl
              have hc9 := hcode.out
              have kf2 : Hid (Calls Tryd.prog 38 #[.string (s.extract k s.size)] wr fun e w' => ∃ x1 x2 x3 x4 x5, e = .returned (.tuple #[.agg #[.int .i64 x1, .int .i64 x2, .string x3, .int .i64 x4], .int .i64 x5, .int .i64 (o.code : Nat)]) ∧ Below wr.heap.size wr w') := kf.out.mono fun e w' ⟨h1, h2⟩ => ⟨_, _, _, _, _, h1, h2⟩
              clear kf hst3 htok hpos hcode hans'
              have hcp : ¬ (o.code : Int) = 0 := by omega
              have hcq : ((o.code : Int) == 0) = false := beq_false_of_ne hcp
              generalize o.code = C at *
              go_wp2_with (first
                | (go_at_call 37; refine kg.out.mono ?_; rintro e u0 ⟨rfl, rfl⟩)
                | (go_at_call 38; refine kf2.out.mono ?_; rintro e w2 ⟨x1, x2, x3, x4, x5, rfl, q2⟩; have b2 : Hid (Below w.heap.size w w2) := hbel'.out.trans (q2.mono hwz); clear q2))
              try rw [Exit.noGoto_ret]
              refine bodyPost_ret (v := .tuple #[.slice none 0 0, .int .i64 C, .int .i64 k]) (by simp [results, go_sem]) rfl ⟨_, by rw [he.out]; rfl, ?_, alloc_below b2.out _⟩
              rw [he.out]
              exact OwnT.nil _ _
          · have hans2 : Hid ((lexAt l (k + g)).after toks = R) := by
              show _ = _
              rw [← hans'.out, hst2.out, hg]
              simp only [if_pos hg0]
            have hg1 : (0 : Int) < (g : Int) := by omega
            clear hst2 hg
            go_wp2_with (go_at_call 37; refine kg.out.mono ?_; rintro e u0 ⟨rfl, rfl⟩)
            go_roundw
            case rel => exact ⟨k + g, toks, by omega, by go_num, rfl, by omega, hans2.out, hown'.out, hbel'.out⟩
            case measure => simp [intOf]; omega
      · obtain rfl : k = s.size := by omega
        have he : Hid (R = .ok toks) := by
          show _ = _
          rw [← hans'.out, lexAt_end l _ (by rw [hsz'.out]; exact Nat.le_refl _)]
          show Ans.ok (toks ++ []) = _
          rw [List.append_nil]
        go_wp2_with fail
        try rw [Exit.noGoto_ret]
        refine bodyPost_ret (v := .tuple #[.slice a1 N cap1, .int .i64 0, .int .i64 0]) (by simp [results, go_sem]) rfl ⟨_, by rw [he.out]; rfl, ?_, hbel'.out⟩
        rw [he.out]
        exact hown'.out
  · have hT : Hid (lexT l = .bad 1 0) := if_neg (by omega)
    have hb1 : (6000 : Int) < (s.size : Int) := by omega
    clear hl hsz
    go_enter Tryd.func20, Tryd.ntmps20
    go_wp2_with fail
    go_step3
    go_wp2_with fail
    try rw [Exit.noGoto_ret]
    refine bodyPost_ret (v := .tuple #[.slice none 0 0, .int .i64 1, .int .i64 0]) (by simp [results, go_sem]) rfl ⟨_, by rw [hT.out]; rfl, ?_, Below.refl _ _⟩
    rw [hT.out]
    exact OwnT.nil _ _
end Go.Proofs.YtjndgjheehjohaaDoor.LexFace
