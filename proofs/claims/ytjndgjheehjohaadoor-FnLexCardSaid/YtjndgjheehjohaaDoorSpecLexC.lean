/-
  What the specification's Lex answers when it is called.
-/
import Derived.Test.YtjndgjheehjohaaDoorSpecLexB
import Derived.Test.YtjndgjheehjohaaDoorLexFace
namespace Go.Proofs.YtjndgjheehjohaaDoor.SpecLexC
open Go.RowKit InsMem PlainOps PlainLex PlainScan NameCalls CharCalls WordCalls LexImpl SpecLexA SpecLexB OwnTok LexFace

theorem one_range {l : List UInt8} (h : (one l).code = 0) (k : Nat) : (((one l).tok k).1 = 1 ∨ ((one l).tok k).1 = 2 ∨ ((one l).tok k).1 = 3) ∧ 0 ≤ ((one l).tok k).2.1 ∧ ((one l).tok k).2.1 ≤ 2147483647 := by
  cases l with
  | nil => simp [one, One.code] at h
  | cons c l =>
    rw [one_cons] at h ⊢
    by_cases hd : digit c = true
    · rw [if_pos hd] at h ⊢
      by_cases hv : dval ((c :: l).takeWhile digit) ≤ 2147483647
      · rw [if_pos hv]
        refine ⟨.inl rfl, ?_, ?_⟩
        · show (0 : Int) ≤ ((dval ((c :: l).takeWhile digit) : Nat) : Int); omega
        · show ((dval ((c :: l).takeWhile digit) : Nat) : Int) ≤ 2147483647; omega
      · rw [if_neg hv] at h; simp [One.code] at h
    · rw [if_neg hd] at h ⊢
      by_cases hs : small c = true
      · rw [if_pos hs]
        refine ⟨?_, by show (0 : Int) ≤ 0; omega, by show (0 : Int) ≤ 2147483647; omega⟩
        show (if isWord ((c :: l).takeWhile inName) = true then (3 : Int) else 2) = 1 ∨ _
        cases isWord ((c :: l).takeWhile inName)
        · exact .inr (.inl rfl)
        · exact .inr (.inr rfl)
      · rw [if_neg hs] at h ⊢
        by_cases hg : sgn (c :: l) = []
        · rw [if_pos hg] at h; simp [One.code] at h
        · rw [if_neg hg]
          exact ⟨.inr (.inr rfl), by show (0 : Int) ≤ 0; omega, by show (0 : Int) ≤ 2147483647; omega⟩
theorem one_bad {l : List UInt8} (h : ¬ (one l).code = 0) : (one l).code = 2 ∨ (one l).code = 3 := by
  cases l with
  | nil => exact .inl rfl
  | cons c l =>
    rw [one_cons] at h ⊢
    by_cases hd : digit c = true
    · rw [if_pos hd] at h ⊢
      by_cases hv : dval ((c :: l).takeWhile digit) ≤ 2147483647
      · rw [if_pos hv] at h; exact absurd rfl h
      · rw [if_neg hv]; exact .inr rfl
    · rw [if_neg hd] at h ⊢
      by_cases hs : small c = true
      · rw [if_pos hs] at h; exact absurd rfl h
      · rw [if_neg hs] at h ⊢
        by_cases hg : sgn (c :: l) = []
        · rw [if_pos hg]; exact .inl rfl
        · rw [if_neg hg] at h; exact absurd rfl h
/-- How far it has come: a place behind which no gap lies, or one at which a remark isn't ended. -/
def Stand (l : List UInt8) (toks : List T4) (R : Ans) (k : Nat) (o : Int) : Prop :=
  (o = -1 ∧ k ≤ l.length ∧ (lexAt l k).after toks = R ∧ (k < l.length → gap (l.drop k) = some 0)) ∨ (o = k ∧ k < l.length ∧ R = .bad 4 k)
theorem stand_of {l : List UInt8} {toks : List T4} {R : Ans} {k0 : Nat} {e : Ending} (h : SkipPost l k0 e) (hR : (lexAt l k0).after toks = R) : ∃ (k : Nat) (o : Int), e = .returned (.tuple #[.int .i64 k, .int .i64 o]) ∧ Stand l toks R k o ∧ k0 ≤ k := by
  rcases h with ⟨p, he, h1, h2, h3, h4⟩ | ⟨p, he, h1, h2, h3⟩
  · exact ⟨p, -1, he, .inl ⟨rfl, h2, by rw [← h3]; exact hR, h4⟩, h1⟩
  · exact ⟨p, p, he, .inr ⟨rfl, h2, by rw [← hR, h3]; rfl⟩, h1⟩
set_option maxRecDepth 20000 in
set_option maxHeartbeats 8000000 in
theorem spec_lex (s : ByteArray) (l : List UInt8) (hl : s.data.toList = l) (w : World) (hm : s.size ≤ 1048576) :
    Calls Tryd.prog 19 #[.string s] w fun e w' => ∃ v, e = .returned (.tuple #[v, .int .i64 (outC (lexT l) : Nat), .int .i64 (outA (lexT l) : Nat)]) ∧ OwnT w.heap.size w' v (outL (lexT l)) ∧ Below w.heap.size w w' := by
  have hsz := size_list hl
  by_cases hbig : s.size ≤ 6000
  · have hT : lexT l = lexAt l 0 := if_pos (by omega)
    obtain ⟨R, hR⟩ : ∃ R, lexT l = R := ⟨_, rfl⟩
    have hR' : Hid ((lexAt l 0).after [] = R) := by show _ = _; rw [← hR, hT]; cases lexAt l 0 <;> rfl
    rw [hR]
    have hl' : Hid (s.data.toList = l) := hl
    have hsz' : Hid (s.size = l.length) := hsz
    have hb0 : ¬ (6000 : Int) < (s.size : Int) := by omega
    clear hl hsz hT hR
    have ksk : Hid (∀ (u : World) (k0 : Nat) (toks : List T4), k0 ≤ s.size → (lexAt l k0).after toks = R → Calls Tryd.prog 35 #[.string s, .int .i64 k0] u fun e w' => (∃ (k : Nat) (o : Int), e = .returned (.tuple #[.int .i64 k, .int .i64 o]) ∧ Stand l toks R k o ∧ k0 ≤ k) ∧ u = w') := fun u k0 toks h1 h2 => (spec_skip s l hl'.out k0 u hm h1).mono fun e w' ⟨he, hw⟩ => ⟨stand_of he h2, hw⟩
    have kon : Hid (∀ (u : World) (k : Nat), k < s.size → Calls Tryd.prog 36 #[.string s, .int .i64 k] u fun e w' => OnePost l k e ∧ Below u.heap.size u w') := fun u k h => spec_one s l hl'.out k u hm h
    have ks0 : Hid (Calls Tryd.prog 35 #[.string s, .int .i64 0] (w.alloc (.cells #[] 27)) fun e w' => (∃ (k : Nat) (o : Int), e = .returned (.tuple #[.int .i64 k, .int .i64 o]) ∧ Stand l [] R k o ∧ 0 ≤ k) ∧ (w.alloc (.cells #[] 27)) = w') := ksk.out _ 0 [] (by omega) hR'.out
    go_enter Tryd.func19, Tryd.ntmps19
    go_wp2_with (go_at_call 35; refine ks0.out.mono ?_; rintro e u0 ⟨⟨k0, o0, rfl, hst0, _⟩, rfl⟩; have st0 : Hid (Stand l [] R k0 o0) := hst0; clear hst0)
    go_loopw [5, 6, 7] (fun vl va vo wr => ∃ (k : Nat) (o : Int) (toks : List T4), va = .int .i64 k ∧ vo = .int .i64 o ∧ toks.length ≤ k ∧ k ≤ s.size ∧ Stand l toks R k o ∧ OwnT w.heap.size wr vl toks ∧ Below w.heap.size w wr) (fun _ va _ _ => s.size - (intOf va).toNat)
    case atStart =>
      refine ⟨k0, o0, [], rfl, rfl, by simp, ?_, st0.out, ?_, (Below.refl _ _).alloc (Nat.le_refl _) _⟩
      · rcases st0.out with ⟨_, h, _⟩ | ⟨_, h, _⟩ <;> (rw [hsz'.out]; omega)
      · exact World.ownsRow_made w #[] 0 (Nat.le_refl _) (by decide) rfl
    case round =>
      obtain ⟨k, o, toks, rfl, rfl, htk, hk, hstd, hown, hbel⟩ := hrel
      obtain ⟨a1, cap1, N, rfl, hN⟩ := hown.form
      have hown' : Hid (OwnT w.heap.size wr (.slice a1 N cap1) toks) := hown
      have hbel' : Hid (Below w.heap.size w wr) := hbel
      have hwz := hbel.size
      clear hown hbel
      rcases hstd with ⟨rfl, h1, h2, h3⟩ | ⟨rfl, h1, h2⟩
      · by_cases hlt : k < s.size
        · have hlt' : (k : Int) < (s.size : Int) := by omega
          have hk9 : toks.length ≤ 10000000 := by omega
          have hstep : lexAt l k = if (one (l.drop k)).code ≠ 0 then .bad (one (l.drop k)).code k else (lexAt l (k + (one (l.drop k)).size)).cons ((one (l.drop k)).tok k) := by
            rw [lexAt_step l k (by have := hsz'.out; omega), h3 (by have := hsz'.out; omega)]
            rfl
          have kon2 : Hid (Calls Tryd.prog 36 #[.string s, .int .i64 k] wr fun e w' => OnePost l k e ∧ Below wr.heap.size wr w') := kon.out wr k hlt
          by_cases hc : (one (l.drop k)).code = 0
          · obtain ⟨kd, n, t, ht1, ht2⟩ := one_tok hc k
            obtain ⟨hkd, hn0, hn1⟩ := one_range hc k
            rw [ht2] at hkd hn0 hn1
            have kon3 : Hid (Calls Tryd.prog 36 #[.string s, .int .i64 k] wr fun e w' => e = .returned (.tuple #[.agg #[.int .i64 kd, .int .i64 n, .string (tx t), .int .i64 k], .int .i64 (k + (one (l.drop k)).size : Nat)]) ∧ Below wr.heap.size wr w') := kon2.out.mono fun e w' ⟨h, hb⟩ => by
              rcases h with ⟨_, he⟩ | ⟨h, _⟩ | ⟨h, _⟩
              · rw [ht2] at he
                exact ⟨he, hb⟩
              · rw [hc] at h; cases h
              · rw [hc] at h; cases h
            have hans2 : (lexAt l (k + (one (l.drop k)).size)).after (toks ++ [(kd, n, t, (k : Int))]) = R := by
              rw [← h2, hstep, if_neg (by simp [hc]), ht2, after_cons]
            obtain ⟨p1, p2⟩ := one_pos hc
            rw [List.length_drop, ← hsz'.out] at p2
            have p3 : k + (one (l.drop k)).size ≤ s.size := by omega
            have ks2 : Hid (∀ u, Calls Tryd.prog 35 #[.string s, .int .i64 (k + (one (l.drop k)).size : Nat)] u fun e w' => (∃ (k' : Nat) (o : Int), e = .returned (.tuple #[.int .i64 k', .int .i64 o]) ∧ Stand l (toks ++ [(kd, n, t, (k : Int))]) R k' o ∧ k + (one (l.drop k)).size ≤ k') ∧ u = w') := fun u => ksk.out u _ _ p3 hans2
            have hkd1 : ¬ kd = 0 := by rcases hkd with h | h | h <;> (simp only at h; omega)
            have hkd2 : (kd == 0) = false := beq_false_of_ne hkd1
            have hn2 : ¬ (2147483647 < n) := by simp only at hn1; omega
            clear kon kon2 hstep ht1 ht2 hkd hn0 hn1 hans2 p2 h3 h2 hc
            generalize (one (l.drop k)).size = Z at *
            go_wp2_with (first
              | (go_at_call 36; refine kon3.out.mono ?_; rintro e w2 ⟨rfl, q2⟩; have b2 : Hid (Below w.heap.size w w2) := hbel'.out.trans (q2.mono hwz); have o2 : Hid (OwnT w.heap.size w2 (.slice a1 N cap1) toks) := own_belowT hown'.out q2; clear q2)
              | (at_builtin; refine wp_appT rfl _ _ rfl (World.ownsRow.alloc o2.out _) (alloc_below b2.out _).size kd n t (k : Int) hk9 rfl _ (w2.heap.size + 1) (by simp) rfl ?_; intro g3 cap3 N3 w3 hN3 o3 q3; have b3 : Hid (Below w.heap.size w w3) := (alloc_below (alloc_below b2.out _) _).grown q3 (alloc_below (alloc_below b2.out _) _).size (fun k hk => (World.ownsRow.lt o2.out k hk).1); have o3' : Hid (OwnT w.heap.size w3 (.slice (some ⟨g3, 0, none⟩) N3 cap3) (toks ++ [(kd, n, t, (k : Int))])) := o3; clear o3 q3 hN3)
              | (go_at_call 35; refine (ks2.out _).mono ?_; rintro e u0 ⟨⟨k2, o2', rfl, hst2, hk2⟩, rfl⟩; have st2 : Hid (Stand l (toks ++ [(kd, n, t, (k : Int))]) R k2 o2') := hst2; clear hst2))
            go_roundw
            case rel =>
              refine ⟨k2, o2', toks ++ [(kd, n, t, (k : Int))], rfl, rfl, by rw [List.length_append]; simp only [List.length_cons, List.length_nil]; omega, ?_, st2.out, o3'.out, b3.out⟩
              rcases st2.out with ⟨_, h, _⟩ | ⟨_, h, _⟩ <;> (rw [hsz'.out]; omega)
            case measure => simp [intOf]; omega
          · have he : Hid (R = .bad (one (l.drop k)).code k) := by show _ = _; rw [← h2, hstep, if_pos hc]; rfl
            have hcases : ((one (l.drop k)).code = 2) ∨ ((one (l.drop k)).code = 3) := one_bad hc
            clear h2 h3 hstep
            rcases hcases with h5 | h5
            · have kon3 : Hid (Calls Tryd.prog 36 #[.string s, .int .i64 k] wr fun e w' => e = .returned (.tuple #[V4 (0, 0, [], 0), .int .i64 k]) ∧ Below wr.heap.size wr w') := kon2.out.mono fun e w' ⟨h, hb⟩ => by
                rcases h with ⟨h, _⟩ | ⟨_, he⟩ | ⟨h, _⟩
                · exact absurd h hc
                · exact ⟨he, hb⟩
                · rw [h5] at h; cases h
              rw [h5] at he
              clear kon kon2 hc h5
              go_wp2_with (go_at_call 36; refine kon3.out.mono ?_; rintro e w2 ⟨rfl, q2⟩; have b2 : Hid (Below w.heap.size w w2) := hbel'.out.trans (q2.mono hwz); clear q2)
              refine bodyPost_ret (v := .tuple #[.slice none 0 0, .int .i64 2, .int .i64 k]) (by simp [results, go_sem]) rfl ⟨_, by rw [he.out]; rfl, ?_, alloc_below b2.out _⟩
              rw [he.out]
              exact OwnT.nil _ _
            · have kon3 : Hid (Calls Tryd.prog 36 #[.string s, .int .i64 k] wr fun e w' => ∃ n p : Int, e = .returned (.tuple #[.agg #[.int .i64 1, .int .i64 n, .string ⟨#[]⟩, .int .i64 k], .int .i64 p]) ∧ 2147483647 < n ∧ Below wr.heap.size wr w') := kon2.out.mono fun e w' ⟨h, hb⟩ => by
                rcases h with ⟨h, _⟩ | ⟨h, _⟩ | ⟨_, n, p, hn, he⟩
                · exact absurd h hc
                · rw [h5] at h; cases h
                · exact ⟨n, p, he, hn, hb⟩
              rw [h5] at he
              clear kon kon2 hc h5
              go_wp2_with (go_at_call 36; refine kon3.out.mono ?_; rintro e w2 ⟨n, p, rfl, hn, q2⟩; have b2 : Hid (Below w.heap.size w w2) := hbel'.out.trans (q2.mono hwz); clear q2)
              refine bodyPost_ret (v := .tuple #[.slice none 0 0, .int .i64 3, .int .i64 k]) (by simp [results, go_sem]) rfl ⟨_, by rw [he.out]; rfl, ?_, alloc_below b2.out _⟩
              rw [he.out]
              exact OwnT.nil _ _
        · obtain rfl : k = s.size := by omega
          have he : Hid (R = .ok toks) := by
            show _ = _
            rw [← h2, lexAt_end l _ (by rw [hsz'.out]; exact Nat.le_refl _)]
            show Ans.ok (toks ++ []) = _
            rw [List.append_nil]
          clear h2 h3 kon ksk
          go_wp2_with fail
          refine bodyPost_ret (v := .tuple #[.slice a1 N cap1, .int .i64 0, .int .i64 0]) (by simp [results, go_sem]) rfl ⟨_, by rw [he.out]; rfl, ?_, hbel'.out⟩
          rw [he.out]
          exact hown'.out
      · have hlt' : (k : Int) < (s.size : Int) := by have := hsz'.out; omega
        have hk0 : ¬ (k : Int) < 0 := by omega
        have hk1 : (0 : Int) ≤ (k : Int) := by omega
        have he : Hid (R = .bad 4 k) := h2
        clear h2 kon ksk
        go_wp2_with fail
        refine bodyPost_ret (v := .tuple #[.slice none 0 0, .int .i64 4, .int .i64 k]) (by simp [results, go_sem]) rfl ⟨_, by rw [he.out]; rfl, ?_, hbel'.out⟩
        rw [he.out]
        exact OwnT.nil _ _
  · have hT : Hid (lexT l = .bad 1 0) := if_neg (by omega)
    have hb1 : (6000 : Int) < (s.size : Int) := by omega
    clear hl hsz
    go_enter Tryd.func19, Tryd.ntmps19
    go_wp2_with fail
    refine bodyPost_ret (v := .tuple #[.slice none 0 0, .int .i64 1, .int .i64 0]) (by simp [results, go_sem]) rfl ⟨_, by rw [hT.out]; rfl, ?_, Below.refl _ _⟩
    rw [hT.out]
    exact OwnT.nil _ _
end Go.Proofs.YtjndgjheehjohaaDoor.SpecLexC
