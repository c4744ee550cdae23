/-
  What the program's readSections answers when it is called.
-/
import Derived.Test.YthjgmjhgpjgdlabSecAll
import Derived.Lib.SlBytesConst
namespace Go.Proofs.Ythjgmjhgpjgdlab.SecRead
open Go.RowKit PlainNum PlainLeb PlainGet PlainRd PlainSec NumCalls ByteMem PutU Reader ReadNum SecRd SecAll

theorem head_cells (w : World) : ∀ j, j < hd.length → (w.alloc (.cells #[.int .u8 0, .int .u8 97, .int .u8 115, .int .u8 109, .int .u8 1, .int .u8 0, .int .u8 0, .int .u8 0] 5 (8, 9))).cell? ⟨w.heap.size, j, none⟩ = some (.int .u8 ((hd[j]?.getD 0).toNat : Int)) := fun j hj => by
  have hb := World.alloc_heap_new w (.cells #[.int .u8 0, .int .u8 97, .int .u8 115, .int .u8 109, .int .u8 1, .int .u8 0, .int .u8 0, .int .u8 0] 5 (8, 9))
  have : j = 0 ∨ j = 1 ∨ j = 2 ∨ j = 3 ∨ j = 4 ∨ j = 5 ∨ j = 6 ∨ j = 7 := by simp [hd] at hj; omega
  rcases this with rfl | rfl | rfl | rfl | rfl | rfl | rfl | rfl <;> (unfold World.cell?; rw [hb]; rfl)
/-- What going through all answers. -/
def SecPost (w : World) (B : Nat) (R : Option (List Int)) (e : Ending) (w' : World) : Prop :=
  ((∃ l v, R = some (l.map (·.1)) ∧ e = .returned v ∧ OwnS B w' v l) ∨ (R = none ∧ e = gave 2)) ∧ Below w.heap.size w w'
theorem grownB {B : Nat} {w0 w w' : World} {r : Nat} (hb : Below B w0 w) (hg : w.grownBy w' (some r)) (hB : B ≤ w.heap.size) (hr : B ≤ r) : Below B w0 w' := hb.grown hg hB (fun k hk => by injection hk; omega)
set_option maxHeartbeats 700000 in
set_option maxRecDepth 20000 in
theorem readSections (w : World) (b off cap : Nat) (bs : List UInt8) (hs : Src w b off cap bs) (hl : bs.length ≤ 1048576) :
    Calls Try.prog 15 #[.slice (some ⟨b, off, none⟩) bs.length cap] w fun e w' => ((∃ l v, ansSec bs = some (l.map (·.1)) ∧ e = .returned v ∧ OwnS w.heap.size w' v l) ∨ (ansSec bs = none ∧ e = gave (if bs.take 8 = hd then 2 else 1))) ∧ Below w.heap.size w w' := by
  have hconv : ∀ n c : Nat, (convert 22 22 (.slice (some ⟨w.heap.size, 0, none⟩) n c)).run Try.prog (w.alloc (.cells #[.int .u8 0, .int .u8 97, .int .u8 115, .int .u8 109, .int .u8 1, .int .u8 0, .int .u8 0, .int .u8 0] 5)) = .ok (.slice (some ⟨w.heap.size, 0, none⟩) n c) (w.alloc (.cells #[.int .u8 0, .int .u8 97, .int .u8 115, .int .u8 109, .int .u8 1, .int .u8 0, .int .u8 0, .int .u8 0] 5 (8, 9))) := fun n c => Lib.run_convert_bytes_const (P := Try.prog) w 22 5 _ n c Try.underlying22 Try.underlying5
  have hb0 : Hid (Below w.heap.size w (w.alloc (.cells #[.int .u8 0, .int .u8 97, .int .u8 115, .int .u8 109, .int .u8 1, .int .u8 0, .int .u8 0, .int .u8 0] 5 (8, 9)))) := (Below.refl _ _).alloc (Nat.le_refl _) _
  have hc0 : Hid (∀ j, j < hd.length → (w.alloc (.cells #[.int .u8 0, .int .u8 97, .int .u8 115, .int .u8 109, .int .u8 1, .int .u8 0, .int .u8 0, .int .u8 0] 5 (8, 9))).cell? ⟨w.heap.size, j, none⟩ = some (.int .u8 ((hd[j]?.getD 0).toNat : Int))) := head_cells w
  have hH : Hid (Calls Try.prog 19 #[.slice (some ⟨b, off, none⟩) bs.length cap, .slice (some ⟨w.heap.size, 0, none⟩) 8 8] (w.alloc (.cells #[.int .u8 0, .int .u8 97, .int .u8 115, .int .u8 109, .int .u8 1, .int .u8 0, .int .u8 0, .int .u8 0] 5 (8, 9))) fun e w' => e = .returned (.bool (decide (bs.take 8 = hd))) ∧ w' = w.alloc (.cells #[.int .u8 0, .int .u8 97, .int .u8 115, .int .u8 109, .int .u8 1, .int .u8 0, .int .u8 0, .int .u8 0] 5 (8, 9))) := has_head _ b off cap w.heap.size bs (hs.later hb0.out) hc0.out
  clear hc0
  by_cases hpre : bs.take 8 = hd
  · rw [if_pos hpre]
    have h8 : 8 ≤ bs.length := by
      have := congrArg List.length hpre
      simp [hd] at this
      omega
    have hA : Hid (ansSec bs = secs (bs.drop 8).length 0 (bs.drop 8)) := if_pos hpre
    rw [show decide (bs.take 8 = hd) = true from decide_eq_true hpre] at hH
    have hle := hs.le
    have hbl := hs.lt
    have hD : Hid (∀ off', (8 < bs.length → off' = off + 8) → Src w b off' (cap - 8) (bs.drop 8)) := fun off' ho => hs.drop 8 off' h8 ho
    obtain ⟨R, hR⟩ : ∃ R, ansSec bs = R := ⟨_, rfl⟩
    have hR' : Hid (secs (bs.drop 8).length 0 (bs.drop 8) = R) := hA.out.symm.trans hR
    rw [hR]
    have hld : (bs.drop 8).length = bs.length - 8 := List.length_drop
    clear hpre hs hA hR
    obtain ⟨off', hoff, hsl⟩ : ∃ off' : Nat, (8 < bs.length → off' = off + 8) ∧ Hid (off' = if cap = 8 then off else off + 8) := by
      by_cases hc8 : cap = 8
      · exact ⟨off, fun h => by omega, by show _ = _; rw [if_pos hc8]⟩
      · exact ⟨off + 8, fun _ => rfl, by show _ = _; rw [if_neg hc8]⟩
    have hRd : Hid (∀ u, Below w.heap.size w u → RdX (u.alloc (.cells #[.slice (some ⟨b, off', none⟩) (bs.length - 8) (cap - 8), .int .i64 2] 51)) u.heap.size 2 b (bs.drop 8)) := fun u hu => by
      have := ((hD.out off' hoff).later hu).reader 2
      rw [hld] at this
      exact this
    generalize bs.drop 8 = tl at *
    clear hD hoff
    rcases (show (cap = 8 ∧ Hid (off' = off)) ∨ (¬ cap = 8 ∧ Hid (off' = off + 8)) by
      by_cases hc8 : cap = 8
      · exact .inl ⟨hc8, by have := hsl.out; rw [if_pos hc8] at this; exact this⟩
      · exact .inr ⟨hc8, by have := hsl.out; rw [if_neg hc8] at this; exact this⟩) with ⟨hc8, ho8⟩ | ⟨hc8, ho8⟩
    all_goals
      clear hsl
      have e8 := ho8.out
      subst e8
      clear ho8
      try subst hc8
      go_enter Try.func15, Try.ntmps15
      go_wp2_with (go_at_call 19; refine hH.out.mono ?_; rintro e w1 ⟨rfl, rfl⟩)
      go_loopw [4, 5] (fun vl vlast wr => ∃ (l1 : List S2) (rest : List UInt8) (last : Int) (f : Nat), vlast = .int .i64 last ∧ OwnS (w.heap.size + 2) wr vl l1 ∧ RdX wr (w.heap.size + 1) 2 b rest ∧ Below w.heap.size w wr ∧ rest.length ≤ f ∧ l1.length + rest.length ≤ bs.length ∧ joinS (l1.map (·.1)) (secs f last rest) = R) (fun vl _ _ => bs.length - lenV vl)
      case atStart =>
        have hK := hRd.out _ hb0.out
        rw [World.size_alloc] at hK
        try simp only [Nat.sub_self] at hK
        try rw [show bs.length - 8 = 0 by omega] at hK
        exact ⟨[], tl, 0, tl.length, rfl, World.ownsRow_nil _ _ _ _, hK, ((Below.refl _ _).alloc (Nat.le_refl _) _).alloc (by simp) _, Nat.le_refl _, by simp; omega, by rw [hR'.out]; cases R <;> simp [joinS]⟩
      case round =>
        obtain ⟨l1, rest, last, f, rfl, hown, hrd, hbel, hf, hlen, hj⟩ := hrel
        obtain ⟨a1, cap1, N, rfl, hN0⟩ := hown.form
        have hown' : Hid (OwnS (w.heap.size + 2) wr (.slice a1 N cap1) l1) := hown
        have hbel' : Hid (Below w.heap.size w wr) := hbel
        have hj' : Hid (joinS (l1.map (·.1)) (secs f last rest) = R) := hj
        have hsz := hbel.size
        have hrl := hrd.isLt
        have hrd' : Hid (RdX wr (w.heap.size + 1) 2 b rest) := hrd
        have hF : Hid (Calls Try.prog 20 #[.pointer (some ⟨w.heap.size + 1, 0, none⟩)] wr fun e w' => e = .returned (.bool (decide (rest.length = 0))) ∧ wr = w') := by
          obtain ⟨o, k, x⟩ := hrd
          exact filled (w.heap.size + 1) 2 b o k rest wr x
        clear hown hbel hj hrd
        cases rest with
        | nil =>
          rw [show decide (([] : List UInt8).length = 0) = true by decide] at hF
          have hRl : Hid (R = some (l1.map (·.1))) := by rw [← hj'.out, secs_nil]; show some (l1.map (·.1) ++ []) = _; rw [List.append_nil]
          clear hj'
          go_wp2_with (first | (go_at_call 20; refine hF.out.mono ?_; rintro e w1 ⟨rfl, rfl⟩; clear hF))
          go_ret
          have hO2 := hown'.out.lower (B' := w.heap.size) (by omega)
          exact ⟨.inl ⟨l1, _, hRl.out, rfl, hO2⟩, hbel'.out⟩
        | cons u rs =>
          rw [show decide ((u :: rs).length = 0) = false by simp] at hF
          have hlrs : rs.length ≤ 1048576 := by rw [List.length_cons] at hlen; omega
          have hN : Hid (Calls Try.prog 21 #[.pointer (some ⟨w.heap.size + 1, 0, none⟩)] wr fun e w' => e = .returned (.int .u8 (u.toNat : Int)) ∧ RdX w' (w.heap.size + 1) 2 b rs ∧ wr.grownBy w' (some (w.heap.size + 1))) := by
            obtain ⟨o, k, x⟩ := hrd'.out
            exact (next_yes (w.heap.size + 1) 2 b o k u rs wr x).mono fun _ _ ⟨e1, ⟨o, e2⟩, e3⟩ => ⟨e1, ⟨_, _, e2⟩, e3⟩
          have hI : Hid (∀ x, Calls Try.prog 23 #[.int .i64 (u.toNat : Int)] x fun e w' => e = .returned (.bool (isSec (u.toNat : Int))) ∧ x = w') := fun x => isSection (u.toNat : Int) x
          have hM : Hid (∀ x, RdX x (w.heap.size + 1) 2 b rs → Calls Try.prog 22 #[.pointer (some ⟨w.heap.size + 1, 0, none⟩), .bool false] x fun e w' => e = gave 2 ∧ x = w') := fun x ⟨_, _, hx⟩ => must_no (w.heap.size + 1) 2 x hx.cell1
          have hu8 := u.toNat_lt
          have hne : (u :: rs) ≠ [] := by simp
          by_cases hsec : isSec (u.toNat : Int) = true ∧ last < (u.toNat : Int)
          · obtain ⟨hs1, hs2⟩ := hsec
            have hd0 : decide (last < (u.toNat : Int)) = true := decide_eq_true hs2
            rw [hs1] at hI
            cases hg : gU rs with
            | none =>
              have hRn : Hid (R = none) := by rw [← hj'.out, secs_no hne (rdSec_no2 hg)]; rfl
              have hZ : Hid (∀ x, RdX x (w.heap.size + 1) 2 b rs → Calls Try.prog 24 #[.pointer (some ⟨w.heap.size + 1, 0, none⟩), .int .i64 3] x fun e w' => e = gave 2 ∧ x.grownBy w' (some (w.heap.size + 1))) := fun x hx => sized_no (w.heap.size + 1) 2 3 b rs x hx hg hlrs
              clear hj' hg hs1 hM
              go_wp2_with (first | (go_at_call 20; refine hF.out.mono ?_; rintro e w1 ⟨rfl, rfl⟩; clear hF) | (go_at_call 21; refine hN.out.mono ?_; rintro e w2 ⟨rfl, k2, g2⟩; have k2' : Hid (RdX w2 (w.heap.size + 1) 2 b rs) := k2; have g2' : Hid (wr.grownBy w2 (some (w.heap.size + 1))) := g2; clear k2 g2 hN) | (go_at_call 23; refine (hI.out _).mono ?_; rintro e w3 ⟨rfl, rfl⟩; clear hI) | (go_at_call 22; refine (must_yes _ _).mono ?_; rintro e w4 ⟨rfl, rfl⟩) | (go_at_call 24; refine (hZ.out _ k2'.out).mono ?_; rintro e w5 ⟨rfl, g5⟩))
              exact ⟨rfl, .inr ⟨hRn.out, rfl⟩, grownB hbel'.out (g2'.out.trans g5) hsz (by omega)⟩
            | some q =>
              obtain ⟨n, k⟩ := q
              have hgl := gU_le hg
              by_cases hn : n ≤ rs.length - k
              · have hrs := rdSec_yes hs1 hs2 hg hn
                obtain ⟨f, rfl⟩ : ∃ j, f = j + 1 := ⟨f - 1, by rw [List.length_cons] at hf; omega⟩
                have hj2 : Hid (joinS ((l1 ++ ([((u.toNat : Int), 0)] : List S2)).map (·.1)) (secs f (u.toNat : Int) (rs.drop (k + n))) = R) := by
                  show _ = _
                  rw [← hj'.out, secs_yes hrs, joinS_step, List.map_append, show 1 + k + n = (k + n) + 1 by omega, List.drop_succ_cons]
                  rfl
                have hZ : Hid (∀ x, RdX x (w.heap.size + 1) 2 b rs → Calls Try.prog 24 #[.pointer (some ⟨w.heap.size + 1, 0, none⟩), .int .i64 3] x fun e w' => ∃ g, e = .returned (.pointer (some ⟨g, 0, none⟩)) ∧ RdX w' (w.heap.size + 1) 2 b (rs.drop (k + n)) ∧ x.grownBy w' (some (w.heap.size + 1))) := fun x hx => sized_yes (w.heap.size + 1) 2 3 b rs x hx n k hg hn hlrs
                have hlc : l1.length + (rs.length + 1) ≤ bs.length := by rw [List.length_cons] at hlen; exact hlen
                have hfc : rs.length ≤ f := by rw [List.length_cons] at hf; omega
                clear hj' hg hs1 hM hrs
                go_wp2_with (first | (go_at_call 20; refine hF.out.mono ?_; rintro e w1 ⟨rfl, rfl⟩; clear hF) | (go_at_call 21; refine hN.out.mono ?_; rintro e w2 ⟨rfl, k2, g2⟩; have k2' : Hid (RdX w2 (w.heap.size + 1) 2 b rs) := k2; have g2' : Hid (wr.grownBy w2 (some (w.heap.size + 1))) := g2; clear k2 g2 hN) | (go_at_call 23; refine (hI.out _).mono ?_; rintro e w3 ⟨rfl, rfl⟩; clear hI) | (go_at_call 22; refine (must_yes _ _).mono ?_; rintro e w4 ⟨rfl, rfl⟩) | (go_at_call 24; refine (hZ.out _ k2'.out).mono ?_; rintro e w5 ⟨gp, rfl, k5, g5⟩; have k5' : Hid (RdX w5 (w.heap.size + 1) 2 b (rs.drop (k + n))) := k5; have g5' : Hid (wr.grownBy w5 (some (w.heap.size + 1))) := g2'.out.trans g5; have o5 : Hid (OwnS (w.heap.size + 2) w5 (.slice a1 N cap1) l1) := hown'.out.kept (g2'.out.trans g5) (fun k e => by injection e; omega); have z5 := (g2'.out.trans g5).size; clear k5 g5 hZ) | (at_builtin; refine wp_appS rfl _ _ rfl o5.out (by omega) (u.toNat : Int) gp (by omega) rfl _ _ rfl rfl ?_; intro g6 cap6 N6 w6 hN6 o6 q6; have hrow : ∀ k, (Value.slice a1 N cap1).ownBlock = some k → w.heap.size + 2 ≤ k := fun k e => (World.ownsRow.lt o5.out k e).1; have k6 : Hid (RdX w6 (w.heap.size + 1) 2 b (rs.drop (k + n))) := (k5'.out.alloc _).kept q6 (fun e => by have := hrow _ e.symm; omega) (fun e => by have := hrow _ e.symm; omega); have b6 : Hid (Below w.heap.size w w6) := ((grownB hbel'.out g5'.out hsz (by omega)).alloc (by omega) _).grown q6 (by simp; omega) (fun k hk => by have := hrow k hk; omega); have o6' : Hid (OwnS (w.heap.size + 2) w6 (.slice (some ⟨g6, 0, none⟩) N6 cap6) (l1 ++ [((u.toNat : Int), gp)])) := o6; have hN6' : Hid (N6 = (l1 ++ [((u.toNat : Int), gp)]).length) := hN6; clear o6 q6 hrow hN6))
                go_roundw
                case rel => exact ⟨_, rs.drop (k + n), (u.toNat : Int), f, rfl, o6'.out, k6.out, b6.out, by rw [List.length_drop]; omega, by rw [List.length_append, List.length_drop]; simp only [List.length_cons, List.length_nil]; omega, by have := hj2.out; rw [List.map_append] at this ⊢; exact this⟩
                case measure =>
                  have e1 := hN0.out
                  have e2 := hN6'.out
                  rw [List.length_append] at e2
                  simp only [List.length_cons, List.length_nil] at e2
                  simp only [lenV]
                  omega
              · have hRn : Hid (R = none) := by rw [← hj'.out, secs_no hne (rdSec_no3 hg hn)]; rfl
                have hZ : Hid (∀ x, RdX x (w.heap.size + 1) 2 b rs → Calls Try.prog 24 #[.pointer (some ⟨w.heap.size + 1, 0, none⟩), .int .i64 3] x fun e w' => e = gave 2 ∧ x.grownBy w' (some (w.heap.size + 1))) := fun x hx => sized_no2 (w.heap.size + 1) 2 3 b rs x hx n k hg hn hlrs
                clear hj' hg hs1 hM
                go_wp2_with (first | (go_at_call 20; refine hF.out.mono ?_; rintro e w1 ⟨rfl, rfl⟩; clear hF) | (go_at_call 21; refine hN.out.mono ?_; rintro e w2 ⟨rfl, k2, g2⟩; have k2' : Hid (RdX w2 (w.heap.size + 1) 2 b rs) := k2; have g2' : Hid (wr.grownBy w2 (some (w.heap.size + 1))) := g2; clear k2 g2 hN) | (go_at_call 23; refine (hI.out _).mono ?_; rintro e w3 ⟨rfl, rfl⟩; clear hI) | (go_at_call 22; refine (must_yes _ _).mono ?_; rintro e w4 ⟨rfl, rfl⟩) | (go_at_call 24; refine (hZ.out _ k2'.out).mono ?_; rintro e w5 ⟨rfl, g5⟩))
                exact ⟨rfl, .inr ⟨hRn.out, rfl⟩, grownB hbel'.out (g2'.out.trans g5) hsz (by omega)⟩
          · have hRn : Hid (R = none) := by rw [← hj'.out, secs_no hne (rdSec_no1 hsec)]; rfl
            have hcase : (isSec (u.toNat : Int) = false) ∨ (isSec (u.toNat : Int) = true ∧ ¬ last < (u.toNat : Int)) := by
              cases h1 : isSec (u.toNat : Int) with
              | false => exact .inl rfl
              | true => exact .inr ⟨rfl, fun h2 => hsec ⟨h1, h2⟩⟩
            clear hsec hj'
            rcases hcase with hs1 | ⟨hs1, hs2⟩
            · rw [hs1] at hI
              clear hs1
              go_wp2_with (first | (go_at_call 20; refine hF.out.mono ?_; rintro e w1 ⟨rfl, rfl⟩; clear hF) | (go_at_call 21; refine hN.out.mono ?_; rintro e w2 ⟨rfl, k2, g2⟩; have k2' : Hid (RdX w2 (w.heap.size + 1) 2 b rs) := k2; have g2' : Hid (wr.grownBy w2 (some (w.heap.size + 1))) := g2; clear k2 g2 hN) | (go_at_call 23; refine (hI.out _).mono ?_; rintro e w3 ⟨rfl, rfl⟩; clear hI) | (go_at_call 22; refine (hM.out _ k2'.out).mono ?_; rintro e w4 ⟨rfl, rfl⟩))
              exact ⟨rfl, .inr ⟨hRn.out, rfl⟩, grownB hbel'.out g2'.out hsz (by omega)⟩
            · rw [hs1] at hI
              have hd0 : decide (last < (u.toNat : Int)) = false := decide_eq_false hs2
              have hs3 : (u.toNat : Int) ≤ last := by omega
              clear hs1
              go_wp2_with (first | (go_at_call 20; refine hF.out.mono ?_; rintro e w1 ⟨rfl, rfl⟩; clear hF) | (go_at_call 21; refine hN.out.mono ?_; rintro e w2 ⟨rfl, k2, g2⟩; have k2' : Hid (RdX w2 (w.heap.size + 1) 2 b rs) := k2; have g2' : Hid (wr.grownBy w2 (some (w.heap.size + 1))) := g2; clear k2 g2 hN) | (go_at_call 23; refine (hI.out _).mono ?_; rintro e w3 ⟨rfl, rfl⟩; clear hI) | (go_at_call 22; refine (hM.out _ k2'.out).mono ?_; rintro e w4 ⟨rfl, rfl⟩))
              exact ⟨rfl, .inr ⟨hRn.out, rfl⟩, grownB hbel'.out g2'.out hsz (by omega)⟩
  · rw [if_neg hpre]
    have hA : Hid (ansSec bs = none) := if_neg hpre
    rw [show decide (bs.take 8 = hd) = false from decide_eq_false hpre] at hH
    clear hpre hs
    go_enter Try.func15, Try.ntmps15
    go_wp2_with (go_at_call 19; refine hH.out.mono ?_; rintro e w1 ⟨rfl, rfl⟩)
    exact ⟨rfl, .inr ⟨hA.out, rfl⟩, hb0.out⟩
end Go.Proofs.Ythjgmjhgpjgdlab.SecRead
