/-
  What the specification's BodyText answers when it is called.
-/
import Derived.Test.YtjbhelcdakhjbaaDoorPlainBody
import Derived.Test.YtjbhelcdakhjbaaDoorEveryIns
namespace Go.Proofs.YtjbhelcdakhjbaaDoor.BodyCalls
open Go.RowKit PlainOps NameCalls PlainNum NumCalls InsCalls PlainShape InsMem PlainAll EveryIns PlainBody
theorem step0 (l : List I3) (k : Nat) {X T : ByteArray} (hX : X = tx (bodyT l k)) (hT : T = opNm (oAt l k)) (hk : kd (oAt l k) = 0) (S : ByteArray) (hS : (k = 0 ∧ S = X) ∨ (k ≠ 0 ∧ S = X ++ ⟨#[59]⟩)) : S ++ T = tx (bodyT l (k + 1)) := by
  have hk3 : ¬ kd (oAt l k) = 3 := by omega
  rw [bodyT, insAt, insL, if_pos hk, if_neg hk3, hT, opNm_tx, List.append_nil, List.append_nil, ← tx_append, ← tx_append]
  rcases hS with ⟨h0, h1⟩ | ⟨h0, h1⟩
  · rw [if_pos h0, h1, hX, tx_append (bodyT l k) [], List.append_nil]
  · rw [if_neg h0, h1, hX]; rfl
theorem step1 (l : List I3) (k : Nat) {X T DA : ByteArray} (hX : X = tx (bodyT l k)) (hT : T = opNm (oAt l k)) (hA : DA = tx (numL (aAt l k))) (hk : kd (oAt l k) ≠ 0) (hk3 : kd (oAt l k) ≠ 3) (S : ByteArray) (hS : (k = 0 ∧ S = X) ∨ (k ≠ 0 ∧ S = X ++ ⟨#[59]⟩)) :
    S ++ T ++ ⟨#[32]⟩ ++ DA = tx (bodyT l (k + 1)) := by
  rw [bodyT, insAt, insL, if_neg hk, if_neg hk3, hT, opNm_tx, hA, List.append_nil]
  rw [show (⟨#[32]⟩ : ByteArray) = tx [32] from rfl]
  rcases hS with ⟨h0, h1⟩ | ⟨h0, h1⟩
  · rw [if_pos h0, h1, hX]; simp only [tx_append]; simp
  · rw [if_neg h0, h1, hX, show (⟨#[59]⟩ : ByteArray) = tx [59] from rfl]; simp only [tx_append]; simp
theorem step3 (l : List I3) (k : Nat) {X T DA DB : ByteArray} (hX : X = tx (bodyT l k)) (hT : T = opNm (oAt l k)) (hA : DA = tx (numL (aAt l k))) (hB : DB = tx (numL (bAt l k))) (hk : kd (oAt l k) = 3) (S : ByteArray) (hS : (k = 0 ∧ S = X) ∨ (k ≠ 0 ∧ S = X ++ ⟨#[59]⟩)) :
    S ++ T ++ ⟨#[32]⟩ ++ DA ++ ⟨#[32]⟩ ++ DB = tx (bodyT l (k + 1)) := by
  have hk0 : ¬ kd (oAt l k) = 0 := by omega
  rw [bodyT, insAt, insL, if_neg hk0, if_pos hk, hT, opNm_tx, hA, hB]
  rw [show (⟨#[32]⟩ : ByteArray) = tx [32] from rfl]
  rcases hS with ⟨h0, h1⟩ | ⟨h0, h1⟩
  · rw [if_pos h0, h1, hX]; simp only [tx_append]; simp
  · rw [if_neg h0, h1, hX, show (⟨#[59]⟩ : ByteArray) = tx [59] from rfl]; simp only [tx_append]; simp
set_option maxHeartbeats 16000000 in
theorem spec_bodyText (w : World) (a : Option Addr) (cap : Nat) (l : List I3) (h : RdI w a l) (hn : l.length ≤ 2097152) :
    Calls Tryd.prog 12 #[.slice a l.length cap] w fun e w' => e = .returned (.string (bodyText l)) ∧ Below w.heap.size w w' := by
  obtain ⟨R, hR⟩ : ∃ R, bodyText l = R := ⟨_, rfl⟩
  have hF : Hid (bodyText l = R) := hR
  rw [hR]
  have h' : Hid (RdI w a l) := h
  clear hR h
  go_enter Tryd.func12, Tryd.ntmps12
  go_wp2_with fail
  go_loopw [3, 8] (fun vo vk wr => ∃ (k f : Nat) (X : ByteArray), k + f = l.length ∧ vk = .int .i64 k ∧ vo = .string X ∧ X = tx (bodyT l k) ∧ allF l f k = allF l l.length 0 ∧ Below w.heap.size w wr) (fun _ vk _ => l.length - (intOf vk).toNat)
  case atStart => exact ⟨0, l.length, ⟨#[]⟩, by omega, rfl, rfl, rfl, rfl, Below.refl _ _⟩
  case round =>
    obtain ⟨k, f, X, hk, rfl, rfl, hX, hall, hbel⟩ := hrel
    have hX' : Hid (X = tx (bodyT l k)) := hX
    have hXs : X.size ≤ 136314880 := by rw [hX, tx_size]; have := bodyT_len l k; omega
    have hall' : Hid (allF l f k = allF l l.length 0) := hall
    have hbel' : Hid (Below w.heap.size w wr) := hbel
    have hsz := hbel.size
    clear hX hall
    by_cases hlt : k < l.length
    · have hlt' : (k : Int) < (l.length : Int) := by omega
      obtain ⟨f, rfl⟩ : ∃ j, f = j + 1 := ⟨f - 1, by omega⟩
      rcases h'.out.later hbel with h0 | ⟨b, off, ha, hc⟩
      · omega
      · obtain ⟨c0, c1, c2⟩ := hc k hlt
        subst ha
        clear hc hbel
        have hok : Hid _ := fun u => spec_insOk (oAt l k) (aAt l k) (bAt l k) u
        have hnm : Hid _ := fun u => spec_opName (oAt l k) u
        have hkd : Hid _ := fun u => spec_kind (oAt l k) u
        have hA : Hid _ := fun u => Digits.spec_numText (aAt l k) u
        have hB : Hid _ := fun u => Digits.spec_numText (bAt l k) u
        have eT : Hid (opNm (oAt l k) = opNm (oAt l k)) := rfl
        have sT := opNm_small (oAt l k)
        have sA : (tx (numL (aAt l k))).size ≤ 21 := by rw [tx_size]; exact numL_len _
        have sB : (tx (numL (bAt l k))).size ≤ 21 := by rw [tx_size]; exact numL_len _
        have hp0 : Hid (∀ X T S : ByteArray, X = tx (bodyT l k) → T = opNm (oAt l k) → kd (oAt l k) = 0 → ((k = 0 ∧ S = X) ∨ (k ≠ 0 ∧ S = X ++ ⟨#[59]⟩)) → S ++ T = tx (bodyT l (k + 1))) := fun X T S h1 h2 h3 h4 => step0 l k h1 h2 h3 S h4
        have hp1 : Hid (∀ X T DA S : ByteArray, X = tx (bodyT l k) → T = opNm (oAt l k) → DA = tx (numL (aAt l k)) → kd (oAt l k) ≠ 0 → kd (oAt l k) ≠ 3 → ((k = 0 ∧ S = X) ∨ (k ≠ 0 ∧ S = X ++ ⟨#[59]⟩)) → S ++ T ++ ⟨#[32]⟩ ++ DA = tx (bodyT l (k + 1))) := fun X T DA S h1 h2 h3 h4 h5 h6 => step1 l k h1 h2 h3 h4 h5 S h6
        have hp3 : Hid (∀ X T DA DB S : ByteArray, X = tx (bodyT l k) → T = opNm (oAt l k) → DA = tx (numL (aAt l k)) → DB = tx (numL (bAt l k)) → kd (oAt l k) = 3 → ((k = 0 ∧ S = X) ∨ (k ≠ 0 ∧ S = X ++ ⟨#[59]⟩)) → S ++ T ++ ⟨#[32]⟩ ++ DA ++ ⟨#[32]⟩ ++ DB = tx (bodyT l (k + 1))) := fun X T DA DB S h1 h2 h3 h4 h5 h6 => step3 l k h1 h2 h3 h4 h5 S h6
        have hno : Hid (okAt l k = false → allF l (f + 1) k = false) := fun h => allF_no h
        have hyes : Hid (okAt l k = true → allF l (f + 1) k = allF l f (k + 1)) := fun h => allF_yes h
        have hkk := kd_is (oAt l k)
        change Hid (∀ u, Calls Tryd.prog 18 #[.int .i64 (aAt l k)] u fun e w' => e = .returned (.string (tx (numL (aAt l k)))) ∧ Below u.heap.size u w') at hA
        change Hid (∀ u, Calls Tryd.prog 18 #[.int .i64 (bAt l k)] u fun e w' => e = .returned (.string (tx (numL (bAt l k)))) ∧ Below u.heap.size u w') at hB
        change Hid (∀ u, Calls Tryd.prog 19 _ u fun e w' => e = .returned (.bool (okAt l k)) ∧ Below u.heap.size u w') at hok
        generalize tx (numL (aAt l k)) = DA at *
        generalize tx (numL (bAt l k)) = DB at *
        generalize okAt l k = O at *
        generalize opNm (oAt l k) = T at *
        generalize kd (oAt l k) = K at *
        generalize oAt l k = o at *
        generalize aAt l k = x1 at *
        generalize bAt l k = x2 at *
        clear eT
        cases O with
        | false =>
          have e1 := hno.out rfl
          have e2 : Hid (bodyText l = ⟨#[]⟩) := if_neg (by rw [← hall'.out, e1]; decide)
          clear hno hyes e1 hp0 hp1 hp3
          go_wp2_with (first | (go_at_call 19; refine (hok.out _).mono ?_; rintro e w1 ⟨rfl, q1⟩; have hb := q1; obtain ⟨c0, c1, c2⟩ := box_cells hb) | (go_at_call 16; refine (hnm.out _).mono ?_; rintro e w2 ⟨rfl, q2⟩; replace hb := hb.trans (q2.mono hb.size); obtain ⟨c0, c1, c2⟩ := box_cells hb) | (go_at_call 20; refine (hkd.out _).mono ?_; rintro e w3 ⟨rfl, rfl⟩) | (go_at_call_of 18 x1; refine (hA.out _).mono ?_; rintro e w4 ⟨rfl, q4⟩; replace hb := hb.trans (q4.mono hb.size); obtain ⟨c0, c1, c2⟩ := box_cells hb) | (go_at_call_of 18 x2; refine (hB.out _).mono ?_; rintro e w5 ⟨rfl, q5⟩; replace hb := hb.trans (q5.mono hb.size); obtain ⟨c0, c1, c2⟩ := box_cells hb))
          go_ret
          exact ⟨by rw [← hF.out, e2.out]; rfl, hbel'.out.trans (hb2 hsz hb)⟩
        | true =>
          have e1 : Hid (allF l f (k + 1) = allF l l.length 0) := (hyes.out rfl).symm.trans hall'.out
          clear hno hyes
          by_cases hk0 : k = 0
          · subst hk0
            simp only [Nat.zero_mul, Nat.add_zero] at c0 c1 c2
            by_cases hK0 : K = 0
            · subst hK0
              have e3 : Hid (X ++ T = tx (bodyT l (0 + 1))) := hp0.out X T X hX'.out rfl rfl (.inl ⟨rfl, rfl⟩)
              clear hp0 hp1 hp3
              go_wp2_with (first | (go_at_call 19; refine (hok.out _).mono ?_; rintro e w1 ⟨rfl, q1⟩; have hb := q1; obtain ⟨c0, c1, c2⟩ := box_cells hb) | (go_at_call 16; refine (hnm.out _).mono ?_; rintro e w2 ⟨rfl, q2⟩; replace hb := hb.trans (q2.mono hb.size); obtain ⟨c0, c1, c2⟩ := box_cells hb) | (go_at_call 20; refine (hkd.out _).mono ?_; rintro e w3 ⟨rfl, rfl⟩) | (go_at_call_of 18 x1; refine (hA.out _).mono ?_; rintro e w4 ⟨rfl, q4⟩; replace hb := hb.trans (q4.mono hb.size); obtain ⟨c0, c1, c2⟩ := box_cells hb) | (go_at_call_of 18 x2; refine (hB.out _).mono ?_; rintro e w5 ⟨rfl, q5⟩; replace hb := hb.trans (q5.mono hb.size); obtain ⟨c0, c1, c2⟩ := box_cells hb))
              go_roundw
              case rel => exact ⟨0 + 1, f, _, by omega, by go_num, rfl, e3.out, e1.out, hbel'.out.trans (hb2 hsz hb)⟩
              case measure => simp [intOf]; omega
            · have hKp : (0 : Int) < K := by omega
              by_cases hK3 : K = 3
              · subst hK3
                have e3 : Hid (X ++ T ++ ⟨#[32]⟩ ++ DA ++ ⟨#[32]⟩ ++ DB = tx (bodyT l (0 + 1))) := hp3.out X T DA DB X hX'.out rfl rfl rfl rfl (.inl ⟨rfl, rfl⟩)
                clear hp0 hp1 hp3
                go_wp2_with (first | (go_at_call 19; refine (hok.out _).mono ?_; rintro e w1 ⟨rfl, q1⟩; have hb := q1; obtain ⟨c0, c1, c2⟩ := box_cells hb) | (go_at_call 16; refine (hnm.out _).mono ?_; rintro e w2 ⟨rfl, q2⟩; replace hb := hb.trans (q2.mono hb.size); obtain ⟨c0, c1, c2⟩ := box_cells hb) | (go_at_call 20; refine (hkd.out _).mono ?_; rintro e w3 ⟨rfl, rfl⟩) | (go_at_call_of 18 x1; refine (hA.out _).mono ?_; rintro e w4 ⟨rfl, q4⟩; replace hb := hb.trans (q4.mono hb.size); obtain ⟨c0, c1, c2⟩ := box_cells hb) | (go_at_call_of 18 x2; refine (hB.out _).mono ?_; rintro e w5 ⟨rfl, q5⟩; replace hb := hb.trans (q5.mono hb.size); obtain ⟨c0, c1, c2⟩ := box_cells hb))
                go_roundw
                case rel => exact ⟨0 + 1, f, _, by omega, by go_num, rfl, e3.out, e1.out, hbel'.out.trans (hb2 hsz hb)⟩
                case measure => simp [intOf]; omega
              · have e3 : Hid (X ++ T ++ ⟨#[32]⟩ ++ DA = tx (bodyT l (0 + 1))) := hp1.out X T DA X hX'.out rfl rfl hK0 hK3 (.inl ⟨rfl, rfl⟩)
                have hK3' : (K == 3) = false := by simp [hK3]
                clear hp0 hp1 hp3 hK3 hkk
                go_wp2_with (first | (go_at_call 19; refine (hok.out _).mono ?_; rintro e w1 ⟨rfl, q1⟩; have hb := q1; obtain ⟨c0, c1, c2⟩ := box_cells hb) | (go_at_call 16; refine (hnm.out _).mono ?_; rintro e w2 ⟨rfl, q2⟩; replace hb := hb.trans (q2.mono hb.size); obtain ⟨c0, c1, c2⟩ := box_cells hb) | (go_at_call 20; refine (hkd.out _).mono ?_; rintro e w3 ⟨rfl, rfl⟩) | (go_at_call_of 18 x1; refine (hA.out _).mono ?_; rintro e w4 ⟨rfl, q4⟩; replace hb := hb.trans (q4.mono hb.size); obtain ⟨c0, c1, c2⟩ := box_cells hb) | (go_at_call_of 18 x2; refine (hB.out _).mono ?_; rintro e w5 ⟨rfl, q5⟩; replace hb := hb.trans (q5.mono hb.size); obtain ⟨c0, c1, c2⟩ := box_cells hb))
                go_roundw
                case rel => exact ⟨0 + 1, f, _, by omega, by go_num, rfl, e3.out, e1.out, hbel'.out.trans (hb2 hsz hb)⟩
                case measure => simp [intOf]; omega
          · have hkp : (0 : Int) < (k : Int) := by omega
            by_cases hK0 : K = 0
            · subst hK0
              have e3 : Hid (X ++ ⟨#[59]⟩ ++ T = tx (bodyT l (k + 1))) := hp0.out X T _ hX'.out rfl rfl (.inr ⟨hk0, rfl⟩)
              clear hp0 hp1 hp3
              go_wp2_with (first | (go_at_call 19; refine (hok.out _).mono ?_; rintro e w1 ⟨rfl, q1⟩; have hb := q1; obtain ⟨c0, c1, c2⟩ := box_cells hb) | (go_at_call 16; refine (hnm.out _).mono ?_; rintro e w2 ⟨rfl, q2⟩; replace hb := hb.trans (q2.mono hb.size); obtain ⟨c0, c1, c2⟩ := box_cells hb) | (go_at_call 20; refine (hkd.out _).mono ?_; rintro e w3 ⟨rfl, rfl⟩) | (go_at_call_of 18 x1; refine (hA.out _).mono ?_; rintro e w4 ⟨rfl, q4⟩; replace hb := hb.trans (q4.mono hb.size); obtain ⟨c0, c1, c2⟩ := box_cells hb) | (go_at_call_of 18 x2; refine (hB.out _).mono ?_; rintro e w5 ⟨rfl, q5⟩; replace hb := hb.trans (q5.mono hb.size); obtain ⟨c0, c1, c2⟩ := box_cells hb))
              go_roundw
              case rel => exact ⟨k + 1, f, _, by omega, by go_num, rfl, e3.out, e1.out, hbel'.out.trans (hb2 hsz hb)⟩
              case measure => simp [intOf]; omega
            · have hKp : (0 : Int) < K := by omega
              by_cases hK3 : K = 3
              · subst hK3
                have e3 : Hid (X ++ ⟨#[59]⟩ ++ T ++ ⟨#[32]⟩ ++ DA ++ ⟨#[32]⟩ ++ DB = tx (bodyT l (k + 1))) := hp3.out X T DA DB _ hX'.out rfl rfl rfl rfl (.inr ⟨hk0, rfl⟩)
                clear hp0 hp1 hp3
                go_wp2_with (first | (go_at_call 19; refine (hok.out _).mono ?_; rintro e w1 ⟨rfl, q1⟩; have hb := q1; obtain ⟨c0, c1, c2⟩ := box_cells hb) | (go_at_call 16; refine (hnm.out _).mono ?_; rintro e w2 ⟨rfl, q2⟩; replace hb := hb.trans (q2.mono hb.size); obtain ⟨c0, c1, c2⟩ := box_cells hb) | (go_at_call 20; refine (hkd.out _).mono ?_; rintro e w3 ⟨rfl, rfl⟩) | (go_at_call_of 18 x1; refine (hA.out _).mono ?_; rintro e w4 ⟨rfl, q4⟩; replace hb := hb.trans (q4.mono hb.size); obtain ⟨c0, c1, c2⟩ := box_cells hb) | (go_at_call_of 18 x2; refine (hB.out _).mono ?_; rintro e w5 ⟨rfl, q5⟩; replace hb := hb.trans (q5.mono hb.size); obtain ⟨c0, c1, c2⟩ := box_cells hb))
                go_roundw
                case rel => exact ⟨k + 1, f, _, by omega, by go_num, rfl, e3.out, e1.out, hbel'.out.trans (hb2 hsz hb)⟩
                case measure => simp [intOf]; omega
              · have e3 : Hid (X ++ ⟨#[59]⟩ ++ T ++ ⟨#[32]⟩ ++ DA = tx (bodyT l (k + 1))) := hp1.out X T DA _ hX'.out rfl rfl hK0 hK3 (.inr ⟨hk0, rfl⟩)
                have hK3' : (K == 3) = false := by simp [hK3]
                clear hp0 hp1 hp3 hK3 hkk
                go_wp2_with (first | (go_at_call 19; refine (hok.out _).mono ?_; rintro e w1 ⟨rfl, q1⟩; have hb := q1; obtain ⟨c0, c1, c2⟩ := box_cells hb) | (go_at_call 16; refine (hnm.out _).mono ?_; rintro e w2 ⟨rfl, q2⟩; replace hb := hb.trans (q2.mono hb.size); obtain ⟨c0, c1, c2⟩ := box_cells hb) | (go_at_call 20; refine (hkd.out _).mono ?_; rintro e w3 ⟨rfl, rfl⟩) | (go_at_call_of 18 x1; refine (hA.out _).mono ?_; rintro e w4 ⟨rfl, q4⟩; replace hb := hb.trans (q4.mono hb.size); obtain ⟨c0, c1, c2⟩ := box_cells hb) | (go_at_call_of 18 x2; refine (hB.out _).mono ?_; rintro e w5 ⟨rfl, q5⟩; replace hb := hb.trans (q5.mono hb.size); obtain ⟨c0, c1, c2⟩ := box_cells hb))
                go_roundw
                case rel => exact ⟨k + 1, f, _, by omega, by go_num, rfl, e3.out, e1.out, hbel'.out.trans (hb2 hsz hb)⟩
                case measure => simp [intOf]; omega
    · obtain rfl : k = l.length := by omega
      obtain rfl : f = 0 := by omega
      have e2 : Hid (bodyText l = X) := (if_pos (hall'.out.symm.trans rfl)).trans hX'.out.symm
      clear hbel
      go_wp2_with fail
      go_ret
      exact ⟨by rw [← hF.out, e2.out]; rfl, hbel'.out⟩
end Go.Proofs.YtjbhelcdakhjbaaDoor.BodyCalls
