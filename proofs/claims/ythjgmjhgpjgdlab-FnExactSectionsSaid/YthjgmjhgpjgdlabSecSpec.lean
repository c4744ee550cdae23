/-
  What the specification's l04Cut and Sections answer when they are called.
-/
import Derived.Test.YthjgmjhgpjgdlabSecImpl
import Derived.Test.YthjgmjhgpjgdlabSpecGets
import Derived.Laws.BytesArg
import Derived.Deep.RegionHeld
namespace Go.Proofs.Ythjgmjhgpjgdlab.SecSpec
open Go.RowKit PlainNum PlainLeb PlainGet PlainRd PlainSec NumCalls ByteMem PutU SecAll SecImpl

def txt (l : List UInt8) : ByteArray := strOfNums (l.map fun u : UInt8 => (u.toNat : Int))
theorem txt_inj {a b : List UInt8} (h : txt a = txt b) : a = b := by
  have := congrArg (fun x : ByteArray => x.data.toList) h
  simp only [txt, strOfNums_data, List.map_map] at this
  have e : ∀ l : List UInt8, l.map ((fun n : Int => UInt8.ofNat n.toNat) ∘ fun u => (u.toNat : Int)) = l := fun l => (List.map_congr_left (g := id) fun x _ => by simp).trans (List.map_id l)
  rw [e, e] at this
  exact this
theorem str_ne {a b : ByteArray} (h : ¬ a = b) : (a.toList == b.toList) = false := by
  rw [beq_eq_false_iff_ne]
  intro e
  rw [ByteArray.toList_eq, ByteArray.toList_eq] at e
  exact h (ByteArray.ext (Array.toList_inj.1 e))
theorem conv_take {w : World} {b off cap : Nat} {bs : List UInt8} (hs : Src w b off cap bs) (h8 : 8 ≤ bs.length) (c : Nat) : (convert 22 9 (.slice (some ⟨b, off, none⟩) 8 c)).run Try.prog w = .ok (.string (txt (bs.take 8))) w :=
  run_convert_bytes_arg w 22 5 Try.underlying22 Try.underlying5 b off 8 c ((bs.take 8).map fun u : UInt8 => (u.toNat : Int)) (by simp; omega) (fun i hi => by
    rw [hs.rd i (by omega)]
    have : i < bs.length := by omega
    simp [hi, this, List.getD]) 9 Try.underlying9
theorem spec_head (w : World) :
    Calls Try.prog 16 #[] w fun e w' => e = .returned (.slice (some ⟨w.heap.size, 0, none⟩) 8 8) ∧ Below w.heap.size w w' ∧ (convert 22 9 (.slice (some ⟨w.heap.size, 0, none⟩) 8 8)).run Try.prog w' = .ok (.string (txt hd)) w' := by
  go_enter Try.func16, Try.ntmps16
  go_wp2_with fail
  go_ret
  refine ⟨rfl, (Below.refl _ _).alloc (Nat.le_refl _) _, run_convert_bytes_arg _ 22 5 Try.underlying22 Try.underlying5 w.heap.size 0 8 8 (hd.map fun u : UInt8 => (u.toNat : Int)) (by simp [hd]) (fun i hi => ?_) 9 Try.underlying9⟩
  rw [Nat.zero_add]
  have : i = 0 ∨ i = 1 ∨ i = 2 ∨ i = 3 ∨ i = 4 ∨ i = 5 ∨ i = 6 ∨ i = 7 := by omega
  rcases this with rfl | rfl | rfl | rfl | rfl | rfl | rfl | rfl <;> simp [hd]
theorem sec_cases (n : Int) : (isSec n = true ∧ (((n == 1) = true) ∨ ((n == 1) = false ∧ (n == 2) = true) ∨ ((n == 1) = false ∧ (n == 2) = false ∧ (n == 3) = true) ∨ ((n == 1) = false ∧ (n == 2) = false ∧ (n == 3) = false ∧ (n == 5) = true) ∨ ((n == 1) = false ∧ (n == 2) = false ∧ (n == 3) = false ∧ (n == 5) = false ∧ (n == 6) = true) ∨ ((n == 1) = false ∧ (n == 2) = false ∧ (n == 3) = false ∧ (n == 5) = false ∧ (n == 6) = false ∧ (n == 7) = true) ∨ ((n == 1) = false ∧ (n == 2) = false ∧ (n == 3) = false ∧ (n == 5) = false ∧ (n == 6) = false ∧ (n == 7) = false ∧ (n == 10) = true) ∨ ((n == 1) = false ∧ (n == 2) = false ∧ (n == 3) = false ∧ (n == 5) = false ∧ (n == 6) = false ∧ (n == 7) = false ∧ (n == 10) = false ∧ (n == 11) = true))) ∨ (isSec n = false ∧ ((n == 1) = false ∧ (n == 2) = false ∧ (n == 3) = false ∧ (n == 5) = false ∧ (n == 6) = false ∧ (n == 7) = false ∧ (n == 10) = false ∧ (n == 11) = false)) := by
  unfold isSec
  cases h1 : (n == 1) with
  | true => exact .inl ⟨rfl, .inl rfl⟩
  | false =>
    cases h2 : (n == 2) with
    | true => exact .inl ⟨rfl, .inr (.inl ⟨rfl, rfl⟩)⟩
    | false =>
      cases h3 : (n == 3) with
      | true => exact .inl ⟨rfl, .inr (.inr (.inl ⟨rfl, rfl, rfl⟩))⟩
      | false =>
        cases h5 : (n == 5) with
        | true => exact .inl ⟨rfl, .inr (.inr (.inr (.inl ⟨rfl, rfl, rfl, rfl⟩)))⟩
        | false =>
          cases h6 : (n == 6) with
          | true => exact .inl ⟨rfl, .inr (.inr (.inr (.inr (.inl ⟨rfl, rfl, rfl, rfl, rfl⟩))))⟩
          | false =>
            cases h7 : (n == 7) with
            | true => exact .inl ⟨rfl, .inr (.inr (.inr (.inr (.inr (.inl ⟨rfl, rfl, rfl, rfl, rfl, rfl⟩)))))⟩
            | false =>
              cases h10 : (n == 10) with
              | true => exact .inl ⟨rfl, .inr (.inr (.inr (.inr (.inr (.inr (.inl ⟨rfl, rfl, rfl, rfl, rfl, rfl, rfl⟩))))))⟩
              | false =>
                cases h11 : (n == 11) with
                | true => exact .inl ⟨rfl, .inr (.inr (.inr (.inr (.inr (.inr (.inr (⟨rfl, rfl, rfl, rfl, rfl, rfl, rfl, rfl⟩)))))))⟩
                | false =>
                  exact .inr ⟨rfl, rfl, rfl, rfl, rfl, rfl, rfl, rfl, rfl⟩
theorem made0 {w w1 : World} {A C : Obj} (h : Below (((w.alloc A).alloc C).drew).heap.size (((w.alloc A).alloc C).drew) w1) : w1.heap[w.heap.size]? = some A ∧ w1.heap[w.heap.size + 1]? = some C := by
  have e : (((w.alloc A).alloc C).drew).heap = ((w.alloc A).alloc C).heap := rfl
  constructor
  · rw [h.block _ (by simp; omega), e, Below.heap_alloc _ _ _ (by simp)]
    exact World.alloc_heap_new w A
  · rw [h.block _ (by simp), e]
    have := World.alloc_heap_new (w.alloc A) C
    rw [World.size_alloc] at this
    exact this
/-- Rows of two kinds lie apart. -/
theorem apart {w : World} {B B' : Nat} {e e' : TypeId} {s s' : Nat} {v v' : Value} {n n' : Nat} {xs xs' : List Value} (h : w.ownsRow B e s v n xs) (h' : w.ownsRow B' e' s' v' n' xs') (hne : e ≠ e') : v.ownBlock = none ∨ v.ownBlock ≠ v'.ownBlock := by
  rcases h.2 with ⟨hv, _⟩ | ⟨g, cap, cur, hv, hg, hb, _⟩
  · exact .inl (by rw [hv]; rfl)
  · rcases h'.2 with ⟨hv', _⟩ | ⟨g', cap', cur', hv', hg', hb', _⟩
    · exact .inr (by rw [hv, hv']; simp [Value.ownBlock])
    · refine .inr fun e1 => hne ?_
      rw [hv, hv'] at e1
      simp [Value.ownBlock] at e1
      subst e1
      rw [hb] at hb'
      simp at hb'
      exact hb'.2
theorem infoR : (Try.prog.info? 47).map (fun i => (i.zero, i.size, i.bytes)) = some (some (.agg #[.slice none 0 0, .int .i64 0, .bool false]), 3, 40) := by kernel_rfl
theorem wp_appR {ops : Array Oper} {rest : List Oper} {o : Oper} {a : Act} {Q : Exit → Act → World → Prop} {B : Nat} {w : World} {v : Value} {n : Nat} {xs : List Value} (hg : o.guard = none) (s x : Operand)
    (ho : o.op = .call { callee := .builtin .append, args := #[s, x], argTypes := #[32, 32] }) (D : w.ownsRow B 47 3 v n xs) (hB : B ≤ w.heap.size) (b1 o1 l1 c1 : Nat) (z : Int) (hl : n ≤ 10000000) (hs : a.eval s = v) (t : TypeId) (g : Nat) (hgs : g = w.heap.size)
    (hx : a.eval x = .slice (some ⟨g, 0, none⟩) 1 1)
    (h : ∀ g' cap' N w' ys, N = n + 1 → w'.ownsRow B 47 3 (.slice (some ⟨g', 0, none⟩) N cap') N ys → (w.alloc (.cells #[.slice (some ⟨b1, o1, none⟩) l1 c1, .int .i64 z, .bool false] t)).grownBy w' v.ownBlock → wpList Try.prog ops Q rest (a.put o.dst (.slice (some ⟨g', 0, none⟩) N cap')) w') :
    wpList Try.prog ops Q (o :: rest) a (w.alloc (.cells #[.slice (some ⟨b1, o1, none⟩) l1 c1, .int .i64 z, .bool false] t)) := by
  obtain ⟨i0, hi, hz0, hz1, hz2⟩ := info_parts infoR
  subst hgs
  refine wpList_append_own _ hg s x 32 ho B 47 i0 _ 3 40 Try.underlying32 hi hz0 hz1 hz2 rfl (by decide) v n xs hs (World.ownsRow.alloc D _) ⟨w.heap.size, 0, none⟩ 1 1 [.slice (some ⟨b1, o1, none⟩) l1 c1, .int .i64 z, .bool false] hx rfl (fun j u hj => ?_) (fun u hu => ?_) (by unfold maxLen; omega) (by omega) (by simp; omega) ?_
  · match j, hj with
    | 0, hj => simp at hj; subst hj; simp [Addr.add]
    | 1, hj => simp at hj; subst hj; simp [Addr.add]
    | 2, hj => simp at hj; subst hj; simp [Addr.add]
  · simp only [List.mem_cons, List.not_mem_nil, or_false] at hu
    rcases hu with rfl | rfl | rfl <;> rfl
  · intro v' w' ho' hgr _
    rcases ho'.2 with ⟨_, h0⟩ | ⟨g', cap', cur, hv, _⟩
    · omega
    · subst hv
      exact h g' cap' _ w' _ rfl ho' hgr
set_option maxHeartbeats 40000000 in
set_option maxRecDepth 20000 in
theorem spec_cut (w : World) (b off cap : Nat) (bs : List UInt8) (hs : Src w b off cap bs) (hl : bs.length ≤ 1048576) :
    Calls Try.prog 12 #[.slice (some ⟨b, off, none⟩) bs.length cap] w fun e w' => ((∃ ids v v2, ansSec bs = some ids ∧ e = .returned (.tuple #[v, v2, .int .i64 0]) ∧ OwnN w.heap.size w' v ids) ∨ (ansSec bs = none ∧ ∃ c, (c = 1 ∨ c = 2) ∧ e = .returned (.tuple #[.slice none 0 0, .slice none 0 0, .int .i64 c]))) ∧ Below w.heap.size w w' := by
  have hs' : Hid (Src w b off cap bs) := hs
  have hle := hs.le
  have hbl := hs.lt
  clear hs
  have hb2 : Hid (Below w.heap.size w ((w.alloc (.cells #[] 3)).alloc (.cells #[] 47))) := ((Below.refl _ _).alloc (Nat.le_refl _) _).alloc (by simp) _
  by_cases h8 : bs.length < 8
  · have h8' : (bs.length : Int) < 8 := by omega
    have hA : Hid (ansSec bs = none) := if_neg (fun e => by have := congrArg List.length e; simp [hd] at this; omega)
    go_enter Try.func12, Try.ntmps12
    go_wp2_with fail
    go_quiet (fail)
    go_wp2_with fail
    go_ret3
    exact ⟨.inr ⟨hA.out, 1, .inl rfl, rfl⟩, below_drewN hb2.out _⟩
  · have h8' : ¬ (bs.length : Int) < 8 := by omega
    have hcv : Hid (∀ u, Below w.heap.size w u → (convert 22 9 (.slice (some ⟨b, off, none⟩) 8 cap)).run Try.prog u = .ok (.string (txt (bs.take 8))) u) := fun u hu => conv_take (hs'.out.later hu) (by omega) cap
    have hcap : (8 : Nat) ≤ cap := by omega
    have hd8 : decide ((bs.length : Int) < 8) = false := decide_eq_false h8'
    clear h8'
    by_cases hpre : bs.take 8 = hd
    · have hST : txt (bs.take 8) = txt hd := by rw [hpre]
      rw [hST] at hcv
      have hH : Hid (∀ u, Calls Try.prog 16 #[] u fun e w' => e = .returned (.slice (some ⟨u.heap.size, 0, none⟩) 8 8) ∧ Below u.heap.size u w' ∧ (convert 22 9 (.slice (some ⟨u.heap.size, 0, none⟩) 8 8)).run Try.prog w' = .ok (.string (txt hd)) w') := fun u => spec_head u
      obtain ⟨R, hR⟩ : ∃ R, ansSec bs = R := ⟨_, rfl⟩
      have hR' : Hid (secs (bs.drop 8).length 0 (bs.drop 8) = R) := ((if_pos hpre : ansSec bs = _).symm).trans hR
      rw [hR]
      clear hpre hST hR
      generalize txt hd = S at *
      have hcw := hcv.out _ hb2.out.drew
      go_enter Try.func12, Try.ntmps12
      go_wp2_with fail
      go_region_held (fun w' => (convert 22 9 (.slice (some ⟨b, off, none⟩) 8 cap)).run Try.prog w' = .ok (.string S) w') (first | assumption | go_keep)
        (first | (go_at_call 16; refine (hH.out _).mono ?_; rintro e w1 ⟨rfl, b1, q1⟩; rw [show (((w.alloc (.cells #[] 3)).alloc (.cells #[] 47)).drew).heap.size = w.heap.size + 1 + 1 by simp] at q1; have b1' : Hid (Below w.heap.size w w1) := hb2.out.drew.trans (b1.mono (by simp; omega)); have hcw2 := hcv.out w1 b1'.out; have hm1 : Hid (w1.heap[w.heap.size]? = some (.cells #[] 3) ∧ w1.heap[w.heap.size + 1]? = some (.cells #[] 47)) := made0 b1))
      all_goals go_wp2_with fail
      all_goals clear hcw hcw2 q1 b1 hH hcv
      all_goals
        go_loopw [5, 6, 7, 8] (fun vi vo va vl wr => ∃ (ids : List Int) (xs : List Value) (n p f : Nat) (last : Int) (ao : Option Addr) (No capo : Nat), va = .int .i64 p ∧ vl = .int .i64 last ∧ vo = .slice ao No capo ∧ OwnN w.heap.size wr vi ids ∧ wr.ownsRow w.heap.size 47 3 (.slice ao No capo) n xs ∧ n = ids.length ∧ Below w.heap.size w wr ∧ p ≤ bs.length ∧ bs.length - p ≤ f ∧ ids.length + (bs.length - p) ≤ bs.length ∧ joinS ids (secs f last (bs.drop p)) = R) (fun _ _ va _ _ => bs.length - (intOf va).toNat)
        case atStart =>
          obtain ⟨m1, m2⟩ := hm1.out
          exact ⟨[], [], 0, 8, (bs.drop 8).length, 0, _, _, _, rfl, rfl, rfl, ⟨rfl, .inr ⟨w.heap.size, 0, #[], rfl, Nat.le_refl _, m1, Nat.le_refl _, by decide, rfl, rfl⟩⟩, ⟨rfl, .inr ⟨w.heap.size + 1, 0, #[], rfl, by omega, m2, Nat.le_refl _, by decide, rfl, rfl⟩⟩, rfl, b1'.out, by omega, by rw [List.length_drop]; exact Nat.le_refl _, by simp only [List.length_nil]; omega, by rw [hR'.out]; cases R <;> simp [joinS]⟩
        case round =>
          obtain ⟨ids, xs, n, p, f, last, ao, No, capo, rfl, rfl, rfl, hown, hro, hnl, hbel, hp, hf, hlen, hj⟩ := hrel
          obtain ⟨ai, capi, N, rfl, hN⟩ := hown.form
          have hown' : Hid (OwnN w.heap.size wr (.slice ai N capi) ids) := hown
          have hbel' : Hid (Below w.heap.size w wr) := hbel
          have hj' : Hid (joinS ids (secs f last (bs.drop p)) = R) := hj
          have hro' : Hid (wr.ownsRow w.heap.size 47 3 (.slice ao No capo) n xs) := hro
          have hsz := hbel.size
          have hsr := hs'.out.later hbel
          clear hown hbel hj hro
          by_cases hlt : p < bs.length
          · have hlt' : (p : Int) < (bs.length : Int) := by omega
            obtain ⟨u, hu⟩ : ∃ u, bs[p]?.getD 0 = u := ⟨_, rfl⟩
            have hdr : bs.drop p = u :: bs.drop (p + 1) := by rw [drop_cons hlt, hu]
            have hcb : wr.cell? ⟨b, off + p, none⟩ = some (.int .u8 (u.toNat : Int)) := by rw [← hu]; exact hsr.rd p hlt
            have hu8 := u.toNat_lt
            have hG0 := SpecGets.spec_getU wr b off cap bs (((p + 1 : Nat)) : Int) hsr.rd (by omega)
            have hne : bs.drop p ≠ [] := by rw [hdr]; simp
            clear hsr hu
            rcases sec_cases (u.toNat : Int) with ⟨hs1, ha⟩ | ⟨hs1, ha⟩
            · by_cases hlast : last < (u.toNat : Int)
              · cases hg : gU (bs.drop (p + 1)) with
                | none =>
                  have hRn : Hid (R = none) := by rw [← hj'.out, secs_no hne (by rw [hdr]; exact rdSec_no2 hg)]; rfl
                  have hG : Hid (Calls Try.prog 17 #[.slice (some ⟨b, off, none⟩) bs.length cap, .int .i64 ((p : Int) + 1)] wr fun e w' => e = .returned (.tuple #[.int .i64 0, .int .i64 0, .bool false]) ∧ wr = w') := by rw [ansU_at_no hg, show (((p + 1 : Nat)) : Int) = (p : Int) + 1 by omega] at hG0; exact hG0
                  have hd1 : decide ((u.toNat : Int) ≤ last) = false := decide_eq_false (by omega)
                  clear hG0 hg hj' hdr hne hs1
                  rcases ha with t1 | ⟨t1, t2⟩ | ⟨t1, t2, t3⟩ | ⟨t1, t2, t3, t5⟩ | ⟨t1, t2, t3, t5, t6⟩ | ⟨t1, t2, t3, t5, t6, t7⟩ | ⟨t1, t2, t3, t5, t6, t7, t10⟩ | ⟨t1, t2, t3, t5, t6, t7, t10, t11⟩
                  all_goals
                    go_wp2_with (go_at_call 17; refine hG.out.mono ?_; rintro e w2 ⟨rfl, rfl⟩; clear hG)
                    go_ret3
                    exact ⟨.inr ⟨hRn.out, 2, .inr rfl, rfl⟩, hbel'.out⟩
                | some q =>
                  obtain ⟨m, k⟩ := q
                  have hgl := gU_le hg
                  rw [List.length_drop] at hgl
                  have hG : Hid (Calls Try.prog 17 #[.slice (some ⟨b, off, none⟩) bs.length cap, .int .i64 ((p : Int) + 1)] wr fun e w' => e = .returned (.tuple #[.int .i64 (m : Int), .int .i64 ((p : Int) + 1 + (k : Int)), .bool true]) ∧ wr = w') := by rw [ansU_at (by omega) hg, show (((p + 1 : Nat)) : Int) = (p : Int) + 1 by omega] at hG0; exact hG0
                  have hd1 : decide ((u.toNat : Int) ≤ last) = false := decide_eq_false (by omega)
                  by_cases hm : m ≤ (bs.drop (p + 1)).length - k
                  · have hrs : rdSec last (bs.drop p) = some ((u.toNat : Int), 1 + k + m) := by rw [hdr]; exact rdSec_yes hs1 hlast hg hm
                    obtain ⟨f, rfl⟩ : ∃ j, f = j + 1 := ⟨f - 1, by omega⟩
                    have hj2 : Hid (joinS (ids ++ [(u.toNat : Int)]) (secs f (u.toNat : Int) (bs.drop (p + 1 + k + m))) = R) := by
                      show _ = _
                      rw [← hj'.out, secs_yes hrs, joinS_step, List.drop_drop, show p + (1 + k + m) = p + 1 + k + m by omega]
                    rw [List.length_drop] at hm
                    have hm1 : decide ((bs.length : Int) - ((p : Int) + 1 + (k : Int)) < (m : Int)) = false := decide_eq_false (by omega)
                    have hm2 : ¬ (bs.length : Int) - ((p : Int) + 1 + (k : Int)) < (m : Int) := by omega
                    clear hG0 hg hj' hdr hne hs1 hrs
                    rcases ha with t1 | ⟨t1, t2⟩ | ⟨t1, t2, t3⟩ | ⟨t1, t2, t3, t5⟩ | ⟨t1, t2, t3, t5, t6⟩ | ⟨t1, t2, t3, t5, t6, t7⟩ | ⟨t1, t2, t3, t5, t6, t7, t10⟩ | ⟨t1, t2, t3, t5, t6, t7, t10, t11⟩
                    all_goals
                      go_wp2_with (first | (go_at_call 17; refine hG.out.mono ?_; rintro e w2 ⟨rfl, rfl⟩; clear hG) | (at_builtin; refine wp_appN rfl _ _ rfl hown'.out hsz (u.toNat : Int) (by omega) rfl _ _ rfl rfl ?_; intro g3 cap3 N3 w3 hN3 o3 q3; have b3 : Hid (Below w.heap.size w w3) := (hbel'.out.alloc hsz _).grown q3 (by simp; omega) (fun k e => (World.ownsRow.lt hown'.out k e).1); have o3' : Hid (OwnN w.heap.size w3 (.slice (some ⟨g3, 0, none⟩) N3 cap3) (ids ++ [(u.toNat : Int)])) := o3; have r3 : Hid (w3.ownsRow w.heap.size 47 3 (.slice ao No capo) n xs) := World.ownsRow.kept (World.ownsRow.alloc hro'.out _) q3 (apart hro'.out hown'.out (by decide)); have hN3' : Hid (N3 = (ids ++ [(u.toNat : Int)]).length) := hN3; have z3 := b3.out.size; clear o3 q3 hN3) | (at_builtin; refine wp_appR rfl _ _ rfl r3.out (by omega) b off (p + 1 + k + m) cap ((p : Int) + 1 + (k : Int)) (by omega) rfl _ _ rfl rfl ?_; intro g4 cap4 N4 w4 ys hN4 r4 q4; have b4 : Hid (Below w.heap.size w w4) := (b3.out.alloc (by omega) _).grown q4 (by simp; omega) (fun k e => (World.ownsRow.lt r3.out k e).1); have o4 : Hid (OwnN w.heap.size w4 (.slice (some ⟨g3, 0, none⟩) N3 cap3) (ids ++ [(u.toNat : Int)])) := World.ownsRow.kept (World.ownsRow.alloc o3'.out _) q4 (apart o3'.out r3.out (by decide)); have r4' : Hid (w4.ownsRow w.heap.size 47 3 (.slice (some ⟨g4, 0, none⟩) N4 cap4) N4 ys) := r4; have hN4' : Hid (N4 = n + 1) := hN4; clear r4 q4 hN4))
                      go_roundw
                      case rel => exact ⟨_, _, _, p + 1 + k + m, f, (u.toNat : Int), _, _, _, by go_num, rfl, rfl, o4.out, r4'.out, by rw [hN4'.out, hnl, List.length_append]; rfl, b4.out, by omega, by omega, by rw [List.length_append]; simp only [List.length_cons, List.length_nil]; omega, hj2.out⟩
                      case measure => simp [intOf]; omega
                  · have hRn : Hid (R = none) := by rw [← hj'.out, secs_no hne (by rw [hdr]; exact rdSec_no3 hg hm)]; rfl
                    rw [List.length_drop] at hm
                    have hm1 : decide ((bs.length : Int) - ((p : Int) + 1 + (k : Int)) < (m : Int)) = true := decide_eq_true (by omega)
                    have hm2 : (bs.length : Int) - ((p : Int) + 1 + (k : Int)) < (m : Int) := by omega
                    clear hG0 hg hj' hdr hne hs1
                    rcases ha with t1 | ⟨t1, t2⟩ | ⟨t1, t2, t3⟩ | ⟨t1, t2, t3, t5⟩ | ⟨t1, t2, t3, t5, t6⟩ | ⟨t1, t2, t3, t5, t6, t7⟩ | ⟨t1, t2, t3, t5, t6, t7, t10⟩ | ⟨t1, t2, t3, t5, t6, t7, t10, t11⟩
                    all_goals
                      go_wp2_with (go_at_call 17; refine hG.out.mono ?_; rintro e w2 ⟨rfl, rfl⟩; clear hG)
                      go_ret3
                      exact ⟨.inr ⟨hRn.out, 2, .inr rfl, rfl⟩, hbel'.out⟩
              · have hRn : Hid (R = none) := by rw [← hj'.out, secs_no hne (by rw [hdr]; exact rdSec_no1 (fun e => hlast e.2))]; rfl
                have hd1 : decide ((u.toNat : Int) ≤ last) = true := decide_eq_true (by omega)
                have hd2 : (u.toNat : Int) ≤ last := by omega
                cases hg : gU (bs.drop (p + 1)) with
                | none =>
                  have hG : Hid (Calls Try.prog 17 #[.slice (some ⟨b, off, none⟩) bs.length cap, .int .i64 ((p : Int) + 1)] wr fun e w' => e = .returned (.tuple #[.int .i64 0, .int .i64 0, .bool false]) ∧ wr = w') := by rw [ansU_at_no hg, show (((p + 1 : Nat)) : Int) = (p : Int) + 1 by omega] at hG0; exact hG0
                  clear hG0 hg hj' hdr hne hs1
                  rcases ha with t1 | ⟨t1, t2⟩ | ⟨t1, t2, t3⟩ | ⟨t1, t2, t3, t5⟩ | ⟨t1, t2, t3, t5, t6⟩ | ⟨t1, t2, t3, t5, t6, t7⟩ | ⟨t1, t2, t3, t5, t6, t7, t10⟩ | ⟨t1, t2, t3, t5, t6, t7, t10, t11⟩
                  all_goals
                    go_wp2_with (go_at_call 17; refine hG.out.mono ?_; rintro e w2 ⟨rfl, rfl⟩; clear hG)
                    go_ret3
                    exact ⟨.inr ⟨hRn.out, 2, .inr rfl, rfl⟩, hbel'.out⟩
                | some q =>
                  obtain ⟨m, k⟩ := q
                  have hG : Hid (Calls Try.prog 17 #[.slice (some ⟨b, off, none⟩) bs.length cap, .int .i64 ((p : Int) + 1)] wr fun e w' => e = .returned (.tuple #[.int .i64 (m : Int), .int .i64 ((p : Int) + 1 + (k : Int)), .bool true]) ∧ wr = w') := by rw [ansU_at (by omega) hg, show (((p + 1 : Nat)) : Int) = (p : Int) + 1 by omega] at hG0; exact hG0
                  clear hG0 hg hj' hdr hne hs1
                  rcases ha with t1 | ⟨t1, t2⟩ | ⟨t1, t2, t3⟩ | ⟨t1, t2, t3, t5⟩ | ⟨t1, t2, t3, t5, t6⟩ | ⟨t1, t2, t3, t5, t6, t7⟩ | ⟨t1, t2, t3, t5, t6, t7, t10⟩ | ⟨t1, t2, t3, t5, t6, t7, t10, t11⟩
                  all_goals
                    go_wp2_with (go_at_call 17; refine hG.out.mono ?_; rintro e w2 ⟨rfl, rfl⟩; clear hG)
                    go_ret3
                    exact ⟨.inr ⟨hRn.out, 2, .inr rfl, rfl⟩, hbel'.out⟩
            · have hRn : Hid (R = none) := by rw [← hj'.out, secs_no hne (by rw [hdr]; exact rdSec_no1 (fun e => by rw [hs1] at e; exact absurd e.1 (by decide)))]; rfl
              cases hg : gU (bs.drop (p + 1)) with
              | none =>
                have hG : Hid (Calls Try.prog 17 #[.slice (some ⟨b, off, none⟩) bs.length cap, .int .i64 ((p : Int) + 1)] wr fun e w' => e = .returned (.tuple #[.int .i64 0, .int .i64 0, .bool false]) ∧ wr = w') := by rw [ansU_at_no hg, show (((p + 1 : Nat)) : Int) = (p : Int) + 1 by omega] at hG0; exact hG0
                clear hG0 hg hj' hdr hne hs1
                obtain ⟨t1, t2, t3, t5, t6, t7, t10, t11⟩ := ha
                go_wp2_with (go_at_call 17; refine hG.out.mono ?_; rintro e w2 ⟨rfl, rfl⟩; clear hG)
                go_ret3
                exact ⟨.inr ⟨hRn.out, 2, .inr rfl, rfl⟩, hbel'.out⟩
              | some q =>
                obtain ⟨m, k⟩ := q
                have hG : Hid (Calls Try.prog 17 #[.slice (some ⟨b, off, none⟩) bs.length cap, .int .i64 ((p : Int) + 1)] wr fun e w' => e = .returned (.tuple #[.int .i64 (m : Int), .int .i64 ((p : Int) + 1 + (k : Int)), .bool true]) ∧ wr = w') := by rw [ansU_at (by omega) hg, show (((p + 1 : Nat)) : Int) = (p : Int) + 1 by omega] at hG0; exact hG0
                clear hG0 hg hj' hdr hne hs1
                obtain ⟨t1, t2, t3, t5, t6, t7, t10, t11⟩ := ha
                go_wp2_with (go_at_call 17; refine hG.out.mono ?_; rintro e w2 ⟨rfl, rfl⟩; clear hG)
                go_ret3
                exact ⟨.inr ⟨hRn.out, 2, .inr rfl, rfl⟩, hbel'.out⟩
          · have hp' : ¬ (p : Int) < (bs.length : Int) := by omega
            have hRl : Hid (R = some ids) := by rw [← hj'.out, List.drop_of_length_le (by omega), secs_nil]; show some (ids ++ []) = _; rw [List.append_nil]
            clear hj' hsr
            go_wp2_with fail
            go_ret3
            refine ⟨.inl ?_, hbel'.out⟩
            first
              | exact ⟨ids, _, _, hRl.out, rfl, hown'.out⟩
              | exact ⟨ids, hRl.out, _, _, rfl, hown'.out⟩
              | exact ⟨ids, hRl.out, _, ⟨_, rfl⟩, hown'.out⟩
              | (refine ⟨ids, hRl.out, ?_⟩; simpa using hown'.out)
    · have hA : Hid (ansSec bs = none) := if_neg hpre
      have hne := str_ne (a := txt (bs.take 8)) (b := txt hd) (fun e => hpre (txt_inj e))
      clear hpre
      have hH : Hid (∀ u, Calls Try.prog 16 #[] u fun e w' => e = .returned (.slice (some ⟨u.heap.size, 0, none⟩) 8 8) ∧ Below u.heap.size u w' ∧ (convert 22 9 (.slice (some ⟨u.heap.size, 0, none⟩) 8 8)).run Try.prog w' = .ok (.string (txt hd)) w') := fun u => spec_head u
      generalize txt (bs.take 8) = S at *
      generalize txt hd = T at *
      have hcw := hcv.out _ hb2.out.drew
      go_enter Try.func12, Try.ntmps12
      go_wp2_with fail
      go_region_held (fun w' => (convert 22 9 (.slice (some ⟨b, off, none⟩) 8 cap)).run Try.prog w' = .ok (.string S) w') (first | assumption | go_keep)
        (first | (go_at_call 16; refine (hH.out _).mono ?_; rintro e w1 ⟨rfl, b1, q1⟩; rw [show (((w.alloc (.cells #[] 3)).alloc (.cells #[] 47)).drew).heap.size = w.heap.size + 1 + 1 by simp] at q1; have b1' : Hid (Below w.heap.size w w1) := hb2.out.drew.trans (b1.mono (by simp; omega)); have hcw2 := hcv.out w1 b1'.out))
      all_goals go_wp2_with fail
      all_goals (go_ret3; exact ⟨.inr ⟨hA.out, 1, .inl rfl, rfl⟩, b1'.out⟩)
end Go.Proofs.Ythjgmjhgpjgdlab.SecSpec
