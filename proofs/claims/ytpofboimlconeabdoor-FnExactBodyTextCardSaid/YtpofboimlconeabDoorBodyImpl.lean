/-
  What the program's BodyText answers when it is called, and the walk of its exact law.
-/
import Derived.Test.YtpofboimlconeabDoorBodyCalls
namespace Go.Proofs.YtpofboimlconeabDoor.BodyImpl
open Go.RowKit PlainOps NameCalls PlainNum NumCalls InsCalls InsImpl PlainShape InsMem PlainBody BodyCalls

abbrev Pow (w : World) : Prop := Lib.TabIs Tryd.prog w "internal/strconv.uint64pow10" .u64 Lib.pow10Tab
theorem pow_later {w w' : World} (h : Pow w) (hb : Below w.heap.size w w') : Pow w' := Lib.tabBelow_of_tabIs h w' hb
set_option maxHeartbeats 8000000 in
theorem every_ins (w : World) (a : Option Addr) (cap : Nat) (l : List I3) (h : RdI w a l) (hn : l.length ≤ 1048576) (ht : Tab w) :
    Calls Tryd.prog 60 #[.slice a l.length cap, .func (.func 61) #[] #[]] w fun e w' => e = .returned (.bool (allF l l.length 0)) ∧ Below w.heap.size w w' := by
  obtain ⟨R, hR⟩ : ∃ R, allF l l.length 0 = R := ⟨_, rfl⟩
  have hF : Hid (allF l l.length 0 = R) := hR
  rw [hR]
  have h' : Hid (RdI w a l) := h
  have ht' : Hid (Tab w) := ht
  clear hR h ht
  go_enter Tryd.func60, Tryd.ntmps60
  go_wp2_with fail
  go_loopw [9] (fun vk wr => ∃ (k f : Nat), k + f = l.length ∧ vk = .int .i64 k ∧ allF l f k = R ∧ Below w.heap.size w wr) (fun vk _ => l.length - (intOf vk).toNat)
  case atStart => exact ⟨0, l.length, by omega, rfl, hF.out, Below.refl _ _⟩
  case round =>
    obtain ⟨k, f, hk, rfl, hall, hbel⟩ := hrel
    have hall' : Hid (allF l f k = R) := hall
    have hbel' : Hid (Below w.heap.size w wr) := hbel
    have hsz := hbel.size
    clear hall hF
    by_cases hlt : k < l.length
    · have hlt' : (k : Int) < (l.length : Int) := by omega
      obtain ⟨f, rfl⟩ : ∃ j, f = j + 1 := ⟨f - 1, by omega⟩
      rcases h'.out.later hbel with h0 | ⟨b, off, ha, hc⟩
      · omega
      · obtain ⟨c0, c1, c2⟩ := hc k hlt
        subst ha
        clear hc hbel
        have hok : Hid (∀ u, Tab u → Calls Tryd.prog 61 #[.agg #[.int .i64 (oAt l k), .int .i64 (aAt l k), .int .i64 (bAt l k)]] u fun e w' => e = .returned (.bool (okAt l k)) ∧ Below u.heap.size u w') := fun u hu => impl_insOk (oAt l k) (aAt l k) (bAt l k) u hu
        have hno : Hid (okAt l k = false → allF l (f + 1) k = false) := fun h => allF_no h
        have hyes : Hid (okAt l k = true → allF l (f + 1) k = allF l f (k + 1)) := fun h => allF_yes h
        generalize okAt l k = O at *
        generalize oAt l k = o at *
        generalize aAt l k = x1 at *
        generalize bAt l k = x2 at *
        cases O with
        | false =>
          have e1 : Hid (allF l (f + 1) k = false) := hno.out rfl
          clear hno hyes
          go_wp2_with (go_at_call 61; refine (hok.out _ (ht'.out.later (hbel'.out.alloc hsz _))).mono ?_; rintro e w1 ⟨rfl, hb⟩)
          go_ret
          exact ⟨by rw [← hall'.out, e1.out]; rfl, hbel'.out.trans (hb2 hsz hb)⟩
        | true =>
          have e1 : Hid (allF l (f + 1) k = allF l f (k + 1)) := hyes.out rfl
          clear hno hyes
          go_wp2_with (go_at_call 61; refine (hok.out _ (ht'.out.later (hbel'.out.alloc hsz _))).mono ?_; rintro e w1 ⟨rfl, hb⟩)
          go_roundw
          case rel => exact ⟨k + 1, f, by omega, by go_num, by rw [← e1.out]; exact hall'.out, hbel'.out.trans (hb2 hsz hb)⟩
          case measure => simp [intOf]; omega
    · obtain rfl : k = l.length := by omega
      obtain rfl : f = 0 := by omega
      clear hbel
      go_wp2_with fail
      go_ret
      exact ⟨by rw [← hall'.out]; rfl, hbel'.out⟩
theorem run_count (c0 c1 c2 c3 : Value) (w : World) : (Instr.field 150 (.agg #[c0, c1, c2, c3]) 0).run Tryd.prog w = .ok c0 w := by
  simp [Instr.field, run_underlying Tryd.underlying150, part, isAgg, asAgg, run_underlying Tryd.underlying3]
theorem two_cells {w w' : World} {x y : Value} {t : TypeId} (h : Below (w.alloc (.cells #[x, y] t)).heap.size (w.alloc (.cells #[x, y] t)) w') : w'.cell? ⟨w.heap.size, 0, none⟩ = some x ∧ w'.cell? ⟨w.heap.size, 1, none⟩ = some y := by
  have hs : w.heap.size < (w.alloc (.cells #[x, y] t)).heap.size := by simp
  refine ⟨?_, ?_⟩ <;> rw [h.cell hs] <;> simp
theorem insL0 {o a b : Int} (h : kd o = 0) : opNm o = tx (insL o a b) := by
  have h3 : ¬ kd o = 3 := by omega
  rw [insL, if_pos h, if_neg h3, opNm_tx, List.append_nil, List.append_nil]
theorem insL1 {o a b : Int} (h : ¬ kd o = 0) (h3 : ¬ kd o = 3) : opNm o ++ (⟨#[32]⟩ ++ tx (numL a)) = tx (insL o a b) := by
  rw [insL, if_neg h, if_neg h3, opNm_tx, List.append_nil, show (⟨#[32]⟩ : ByteArray) = tx [32] from rfl, tx_append, tx_append]
  rfl
theorem insL3 {o a b : Int} (h3 : kd o = 3) : opNm o ++ (⟨#[32]⟩ ++ tx (numL a)) ++ (⟨#[32]⟩ ++ tx (numL b)) = tx (insL o a b) := by
  have h : ¬ kd o = 0 := by omega
  rw [insL, if_neg h, if_pos h3, opNm_tx, show (⟨#[32]⟩ : ByteArray) = tx [32] from rfl, tx_append, tx_append, tx_append, tx_append]
  rfl
set_option maxHeartbeats 8000000 in
theorem impl_insText (o x1 x2 : Int) (w : World) (ht : Tab w) (hp : Pow w) :
    Calls Tryd.prog 62 #[.agg #[.int .i64 o, .int .i64 x1, .int .i64 x2]] w fun e w' => e = .returned (.string (tx (insL o x1 x2))) ∧ Below w.heap.size w w' := by
  have ht' : Hid (Tab w) := ht
  have hnm : Hid _ := fun u => impl_opName o u
  have hfl : Hid _ := fun u => impl_fieldsOf o u
  have hA : Hid (∀ u, Below w.heap.size w u → Calls Tryd.prog 102 #[.int .i64 x1] u fun e w' => e = .returned (.string (tx (numL x1))) ∧ Below u.heap.size u w') := fun u hu => NumTextLaw.impl_numText x1 u (pow_later hp hu)
  have hB : Hid (∀ u, Below w.heap.size w u → Calls Tryd.prog 102 #[.int .i64 x2] u fun e w' => e = .returned (.string (tx (numL x2))) ∧ Below u.heap.size u w') := fun u hu => NumTextLaw.impl_numText x2 u (pow_later hp hu)
  have sT := opNm_small o
  have sA : (tx (numL x1)).size ≤ 21 := by rw [tx_size]; exact numL_len _
  have sB : (tx (numL x2)).size ≤ 21 := by rw [tx_size]; exact numL_len _
  have p0 : Hid (kd o = 0 → opNm o = tx (insL o x1 x2)) := fun h => insL0 h
  have p1 : Hid (¬ kd o = 0 → ¬ kd o = 3 → opNm o ++ (⟨#[32]⟩ ++ tx (numL x1)) = tx (insL o x1 x2)) := fun h h3 => insL1 h h3
  have p3 : Hid (kd o = 3 → opNm o ++ (⟨#[32]⟩ ++ tx (numL x1)) ++ (⟨#[32]⟩ ++ tx (numL x2)) = tx (insL o x1 x2)) := fun h3 => insL3 h3
  have hkk := kd_is o
  clear ht hp
  generalize tx (insL o x1 x2) = R at *
  generalize tx (numL x1) = DA at *
  generalize tx (numL x2) = DB at *
  generalize opNm o = T at *
  generalize kd o = K at *
  by_cases hK0 : K = 0
  · subst hK0
    have e1 : Hid (T = R) := p0.out rfl
    rw [show fC 0 = 0 from rfl] at hfl
    clear p0 p1 p3 hkk
    have hrc := run_count
    go_enter Tryd.func62, Tryd.ntmps62
    go_wp2_with (first | (go_at_call 99; refine (hnm.out _ (ht'.out.later ((Below.refl _ _).alloc (Nat.le_refl _) _))).mono ?_; rintro e w1 ⟨rfl, rfl⟩) | (go_at_call 100; refine (hfl.out _).mono ?_; rintro e w2 ⟨rfl, q2⟩))
    refine wp_loop_rounds 1 ?_
    rw [rounds_succ]
    go_wp2_with fail
    go_ret
    exact ⟨by rw [← e1.out]; rfl, ((Below.refl _ _).alloc (Nat.le_refl _) _).trans (hb2 (by simp) q2)⟩
  · by_cases hK3 : K = 3
    · subst hK3
      have e1 : Hid (T ++ (⟨#[32]⟩ ++ DA) ++ (⟨#[32]⟩ ++ DB) = R) := p3.out rfl
      rw [show fC 3 = 2 from rfl] at hfl
      clear p0 p1 p3 hkk hK0
      have hrc := run_count
      go_enter Tryd.func62, Tryd.ntmps62
      go_wp2_with (first | (go_at_call 99; refine (hnm.out _ (ht'.out.later ((Below.refl _ _).alloc (Nat.le_refl _) _))).mono ?_; rintro e w1 ⟨rfl, rfl⟩) | (go_at_call 100; refine (hfl.out _).mono ?_; rintro e w2 ⟨rfl, q2⟩))
      obtain ⟨d0, d1⟩ := two_cells q2
      have hb : Below w.heap.size w w2 := ((Below.refl _ _).alloc (Nat.le_refl _) _).trans (hb2 (by simp) q2)
      simp only [World.size_alloc] at d0 d1
      refine wp_loop_rounds 3 ?_
      rw [rounds_succ]
      go_wp2_with (go_at_call 102; refine (hA.out _ hb).mono ?_; rintro e w3 ⟨rfl, q3⟩; have d3 : w3.cell? ⟨w.heap.size + 1, 1, none⟩ = some (.int .i64 x2) := (q3.cell (World.block_lt_of_cell? w2 _ d1)).trans d1; have hb3 := hb.trans (q3.mono hb.size))
      rw [rounds_succ]
      go_wp2_with (go_at_call 102; refine (hB.out _ hb3).mono ?_; rintro e w4 ⟨rfl, q4⟩; have hb4 := hb3.trans (q4.mono hb3.size))
      rw [rounds_succ]
      go_wp2_with fail
      go_ret
      exact ⟨by rw [← e1.out]; rfl, hb4⟩
    · have e1 : Hid (T ++ (⟨#[32]⟩ ++ DA) = R) := p1.out hK0 hK3
      rw [show fC K = 1 by unfold fC; rw [if_neg hK0, if_neg hK3]] at hfl
      clear p0 p1 p3 hkk hK0 hK3
      have hrc := run_count
      go_enter Tryd.func62, Tryd.ntmps62
      go_wp2_with (first | (go_at_call 99; refine (hnm.out _ (ht'.out.later ((Below.refl _ _).alloc (Nat.le_refl _) _))).mono ?_; rintro e w1 ⟨rfl, rfl⟩) | (go_at_call 100; refine (hfl.out _).mono ?_; rintro e w2 ⟨rfl, q2⟩))
      obtain ⟨d0, d1⟩ := two_cells q2
      have hb : Below w.heap.size w w2 := ((Below.refl _ _).alloc (Nat.le_refl _) _).trans (hb2 (by simp) q2)
      simp only [World.size_alloc] at d0 d1
      refine wp_loop_rounds 2 ?_
      rw [rounds_succ]
      go_wp2_with (go_at_call 102; refine (hA.out _ hb).mono ?_; rintro e w3 ⟨rfl, q3⟩; have hb3 := hb.trans (q3.mono hb.size))
      rw [rounds_succ]
      go_wp2_with fail
      go_ret
      exact ⟨by rw [← e1.out]; rfl, hb3⟩
theorem keep_row {wr w' : World} {o : Obj} {g n k : Nat} {F : Nat → Value} (h : wr.rowIs g 9 n F) (q : Below (wr.alloc o).heap.size (wr.alloc o) w') (hk : k < n) :
    Hid (w'.rowIs g 9 n F) ∧ w'.cell? ⟨g, k, none⟩ = some (F k) ∧ w'.frozen? ⟨g, k, none⟩ = false := by
  have h2 : w'.rowIs g 9 n F := row_later (h.alloc o) q
  exact ⟨h2, h2.cell hk, h2.frozen k⟩
theorem info9 : (Tryd.prog.info? 9).map (fun i => (i.zero, i.size, i.bytes)) = some (some (.string ⟨#[]⟩), 1, 16) := by kernel_rfl
theorem tx_list (l : List UInt8) : (tx l).data.toList = l := by simp [tx]
theorem join_call (w : World) (g : Nat) (l : List I3) (hn : l.length ≤ 1048576) (hrow : w.rowIs g 9 l.length (fun j => .string (tx (insAt l j)))) :
    Calls Tryd.prog 63 #[.slice (some ⟨g, 0, none⟩) l.length l.length, .string ⟨#[59]⟩] w fun e w' => e = .returned (.string (tx (bodyT l l.length))) ∧ Below w.heap.size w w' := by
  have hx : ((List.range l.length).map fun j => tx (insAt l j)).map (·.data.toList) = (List.range l.length).map fun j => insAt l j := by
    rw [List.map_map]
    exact List.map_congr_left fun j _ => tx_list _
  have hs : (⟨#[59]⟩ : ByteArray).data.toList = [59] := rfl
  have hl := bodyT_len l l.length
  have h := Tryd.strings_Join g 0 l.length ((List.range l.length).map fun j => tx (insAt l j)) ⟨#[59]⟩ w (fun j x hj => by
    have hjl : j < l.length := by
      have := (List.getElem?_eq_some_iff.1 hj).1
      simpa using this
    rw [Nat.zero_add, hrow.cell hjl]
    simp [hjl] at hj
    rw [hj]) hrow.lt (by simp; omega) (by simp) (by rw [hx, hs, join_body]; omega)
  rw [hx, hs, join_body] at h
  simp only [List.length_map, List.length_range] at h
  exact h
set_option maxHeartbeats 8000000 in
theorem impl_bodyText (w : World) (a : Option Addr) (cap : Nat) (l : List I3) (h : RdI w a l) (hn : l.length ≤ 1048576) (ht : Tab w) (hp : Pow w) :
    Calls Tryd.prog 14 #[.slice a l.length cap] w fun e w' => e = .returned (.string (bodyText l)) ∧ Below w.heap.size w w' := by
  have hE : Hid (Calls Tryd.prog 60 #[.slice a l.length cap, .func (.func 61) #[] #[]] w fun e w' => e = .returned (.bool (allF l l.length 0)) ∧ Below w.heap.size w w') := every_ins w a cap l h hn ht
  have h' : Hid (RdI w a l) := h
  have ht' : Hid (Tab w) := ht
  have hp' : Hid (Pow w) := hp
  clear h ht hp
  cases hall : allF l l.length 0 with
  | false =>
    have e2 : Hid (bodyText l = ⟨#[]⟩) := if_neg (by rw [hall]; decide)
    rw [hall] at hE
    clear hall
    go_enter Tryd.func14, Tryd.ntmps14
    go_wp2_with (go_at_call 60; refine hE.out.mono ?_; rintro e w1 ⟨rfl, b1⟩)
    go_ret
    exact ⟨by rw [e2.out]; rfl, b1⟩
  | true =>
    have e2 : Hid (bodyText l = tx (bodyT l l.length)) := if_pos hall
    rw [hall] at hE
    clear hall
    have hmk := run_make_row' (P := Tryd.prog) 107 9 (.string ⟨#[]⟩) 16 Tryd.underlying107 info9 rfl .i64 .i64 l.length (by omega) (by omega)
    go_enter Tryd.func14, Tryd.ntmps14
    go_wp2_with (go_at_call 60; refine hE.out.mono ?_; rintro e w1 ⟨rfl, b1⟩)
    clear hmk
    have b1' : Hid (Below w.heap.size w w1) := b1
    have sz1 := b1.size
    clear b1
    go_loopw [14] (fun vk wr => ∃ k : Nat, k ≤ l.length ∧ vk = .int .i64 k ∧ wr.rowIs w1.heap.size 9 l.length (fun j => if j < k then .string (tx (insAt l j)) else .string ⟨#[]⟩) ∧ Below w.heap.size w wr) (fun vk _ => l.length - (intOf vk).toNat)
    case atStart => exact ⟨0, Nat.zero_le _, rfl, (World.rowIs_made w1 (.string ⟨#[]⟩) l.length 9).congr (fun i hi => by simp), b1'.out.alloc sz1 _⟩
    case round =>
      obtain ⟨k, hk, rfl, hrow, hbel⟩ := hrel
      have hrow' : Hid (wr.rowIs w1.heap.size 9 l.length (fun j => if j < k then .string (tx (insAt l j)) else .string ⟨#[]⟩)) := hrow
      have hbel' : Hid (Below w.heap.size w wr) := hbel
      have hsz := hbel.size
      by_cases hlt : k < l.length
      · have hlt' : (k : Int) < (l.length : Int) := by omega
        rcases h'.out.later hbel with h0 | ⟨b, off, ha, hc⟩
        · omega
        · obtain ⟨c0, c1, c2⟩ := hc k hlt
          subst ha
          have hrl := hrow.lt
          clear hc hbel hrow
          have hI : Hid (∀ u, Below w.heap.size w u → Calls Tryd.prog 62 #[.agg #[.int .i64 (oAt l k), .int .i64 (aAt l k), .int .i64 (bAt l k)]] u fun e w' => e = .returned (.string (tx (insAt l k))) ∧ Below u.heap.size u w') := fun u hu => impl_insText (oAt l k) (aAt l k) (bAt l k) u (ht'.out.later hu) (pow_later hp'.out hu)
          obtain ⟨D, hD⟩ : ∃ D, tx (insAt l k) = D := ⟨_, rfl⟩
          have hD' : Hid (tx (insAt l k) = D) := hD
          rw [hD] at hI
          clear hD
          generalize oAt l k = o at *
          generalize aAt l k = x1 at *
          generalize bAt l k = x2 at *
          go_wp2_with (go_at_call 62; refine (hI.out _ (hbel'.out.alloc hsz _)).mono ?_; rintro e w2 ⟨rfl, q2⟩; obtain ⟨hr2, y0, f0⟩ := keep_row hrow'.out q2 hlt)
          go_roundw
          case rel =>
            refine ⟨k + 1, by omega, by go_num, (hr2.out.set k (.string D)).congr fun j hj => ?_, (hbel'.out.trans (hb2 hsz q2)).setCell sz1 _⟩
            by_cases z : j = k
            · rw [if_pos z, if_pos (by omega), z, hD'.out]
            · rw [if_neg z]
              by_cases z3 : j < k
              · rw [if_pos z3, if_pos (by omega)]
              · rw [if_neg z3, if_neg (by omega)]
          case measure => simp [intOf]; omega
      · obtain rfl : k = l.length := by omega
        have hr3 : Hid (wr.rowIs w1.heap.size 9 l.length (fun j => .string (tx (insAt l j)))) := hrow.congr (fun j hj => by simp [hj])
        have hJ : Hid (Calls Tryd.prog 63 #[.slice (some ⟨w1.heap.size, 0, none⟩) l.length l.length, .string ⟨#[59]⟩] wr fun e w' => e = .returned (.string (tx (bodyT l l.length))) ∧ Below wr.heap.size wr w') := join_call wr w1.heap.size l hn hr3.out
        obtain ⟨D, hD⟩ : ∃ D, tx (bodyT l l.length) = D := ⟨_, rfl⟩
        rw [hD] at hJ e2
        clear hbel hrow hrow' hD
        go_wp2_with (go_at_call 63; refine hJ.out.mono ?_; rintro e w2 ⟨rfl, q2⟩)
        go_ret
        exact ⟨by rw [e2.out]; rfl, hbel'.out.trans (q2.mono hsz)⟩
set_option maxHeartbeats 4000000 in
theorem fnExactBodyText (a : Option Addr) (cap : Nat) (l : List I3) (w : World) (h : RdI w a l) (hl : l.length ≤ 9223372036854775807) (ht : Tab w) (hp : Pow w) :
    Calls Tryd.prog 4 #[.slice a l.length cap] w fun e w' => e = .returned (.bool true) ∧ Below w.heap.size w w' := by
  have hs : Hid _ := fun u => szInsS a l.length cap u hl
  have ht' : Hid (Tab w) := ht
  have hp' : Hid (Pow w) := hp
  clear ht hp
  by_cases hbig : l.length ≤ 1048576
  · have hlt : ¬ (1048576 - (l.length : Int)) < 0 := by omega
    rw [if_pos hbig] at hs
    have hc : Hid _ := fun u hb => copyI w u a cap l h hbig hb
    have h1 : Hid _ := fun u g => spec_bodyText u (some ⟨g, 0, none⟩) l.length l
    have h2 : Hid _ := fun u g => impl_bodyText u (some ⟨g, 0, none⟩) l.length l
    have h3 : Hid _ := fun u g g' => eqInsS u (some ⟨g, 0, none⟩) (some ⟨g', 0, none⟩) l.length l.length l
    generalize bodyText l = R at h1 h2
    go_enter Tryd.func4, Tryd.ntmps4
    go_wp2_with (go_at_call 11; refine (hs.out _).mono ?_; rintro e w0 ⟨rfl, rfl⟩)
    go_wp2_with (go_at_call 13; refine (hc.out _ (Below.refl _ _)).mono ?_; rintro e w1 ⟨g1, rfl, r1, _, b1⟩)
    go_wp2_with (go_at_call 12; refine (h1.out _ _ r1 hbig).mono ?_; rintro e w2 ⟨rfl, b2⟩; replace b2 := b1.trans (b2.mono b1.size))
    go_wp2_with (go_at_call 13; refine (hc.out _ b2).mono ?_; rintro e w3 ⟨g2, rfl, r3, _, b3⟩)
    go_wp2_with (go_at_call 14; refine (h2.out _ _ r3 hbig (ht'.out.later b3) (pow_later hp'.out b3)).mono ?_; rintro e w4 ⟨rfl, c4⟩; have r4 := r3.later c4; have b4 := b3.trans (c4.mono b3.size))
    go_wp2_with (go_at_call 13; refine (hc.out _ b4).mono ?_; rintro e w5 ⟨g3, rfl, r5, c5, b5⟩)
    go_wp2_with (go_at_call 15; refine (h3.out _ _ _ (r4.later c5) r5 (by omega)).mono ?_; rintro e w6 ⟨rfl, b6⟩)
    go_ret
    exact ⟨rfl, b5.trans (b6.mono b5.size)⟩
  · rw [if_neg hbig] at hs
    go_enter Tryd.func4, Tryd.ntmps4
    go_wp2_with (go_at_call 11; refine (hs.out _).mono ?_; rintro e w0 ⟨rfl, rfl⟩)
    go_ret
    exact ⟨rfl, Below.refl _ _⟩
end Go.Proofs.YtpofboimlconeabDoor.BodyImpl
