/-
  What the program's parts of Lex answer when they are called: a number's value, a gap, the first token.
-/
import Derived.Test.YtjndgjheehjohaaDoorSignCalls
import Derived.Test.YtjndgjheehjohaaDoorTokCalls
import Derived.Test.YtjndgjheehjohaaDoorPlainScan
import Derived.Lib.Index
namespace Go.Proofs.YtjndgjheehjohaaDoor.LexImpl
open Go.RowKit InsMem PlainOps PlainLex PlainScan NameCalls CharCalls WordCalls SignCalls TokCalls

theorem ext_tx (s : ByteArray) (a b : Nat) : (s.extract a b).data.toList = (s.data.toList.drop a).take (b - a) := by
  rw [ByteArray.data_extract, Array.toList_extract]
theorem drop_list {s : ByteArray} {l : List UInt8} (h : s.data.toList = l) (a : Nat) : (s.extract a s.size).data.toList = l.drop a := by
  rw [ext_tx, h, List.take_of_length_le (by rw [List.length_drop, size_list h]; omega)]
theorem take_list {s : ByteArray} {l : List UInt8} (h : s.data.toList = l) (b : Nat) : (s.extract 0 b).data.toList = l.take b := by
  rw [ext_tx, h]
  simp
/-- What the library says of the place of a remark's end. -/
theorem index_close : ∀ l : List UInt8, Lib.index l [42, 47] = (match closeAt l with | none => -1 | some k => (k : Int))
  | [] => rfl
  | c :: l => by
    have ih := index_close l
    unfold Lib.index closeAt
    by_cases h : ([42, 47] : List UInt8).isPrefixOf (c :: l) = true
    · rw [if_pos h, if_pos h]; rfl
    · rw [if_neg h, if_neg h, ih]
      cases closeAt l with
      | none => rfl
      | some k =>
        have : (((k : Int)) == -1) = false := beq_false_of_ne (by omega)
        simp only [this]
        show (k : Int) + 1 = ((k + 1 : Nat) : Int)
        omega
def cut31 (n : Nat) : Nat := min n 2147483648
theorem cut31_step (n d : Nat) : min ((cut31 n : Int) * 10 + (d : Int)) 2147483648 = (cut31 (n * 10 + d) : Int) := by
  unfold cut31
  omega
theorem take_snoc {l : List UInt8} {k : Nat} {x : UInt8} (h : l[k]? = some x) : l.take (k + 1) = l.take k ++ [x] := by
  rw [List.take_add_one, h]; rfl
set_option maxHeartbeats 2000000 in
theorem impl_valueOf (s : ByteArray) (l : List UInt8) (hl : s.data.toList = l) (hd : ∀ x ∈ l, digit x = true) (w : World) (hm : s.size ≤ 1048576) :
    Calls Tryd.prog 77 #[.string s] w fun e w' => e = .returned (.int .i64 (cut31 (dval l) : Nat)) ∧ w = w' := by
  obtain ⟨R, hR⟩ : ∃ R, cut31 (dval l) = R := ⟨_, rfl⟩
  have hR' : Hid (cut31 (dval l) = R) := hR
  rw [hR]
  clear hR
  have hsz : Hid (s.size = l.length) := size_list hl
  have hl' : Hid (s.data.toList = l) := hl
  have hd' : Hid (∀ x ∈ l, digit x = true) := hd
  clear hl hd
  go_enter Tryd.func77, Tryd.ntmps77
  go_wp2_with fail
  go_loop [3, 7] (fun vn i => ∃ k N : Nat, k ≤ s.size ∧ i = .int .i64 k ∧ vn = .int .i64 N ∧ N ≤ 2147483648 ∧ N = cut31 (dval (l.take k))) (fun _ i => s.size - (intOf i).toNat)
  case atStart => exact ⟨0, 0, by omega, rfl, rfl, by omega, rfl⟩
  case round =>
    obtain ⟨k, N, hk, rfl, rfl, hN1, hN⟩ := hrel
    have hN' : Hid (N = cut31 (dval (l.take k))) := hN
    clear hN
    by_cases hlt : k < s.size
    · have hlt' : (k : Int) < (s.size : Int) := by omega
      obtain ⟨x, hx, hxi⟩ := WordCalls.byte_at hl'.out k hlt
      have hx' : Hid (l[k]? = some x) := hx
      have hdx := btw_true.1 (hd'.out x (List.mem_of_getElem? hx))
      obtain ⟨d1, d2⟩ := hdx
      have hstep : Hid (min ((N : Int) * 10 + ((x.toNat : Int) - 48)) 2147483648 = (cut31 (dval (l.take (k + 1))) : Int)) := by
        show _ = _
        rw [take_snoc hx'.out, dval_snoc, ← cut31_step, ← hN'.out]
        congr 1
        omega
      have hc1 : Hid (cut31 (dval (l.take (k + 1))) ≤ 2147483648) := by show _ ≤ _; unfold cut31; omega
      obtain ⟨N2, hN2⟩ : ∃ N2, cut31 (dval (l.take (k + 1))) = N2 := ⟨_, rfl⟩
      have hN3 : Hid (cut31 (dval (l.take (k + 1))) = N2) := hN2
      rw [hN2] at hstep hc1
      clear hx hN2
      go_wp2_with fail
      all_goals
        go_round
        case rel => exact ⟨k + 1, N2, by omega, by go_num, by first | (rw [← hstep.out]; go_num) | (have := hstep.out; go_num), hc1.out, hN3.out.symm⟩
        case measure => simp [intOf]; omega
    · obtain rfl : k = s.size := by omega
      have he : Hid (N = R) := by show _ = _; rw [hN'.out, List.take_of_length_le (by rw [hsz.out]; exact Nat.le_refl _), hR'.out]
      go_wp2_with fail
      go_ret
      exact ⟨by rw [he.out]; rfl, rfl⟩
/-- A token as a value. -/
abbrev V4 (t : T4) : Value := .agg #[.int .i64 t.1, .int .i64 t.2.1, .string (tx t.2.2.1), .int .i64 t.2.2.2]
theorem impl_numberTok (s : ByteArray) (l : List UInt8) (hl : s.data.toList = l) (hd : ∀ x ∈ l, digit x = true) (w : World) (hm : s.size ≤ 1048576) :
    Calls Tryd.prog 64 #[.string s] w fun e w' => e = .returned (if dval l ≤ 2147483647 then .tuple #[V4 (1, dval l, [], 0), .int .i64 l.length, .int .i64 0] else .tuple #[V4 (0, 0, [], 0), .int .i64 0, .int .i64 3]) ∧ Below w.heap.size w w' := by
  have kv : Hid (∀ u, Calls Tryd.prog 77 #[.string s] u fun e w' => e = .returned (.int .i64 (cut31 (dval l) : Nat)) ∧ u = w') := fun u => impl_valueOf s l hl hd u hm
  have hz := size_list hl
  have h31 : Hid (∀ n, cut31 n = min n 2147483648) := fun _ => rfl
  clear hl hd
  by_cases h : dval l ≤ 2147483647
  · rw [if_pos h]
    have e1 : cut31 (dval l) = dval l := by rw [h31.out]; omega
    rw [e1] at kv
    generalize dval l = N at *
    rw [← hz]
    clear e1 hz
    have h' : ¬ (2147483647 : Int) < (N : Int) := by omega
    go_enter Tryd.func64, Tryd.ntmps64
    go_wp2_with (go_at_call 77; refine (kv.out _).mono ?_; rintro e u0 ⟨rfl, rfl⟩)
    refine bodyPost_ret (v := .tuple #[V4 (1, N, [], 0), .int .i64 (s.size : Nat), .int .i64 0]) ?_ rfl ⟨rfl, ?_⟩
    · simp [results, go_sem, V4, tx]
    · repeat (first | exact (Below.refl _ _).alloc (Nat.le_refl _) _ | refine Below.setCell ?_ (Nat.le_refl _) _)
  · rw [if_neg h]
    have e1 : cut31 (dval l) = 2147483648 := by rw [h31.out]; omega
    rw [e1] at kv
    clear e1 hz
    go_enter Tryd.func64, Tryd.ntmps64
    go_wp2_with (go_at_call 77; refine (kv.out _).mono ?_; rintro e u0 ⟨rfl, rfl⟩)
    refine bodyPost_ret (v := .tuple #[V4 (0, 0, [], 0), .int .i64 0, .int .i64 3]) ?_ rfl ⟨rfl, ?_⟩
    · simp [results, go_sem, V4, tx]
    · repeat (first | exact (Below.refl _ _).alloc (Nat.le_refl _) _ | refine Below.setCell ?_ (Nat.le_refl _) _)
def R4 (v0 v1 v2 v3 : Value) (j : Nat) : Value := if j = 0 then v0 else if j = 1 then v1 else if j = 2 then v2 else v3
theorem r4_made (w : World) (v0 v1 v2 v3 : Value) (t : TypeId) : (w.alloc (.cells #[v0, v1, v2, v3] t)).rowIs w.heap.size t 4 (R4 v0 v1 v2 v3) :=
  World.rowIs_alloc w #[v0, v1, v2, v3] t _ (fun i hi => by
    match i, hi with
    | 0, _ => rfl
    | 1, _ => rfl
    | 2, _ => rfl
    | 3, _ => rfl)
theorem r4 {w : World} {b : Nat} {t : TypeId} {v0 v1 v2 v3 : Value} (h : w.rowIs b t 4 (R4 v0 v1 v2 v3)) :
    w.cell? ⟨b, 0, none⟩ = some v0 ∧ w.cell? ⟨b, 1, none⟩ = some v1 ∧ w.cell? ⟨b, 2, none⟩ = some v2 ∧ w.cell? ⟨b, 3, none⟩ = some v3 ∧ w.frozen? ⟨b, 0, none⟩ = false ∧ w.frozen? ⟨b, 1, none⟩ = false ∧ w.frozen? ⟨b, 2, none⟩ = false ∧ w.frozen? ⟨b, 3, none⟩ = false :=
  ⟨h.cell (by omega), h.cell (by omega), h.cell (by omega), h.cell (by omega), h.frozen _, h.frozen _, h.frozen _, h.frozen _⟩
/-- The empty token's box behind a call. -/
theorem zero4 {w w1 : World} {t : TypeId} (q : Below (w.alloc (.cells #[.int .i64 0, .int .i64 0, .string ⟨#[]⟩, .int .i64 0] t)).heap.size (w.alloc (.cells #[.int .i64 0, .int .i64 0, .string ⟨#[]⟩, .int .i64 0] t)) w1) :
    w1.rowIs w.heap.size t 4 (R4 (.int .i64 0) (.int .i64 0) (.string ⟨#[]⟩) (.int .i64 0)) ∧ w.heap.size < w1.heap.size ∧ Below w.heap.size w w1 := by
  have h1 := row_later (r4_made w (.int .i64 0) (.int .i64 0) (.string ⟨#[]⟩) (.int .i64 0) t) q
  exact ⟨h1, h1.lt, ((Below.refl _ _).alloc (Nat.le_refl _) _).trans (q.mono (by simp))⟩
set_option maxHeartbeats 2000000 in
theorem impl_wordTok (s : ByteArray) (l : List UInt8) (hl : s.data.toList = l) (w : World) (hm : s.size ≤ 1048576) (hw : WTab w) :
    Calls Tryd.prog 66 #[.string s] w fun e w' => e = .returned (.tuple #[V4 (if isWord l then 3 else 2, 0, l, 0), .int .i64 l.length, .int .i64 0]) ∧ Below w.heap.size w w' := by
  have kc : Hid (∀ u, Calls Tryd.prog 32 #[.string s] u fun e w' => e = .returned (.string s) ∧ Below u.heap.size u w') := fun u => clone s u (Nat.le_trans hm (by omega))
  have kw : Hid (∀ u, Below w.heap.size w u → Calls Tryd.prog 46 #[.string s] u fun e w' => e = .returned (.bool (isWord l)) ∧ u = w') := fun u hu => impl_isSignWord s l hl u (hw.later hu)
  have hs : Hid (tx l = s) := (of_list hl).symm
  have b0 : Hid (Below w.heap.size w (w.alloc (.cells #[.int .i64 0, .int .i64 0, .string ⟨#[]⟩, .int .i64 0] 27))) := (Below.refl _ _).alloc (Nat.le_refl _) _
  rw [← size_list hl]
  clear hl hw
  generalize isWord l = B at *
  cases B with
  | true =>
    go_enter Tryd.func66, Tryd.ntmps66
    go_wp2_with (first | (go_at_call 32; refine (kc.out _).mono ?_; rintro e w1 ⟨rfl, q1⟩; obtain ⟨r1, z1, b1'⟩ := zero4 q1; have b1 : Hid (Below w.heap.size w w1) := b1'; obtain ⟨y0, y1, y2, y3, f0, f1, f2, f3⟩ := r4 r1; clear q1 b1' r1) | (go_at_call 46; refine (kw.out _ (b1.out.alloc b1.out.size _)).mono ?_; rintro e u0 ⟨rfl, rfl⟩))
    refine bodyPost_ret (v := .tuple #[.agg #[.int .i64 3, .int .i64 0, .string s, .int .i64 0], .int .i64 (s.size : Nat), .int .i64 0]) ?_ rfl ⟨by simp [V4, hs.out], ?_⟩
    · simp [results, go_sem, y0, y1, y2, y3, z1]
    · repeat (first | exact b1.out | refine Below.setCell ?_ (by first | exact Nat.le_refl _ | omega) _ | refine Below.alloc ?_ (by simp; have := b1.out.size; omega) _)
  | false =>
    go_enter Tryd.func66, Tryd.ntmps66
    go_wp2_with (first | (go_at_call 32; refine (kc.out _).mono ?_; rintro e w1 ⟨rfl, q1⟩; obtain ⟨r1, z1, b1'⟩ := zero4 q1; have b1 : Hid (Below w.heap.size w w1) := b1'; obtain ⟨y0, y1, y2, y3, f0, f1, f2, f3⟩ := r4 r1; clear q1 b1' r1) | (go_at_call 46; refine (kw.out _ (b1.out.alloc b1.out.size _)).mono ?_; rintro e u0 ⟨rfl, rfl⟩))
    refine bodyPost_ret (v := .tuple #[.agg #[.int .i64 2, .int .i64 0, .string s, .int .i64 0], .int .i64 (s.size : Nat), .int .i64 0]) ?_ rfl ⟨by simp [V4, hs.out], ?_⟩
    · simp [results, go_sem, y0, y1, y2, y3, z1]
    · repeat (first | exact b1.out | refine Below.setCell ?_ (by first | exact Nat.le_refl _ | omega) _ | refine Below.alloc ?_ (by simp; have := b1.out.size; omega) _)
/-- The cell of the library's own number, whatever it holds. -/
def MaxL (w : World) : Prop := ∃ m, w.cell? ⟨2, 0, none⟩ = some (.int .i64 m)
theorem MaxL.later {w w' : World} (h : MaxL w) (hb : Below w.heap.size w w') : MaxL w' := by
  obtain ⟨m, hm⟩ := h
  exact ⟨m, by rw [hb.cell (World.block_lt_of_cell? w _ hm)]; exact hm⟩
/-- What gapSize answers. -/
def gapV : Option Nat → Value
  | none => .tuple #[.int .i64 0, .bool true]
  | some g => .tuple #[.int .i64 (g : Nat), .bool false]
set_option maxHeartbeats 2000000 in
theorem impl_gapSize (s : ByteArray) (l : List UInt8) (hl : s.data.toList = l) (w : World) (hm : s.size ≤ 1048576) (hx : MaxL w) :
    Calls Tryd.prog 37 #[.string s] w fun e w' => e = .returned (gapV (gap l)) ∧ w = w' := by
  have kp : Hid (∀ u, Calls Tryd.prog 59 #[.string s, .string ⟨#[47, 42]⟩] u fun e w' => e = .returned (.bool (remark l)) ∧ u = w') := fun u => by
    have := hasPrefix s ⟨#[47, 42]⟩ u
    rw [hl] at this
    exact this
  cases hr : remark l with
  | false =>
    have hg : Hid (gap l = some (stretch isGap l)) := by show gap l = _; unfold gap; rw [hr]; rfl
    have ks : Hid (∀ u, Calls Tryd.prog 60 #[.string s, .func (.func 61) #[] #[]] u fun e w' => e = .returned (.int .i64 (stretch isGap l : Nat)) ∧ u = w') := fun u => impl_stretchGap s l hl u hm
    rw [hr] at kp
    rw [show gapV (gap l) = .tuple #[.int .i64 (stretch isGap l : Nat), .bool false] from by rw [hg.out]; rfl]
    clear hl hr hx hg
    generalize stretch isGap l = Z at *
    go_enter Tryd.func37, Tryd.ntmps37
    go_wp2_with (first | (go_at_call 59; refine (kp.out _).mono ?_; rintro e u0 ⟨rfl, rfl⟩) | (go_at_call 60; refine (ks.out _).mono ?_; rintro e u0 ⟨rfl, rfl⟩))
    go_ret2
    exact ⟨rfl, rfl⟩
  | true =>
    have hlen := remark_len hr
    have hsz := size_list hl
    have h2 : 2 ≤ s.size := by omega
    have h2' : (2 : Int) ≤ (s.size : Int) := by omega
    have ki : Hid (Calls Tryd.prog 62 #[.string (s.extract 2 s.size), .string ⟨#[42, 47]⟩] w fun e w' => e = .returned (.int .i64 (match closeAt (l.drop 2) with | none => -1 | some k => (k : Int))) ∧ w = w') := by
      obtain ⟨m, hm'⟩ := hx
      refine (Tryd.strings_Index (s.extract 2 s.size) ⟨#[42, 47]⟩ m w (by rw [ByteArray.size_extract]; omega) hm').mono fun e w' ⟨he, hw⟩ => ⟨?_, hw.symm⟩
      rw [he, drop_list hl, ← index_close]
    have hg : Hid (gap l = (closeAt (l.drop 2)).map (· + 4)) := by show gap l = _; unfold gap; rw [hr]; rfl
    rw [hr] at kp
    cases hc : closeAt (l.drop 2) with
    | none =>
      rw [hc] at ki
      rw [show gapV (gap l) = .tuple #[.int .i64 0, .bool true] from by rw [hg.out, hc]; rfl]
      clear hl hr hx hlen hsz hc hg
      go_enter Tryd.func37, Tryd.ntmps37
      go_wp2_with (first | (go_at_call 59; refine (kp.out _).mono ?_; rintro e u0 ⟨rfl, rfl⟩) | (go_at_call 62; refine ki.out.mono ?_; rintro e u0 ⟨rfl, rfl⟩))
      go_ret2
      exact ⟨rfl, rfl⟩
    | some k =>
      rw [hc] at ki
      have hk := closeAt_le hc
      rw [List.length_drop] at hk
      have hk' : k ≤ 1048576 := by omega
      rw [show gapV (gap l) = .tuple #[.int .i64 ((k + 4 : Nat) : Int), .bool false] from by rw [hg.out, hc]; rfl]
      clear hl hr hx hlen hsz hc hk hg
      go_enter Tryd.func37, Tryd.ntmps37
      go_wp2_with (first | (go_at_call 59; refine (kp.out _).mono ?_; rintro e u0 ⟨rfl, rfl⟩) | (go_at_call 62; refine ki.out.mono ?_; rintro e u0 ⟨rfl, rfl⟩))
      go_ret2
      refine ⟨?_, rfl⟩
      refine Eq.trans ?_ (congrArg (fun z : Int => Ending.returned (Value.tuple #[.int .i64 z, .bool false])) (show (2 : Int) + k + 2 = ((k + 4 : Nat) : Int) by omega))
      rfl
theorem takeWhile_all (p : UInt8 → Bool) (l : List UInt8) : ∀ x ∈ l.takeWhile p, p x = true := fun x hx => by
  induction l with
  | nil => simp at hx
  | cons y l ih =>
    by_cases h : p y = true
    · rw [List.takeWhile_cons, if_pos h] at hx
      rcases List.mem_cons.1 hx with rfl | hx
      · exact h
      · exact ih hx
    · rw [List.takeWhile_cons, if_neg h] at hx
      simp at hx
/-- What firstTok answers. -/
def firstV (o : One) : Value := .tuple #[V4 (o.tok 0), .int .i64 o.size, .int .i64 o.code]
set_option maxHeartbeats 4000000 in
theorem impl_firstTok (s : ByteArray) (l : List UInt8) (hl : s.data.toList = l) (hne : l ≠ []) (w : World) (hm : s.size ≤ 1048576) (hw : WTab w) (hst : STab w) :
    Calls Tryd.prog 38 #[.string s] w fun e w' => e = .returned (firstV (one l)) ∧ Below w.heap.size w w' := by
  cases hc : l with
  | nil => exact absurd hc hne
  | cons c r =>
    rw [hc] at hl
    clear hc hne
    have hsz := size_list hl
    have h0s : 0 < s.size := by rw [hsz]; simp
    obtain ⟨x, hx, hxi⟩ := WordCalls.byte_at hl 0 h0s
    have hxc : x = c := by simpa using hx.symm
    subst hxc
    have b0 : Hid (Below w.heap.size w (w.alloc (.cells #[.int .i64 0, .int .i64 0, .string ⟨#[]⟩, .int .i64 0] 27))) := (Below.refl _ _).alloc (Nat.le_refl _) _
    have kd : Hid (∀ u, Calls Tryd.prog 63 #[.int .u8 (x.toNat : Int)] u fun e w' => e = .returned (.bool (digit x)) ∧ u = w') := fun u => impl_isDigit x u
    have ks : Hid (∀ u, Calls Tryd.prog 65 #[.int .u8 (x.toNat : Int)] u fun e w' => e = .returned (.bool (small x)) ∧ u = w') := fun u => impl_isSmall x u
    cases hd : digit x with
    | true =>
      rw [hd] at kd
      have h1 : Hid (∀ u, Calls Tryd.prog 60 #[.string s, .func (.func 63) #[] #[]] u fun e w' => e = .returned (.int .i64 (stretch digit (x :: r) : Nat)) ∧ u = w') := fun u => impl_stretchDigit s _ hl u hm
      have hle := stretch_le digit (x :: r)
      rw [← hsz] at hle
      have hle' : (stretch digit (x :: r) : Int) ≤ (s.size : Int) := by omega
      have ht : (s.extract 0 (stretch digit (x :: r))).data.toList = (x :: r).takeWhile digit := by rw [take_list hl, takeWhile_eq]
      have hlen : ((x :: r).takeWhile digit).length = stretch digit (x :: r) := rfl
      have h2 : Hid (∀ u, Calls Tryd.prog 64 #[.string (s.extract 0 (stretch digit (x :: r)))] u fun e w' => e = .returned (if dval ((x :: r).takeWhile digit) ≤ 2147483647 then .tuple #[V4 (1, dval ((x :: r).takeWhile digit), [], 0), .int .i64 (stretch digit (x :: r) : Nat), .int .i64 0] else .tuple #[V4 (0, 0, [], 0), .int .i64 0, .int .i64 3]) ∧ Below u.heap.size u w') := fun u => by
        have := impl_numberTok (s.extract 0 (stretch digit (x :: r))) _ ht (takeWhile_all _ _) u (by rw [size_list ht, hlen]; omega)
        rw [hlen] at this
        exact this
      have ho : Hid (one (x :: r) = if dval ((x :: r).takeWhile digit) ≤ 2147483647 then .num (dval ((x :: r).takeWhile digit)) (stretch digit (x :: r)) else .bad 3) := by show _ = _; rw [one_cons, if_pos hd]
      rw [ho.out]
      clear hl hx ht hsz hlen hd ho hw hst
      generalize dval ((x :: r).takeWhile digit) = N at *
      generalize stretch digit (x :: r) = Z at *
      by_cases hN : N ≤ 2147483647
      · rw [if_pos hN] at h2 ⊢
        go_enter Tryd.func38, Tryd.ntmps38
        go_wp2_with (first | (go_at_call 63; refine (kd.out _).mono ?_; rintro e u0 ⟨rfl, rfl⟩) | (go_at_call 60; refine (h1.out _).mono ?_; rintro e u0 ⟨rfl, rfl⟩) | (go_at_call 64; refine (h2.out _).mono ?_; rintro e w1 ⟨rfl, q1⟩; obtain ⟨r1, z1, b1'⟩ := zero4 q1; have b1 : Hid (Below w.heap.size w w1) := b1'; obtain ⟨y0, y1, y2, y3, f0, f1, f2, f3⟩ := r4 r1; clear q1 b1' r1))
        refine bodyPost_ret (v := .tuple #[V4 (1, N, [], 0), .int .i64 (Z : Nat), .int .i64 0]) ?_ rfl ⟨rfl, ?_⟩
        · simp [results, go_sem, y0, y1, y2, y3, V4]
        · repeat (first | exact b1.out | refine Below.setCell ?_ (by first | exact Nat.le_refl _ | omega) _)
      · rw [if_neg hN] at h2 ⊢
        go_enter Tryd.func38, Tryd.ntmps38
        go_wp2_with (first | (go_at_call 63; refine (kd.out _).mono ?_; rintro e u0 ⟨rfl, rfl⟩) | (go_at_call 60; refine (h1.out _).mono ?_; rintro e u0 ⟨rfl, rfl⟩) | (go_at_call 64; refine (h2.out _).mono ?_; rintro e w1 ⟨rfl, q1⟩; obtain ⟨r1, z1, b1'⟩ := zero4 q1; have b1 : Hid (Below w.heap.size w w1) := b1'; obtain ⟨y0, y1, y2, y3, f0, f1, f2, f3⟩ := r4 r1; clear q1 b1' r1))
        refine bodyPost_ret (v := .tuple #[V4 (0, 0, [], 0), .int .i64 0, .int .i64 3]) ?_ rfl ⟨rfl, ?_⟩
        · simp [results, go_sem, y0, y1, y2, y3, V4]
        · repeat (first | exact b1.out | refine Below.setCell ?_ (by first | exact Nat.le_refl _ | omega) _)
    | false =>
      rw [hd] at kd
      cases hs : small x with
      | true =>
        rw [hs] at ks
        have h1 : Hid (∀ u, Calls Tryd.prog 45 #[.string s] u fun e w' => e = .returned (.int .i64 (stretch inName (x :: r) : Nat)) ∧ u = w') := fun u => by
          have := impl_wordSize s _ hl u hm
          rw [show wordSize (x :: r) = stretch inName (x :: r) from if_pos hs] at this
          exact this
        have hle := stretch_le inName (x :: r)
        rw [← hsz] at hle
        have hle' : (stretch inName (x :: r) : Int) ≤ (s.size : Int) := by omega
        have ht : (s.extract 0 (stretch inName (x :: r))).data.toList = (x :: r).takeWhile inName := by rw [take_list hl, takeWhile_eq]
        have hlen : ((x :: r).takeWhile inName).length = stretch inName (x :: r) := rfl
        have h2 : Hid (∀ u, Below w.heap.size w u → Calls Tryd.prog 66 #[.string (s.extract 0 (stretch inName (x :: r)))] u fun e w' => e = .returned (.tuple #[V4 (if isWord ((x :: r).takeWhile inName) then 3 else 2, 0, (x :: r).takeWhile inName, 0), .int .i64 (stretch inName (x :: r) : Nat), .int .i64 0]) ∧ Below u.heap.size u w') := fun u hu => by
          have := impl_wordTok (s.extract 0 (stretch inName (x :: r))) _ ht u (by rw [size_list ht, hlen]; omega) (hw.later hu)
          rw [hlen] at this
          exact this
        have ho : Hid (one (x :: r) = .txt (isWord ((x :: r).takeWhile inName)) ((x :: r).takeWhile inName)) := by show _ = _; rw [one_cons, if_neg (by rw [hd]; decide), if_pos hs]
        have hfv : Hid (firstV (one (x :: r)) = .tuple #[V4 (if isWord ((x :: r).takeWhile inName) then 3 else 2, 0, (x :: r).takeWhile inName, 0), .int .i64 (stretch inName (x :: r) : Nat), .int .i64 0]) := by show _ = _; rw [ho.out]; rfl
        rw [hfv.out]
        clear hl hx ht hsz hlen hd ho hw hst hfv hs
        generalize (x :: r).takeWhile inName = L at *
        generalize stretch inName (x :: r) = Z at *
        generalize (if isWord L then (3 : Int) else 2) = K at *
        go_enter Tryd.func38, Tryd.ntmps38
        go_wp2_with (first | (go_at_call 63; refine (kd.out _).mono ?_; rintro e u0 ⟨rfl, rfl⟩) | (go_at_call 65; refine (ks.out _).mono ?_; rintro e u0 ⟨rfl, rfl⟩) | (go_at_call 45; refine (h1.out _).mono ?_; rintro e u0 ⟨rfl, rfl⟩) | (go_at_call 66; refine (h2.out _ b0.out).mono ?_; rintro e w1 ⟨rfl, q1⟩; obtain ⟨r1, z1, b1'⟩ := zero4 q1; have b1 : Hid (Below w.heap.size w w1) := b1'; obtain ⟨y0, y1, y2, y3, f0, f1, f2, f3⟩ := r4 r1; clear q1 b1' r1))
        refine bodyPost_ret (v := .tuple #[.agg #[.int .i64 K, .int .i64 0, .string (tx L), .int .i64 0], .int .i64 (Z : Nat), .int .i64 0]) ?_ rfl ⟨rfl, ?_⟩
        · simp [results, go_sem, y0, y1, y2, y3]
        · repeat (first | exact b1.out | refine Below.setCell ?_ (by first | exact Nat.le_refl _ | omega) _)
      | false =>
        rw [hs] at ks
        have h1 : Hid (∀ u, Below w.heap.size w u → Calls Tryd.prog 51 #[.string s] u fun e w' => e = .returned (.int .i64 ((sgn (x :: r)).length : Nat)) ∧ u = w') := fun u hu => impl_signSize s _ hl u (hst.later hu)
        have hle := (sgn_len (x :: r)).2
        have hle2 := (sgn_len (x :: r)).1
        rw [← hsz] at hle
        have ho : Hid (one (x :: r) = if sgn (x :: r) = [] then .bad 2 else .txt true (sgn (x :: r))) := by show _ = _; rw [one_cons, if_neg (by rw [hd]; decide), if_neg (by rw [hs]; decide)]
        have ht : (s.extract 0 (sgn (x :: r)).length).data.toList = sgn (x :: r) := by rw [take_list hl, sgn_take]
        have hte : s.extract 0 (sgn (x :: r)).length = tx (sgn (x :: r)) := of_list ht
        by_cases hg : sgn (x :: r) = []
        · have hfv : Hid (firstV (one (x :: r)) = .tuple #[V4 (0, 0, [], 0), .int .i64 0, .int .i64 2]) := by show _ = _; rw [ho.out, if_pos hg]; rfl
          rw [hfv.out]
          rw [hg] at h1
          clear hl hx ht hsz hd ho hw hst hfv hs hte hg hle hle2
          go_enter Tryd.func38, Tryd.ntmps38
          go_wp2_with (first | (go_at_call 63; refine (kd.out _).mono ?_; rintro e u0 ⟨rfl, rfl⟩) | (go_at_call 65; refine (ks.out _).mono ?_; rintro e u0 ⟨rfl, rfl⟩) | (go_at_call 51; refine (h1.out _ b0.out).mono ?_; rintro e u0 ⟨rfl, rfl⟩))
          refine bodyPost_ret (v := .tuple #[.agg #[.int .i64 0, .int .i64 0, .string ⟨#[]⟩, .int .i64 0], .int .i64 0, .int .i64 2]) ?_ rfl ⟨rfl, ?_⟩
          · simp [results, go_sem]
          · repeat (first | exact (Below.refl _ _).alloc (Nat.le_refl _) _ | refine Below.setCell ?_ (Nat.le_refl _) _)
        · have hfv : Hid (firstV (one (x :: r)) = .tuple #[V4 (3, 0, sgn (x :: r), 0), .int .i64 ((sgn (x :: r)).length : Nat), .int .i64 0]) := by show _ = _; rw [ho.out, if_neg hg]; rfl
          rw [hfv.out]
          have hpos : (sgn (x :: r)).length ≠ 0 := fun e => hg (List.length_eq_zero_iff.1 e)
          have kc : Hid (∀ u, Calls Tryd.prog 32 #[.string (s.extract 0 (sgn (x :: r)).length)] u fun e w' => e = .returned (.string (tx (sgn (x :: r)))) ∧ Below u.heap.size u w') := fun u => by
            rw [hte]
            exact clone _ u (by rw [size_list (tx_list _)]; omega)
          clear hl hx ht hsz hd ho hw hst hfv hs hte hg
          obtain ⟨T, hT⟩ : ∃ T, tx (sgn (x :: r)) = T := ⟨_, rfl⟩
          have hT' : Hid (tx (sgn (x :: r)) = T) := hT
          rw [hT] at kc
          clear hT
          generalize (sgn (x :: r)).length = Z at *
          have hle' : (Z : Int) ≤ (s.size : Int) := by omega
          have hz0 : ((Z : Int) == 0) = false := beq_false_of_ne (by omega)
          have hz1 : ¬ (Z : Int) = 0 := by omega
          go_enter Tryd.func38, Tryd.ntmps38
          go_wp2_with (first | (go_at_call 63; refine (kd.out _).mono ?_; rintro e u0 ⟨rfl, rfl⟩) | (go_at_call 65; refine (ks.out _).mono ?_; rintro e u0 ⟨rfl, rfl⟩) | (go_at_call 51; refine (h1.out _ b0.out).mono ?_; rintro e u0 ⟨rfl, rfl⟩) | (go_at_call 32; refine (kc.out _).mono ?_; rintro e w1 ⟨rfl, q1⟩; obtain ⟨r1, z1, b1'⟩ := zero4 q1; have b1 : Hid (Below w.heap.size w w1) := b1'; obtain ⟨y0, y1, y2, y3, f0, f1, f2, f3⟩ := r4 r1; clear q1 b1' r1))
          refine bodyPost_ret (v := .tuple #[.agg #[.int .i64 3, .int .i64 0, .string T, .int .i64 0], .int .i64 (Z : Nat), .int .i64 0]) ?_ rfl ⟨by rw [← hT'.out], ?_⟩
          · simp [results, go_sem, y0, y1, y2, y3]
          · repeat (first | exact b1.out | refine Below.setCell ?_ (by first | exact Nat.le_refl _ | omega) _)
end Go.Proofs.YtjndgjheehjohaaDoor.LexImpl
