/-
  Lists of tokens: how much they hold, what the law's count says, what Unlex answers, the program's and the specification's; the walk of its exact law.
-/
import Derived.Test.YtjndgjheehjohaaDoorTokText
import Derived.Lib.Join
namespace Go.Proofs.YtjndgjheehjohaaDoor.TokList
open Go.RowKit PlainNum PlainOps PlainLex NameCalls CharCalls WordCalls SignCalls TokCalls NumCalls TokText InsMem

abbrev E := MemTok.E
/-- The text of token k. -/
def txtAt (l : List E) (k : Nat) : List UInt8 := tokT (MemTok.f0At l k) (MemTok.f1At l k) (MemTok.f2At l k).data.toList
/-- The texts of the first k with a blank between. -/
def unT (l : List E) : Nat → List UInt8
  | 0 => []
  | k + 1 => unT l k ++ (if k = 0 then [] else [32]) ++ txtAt l k
/-- How many letters the first k have. -/
def letters (l : List E) : Nat → Nat
  | 0 => 0
  | k + 1 => letters l k + (MemTok.f2At l k).size
theorem letters_mono (l : List E) (k : Nat) : ∀ j, letters l k ≤ letters l (k + j)
  | 0 => Nat.le_refl _
  | j + 1 => Nat.le_trans (letters_mono l k j) (by rw [show k + (j + 1) = (k + j) + 1 by omega, letters]; omega)
/-- Tokens that came in. -/
def Wide (l : List E) : Prop := ∀ j, j < l.length → (MemTok.f2At l j).size ≤ 9223372036854775807
/-- Tokens that the law takes. -/
def Small (l : List E) : Prop := l.length + letters l l.length ≤ 1048576
theorem Small.one {l : List E} (h : Small l) (j : Nat) (hj : j < l.length) : (MemTok.f2At l j).size ≤ 1048576 := by
  have h1 := letters_mono l (j + 1) (l.length - (j + 1))
  rw [show j + 1 + (l.length - (j + 1)) = l.length by omega, letters] at h1
  have h2 : l.length + letters l l.length ≤ 1048576 := h
  omega
theorem Small.num {l : List E} (h : Small l) : l.length ≤ 1048576 := by
  have h2 : l.length + letters l l.length ≤ 1048576 := h
  omega
theorem txtAt_len (l : List E) (k : Nat) : (txtAt l k).length ≤ 21 + (MemTok.f2At l k).size := tokT_len _ _ _
theorem unT_len (l : List E) : ∀ k, (unT l k).length ≤ 22 * k + letters l k
  | 0 => by simp [unT, letters]
  | k + 1 => by
    have h1 := unT_len l k
    have h2 := txtAt_len l k
    unfold unT letters
    rw [List.length_append, List.length_append]
    split <;> simp <;> omega
theorem tx_size (l : List UInt8) : (tx l).size = l.length := by simp [tx, ByteArray.size]
theorem join_snoc (xs : List (List UInt8)) (y sep : List UInt8) (h : xs ≠ []) : Lib.join (xs ++ [y]) sep = Lib.join xs sep ++ sep ++ y := by
  cases xs with
  | nil => exact absurd rfl h
  | cons x r => rw [List.cons_append, Lib.join_cons, Lib.join_cons]; simp [Lib.joinTail]
/-- What Join makes of the texts. -/
theorem join_un (l : List E) : ∀ k, Lib.join ((List.range k).map fun j => txtAt l j) [32] = unT l k
  | 0 => rfl
  | 1 => by simp [unT, Lib.join, List.range_succ]
  | k + 2 => by
    rw [List.range_succ, List.map_append, List.map_cons, List.map_nil, join_snoc _ _ _ (by simp), join_un l (k + 1)]
    conv => rhs; rw [unT]
    rw [if_neg (by omega)]
set_option maxHeartbeats 2000000 in
theorem szTokS (w : World) (a : Option Addr) (cap : Nat) (l : List E) (h : MemTok.Rd w a l) (hm : l.length ≤ 9223372036854775807) (hw : Wide l) :
    Calls Tryd.prog 14 #[.slice a l.length cap, .int .i64 1048576] w fun e w' => ∃ r : Int, e = .returned (.int .i64 r) ∧ r ≤ 1048576 ∧ -1 ≤ r ∧ (0 ≤ r → Small l) ∧ Below w.heap.size w w' := by
  have h' : Hid (MemTok.Rd w a l) := h
  have hw' : Hid (Wide l) := hw
  clear h hw
  by_cases hn : l.length ≤ 1048576
  · have hn0 : ¬ (1048576 - (l.length : Int) < 0) := by omega
    go_enter Tryd.func14, Tryd.ntmps14
    go_wp2_with fail
    go_loopw [1, 5] (fun vl vi wr => ∃ (k : Nat) (r : Int), k ≤ l.length ∧ vi = .int .i64 k ∧ vl = .int .i64 r ∧ 0 ≤ r ∧ r = 1048576 - l.length - letters l k ∧ Below w.heap.size w wr) (fun _ vi _ => l.length - (intOf vi).toNat)
    case atStart => exact ⟨0, 1048576 - (l.length : Int), Nat.zero_le _, rfl, rfl, by omega, by show _ = _ - ((0 : Nat) : Int); omega, Below.refl _ _⟩
    case round =>
      obtain ⟨k, r, hk, rfl, rfl, hr0, hr, hbel⟩ := hrel
      have hr' : Hid (r = 1048576 - l.length - letters l k) := hr
      have hr1 : r ≤ 1048576 := by omega
      have hbel' : Hid (Below w.heap.size w wr) := hbel
      have hsz := hbel.size
      clear hr
      by_cases hlt : k < l.length
      · have hlt' : (k : Int) < (l.length : Int) := by omega
        rcases h'.out.later hbel with h0 | ⟨b, off, ha, hc⟩
        · omega
        · obtain ⟨c0, c1, c2, c3⟩ := hc k hlt
          subst ha
          clear hc hbel
          have hz : Hid (∀ u, Calls Tryd.prog 10 #[tokV (MemTok.f0At l k) (MemTok.f1At l k) (MemTok.f2At l k) (MemTok.f3At l k), .int .i64 r] u fun e w' => ∃ z : Int, e = .returned (.int .i64 z) ∧ -1 ≤ z ∧ z ≤ r ∧ (0 ≤ z → (MemTok.f2At l k).size ≤ 1048576) ∧ (0 ≤ z → z = r - (MemTok.f2At l k).size) ∧ Below u.heap.size u w') := fun u => szTok _ _ _ _ r u (hw'.out k hlt) hr0 hr1
          have hlet : Hid (letters l (k + 1) = letters l k + (MemTok.f2At l k).size) := rfl
          generalize MemTok.f0At l k = x0 at *
          generalize MemTok.f1At l k = x1 at *
          generalize MemTok.f2At l k = x2 at *
          generalize MemTok.f3At l k = x3 at *
          go_wp2_with (go_at_call 10; refine (hz.out _).mono ?_; rintro e w2 ⟨z, rfl, z0, z1, z2, z3, q2⟩; have z3' : Hid (0 ≤ z → z = r - x2.size) := z3; clear z2 z3)
          · go_ret
            exact ⟨-1, rfl, by omega, by omega, by omega, hbel'.out.trans (q2.mono hsz)⟩
          · go_roundw
            case rel => exact ⟨k + 1, z, by omega, by go_num, rfl, by omega, by have := z3'.out (by omega); have := hr'.out; have := hlet.out; omega, hbel'.out.trans (q2.mono hsz)⟩
            case measure => simp [intOf]; omega
      · obtain rfl : k = l.length := by omega
        clear hbel
        go_wp2_with fail
        go_ret
        exact ⟨r, rfl, by omega, by omega, fun _ => by have := hr'.out; show _ ≤ _; omega, hbel'.out⟩
  · have hn0 : 1048576 - (l.length : Int) < 0 := by omega
    go_enter Tryd.func14, Tryd.ntmps14
    go_wp2_with fail
    go_ret
    exact ⟨-1, rfl, by omega, by omega, by omega, Below.refl _ _⟩
theorem boxed {wr w' : World} {x0 x1 x2 x3 : Value} {t : TypeId} {g n k : Nat} {F : Nat → Value} {T : TypeId} (h : wr.rowIs g T n F) (q : Below (wr.alloc (.cells #[x0, x1, x2, x3] t)).heap.size (wr.alloc (.cells #[x0, x1, x2, x3] t)) w') (hk : k < n) :
    Hid (w'.rowIs g T n F) ∧ w'.cell? ⟨g, k, none⟩ = some (F k) ∧ w'.frozen? ⟨g, k, none⟩ = false := by
  have h2 : w'.rowIs g T n F := row_later (h.alloc _) q
  exact ⟨h2, h2.cell hk, h2.frozen k⟩
theorem blw {w wr w' : World} {o : Obj} (hb : Below w.heap.size w wr) (q : Below (wr.alloc o).heap.size (wr.alloc o) w') : Below w.heap.size w w' :=
  (hb.alloc hb.size o).trans (q.mono (by have := hb.size; simp; omega))
set_option maxHeartbeats 4000000 in
theorem spec_unlex (w : World) (a : Option Addr) (cap : Nat) (l : List E) (h : MemTok.Rd w a l) (hs : Small l) :
    Calls Tryd.prog 15 #[.slice a l.length cap] w fun e w' => e = .returned (.string (tx (unT l l.length))) ∧ Below w.heap.size w w' := by
  obtain ⟨R, hR⟩ : ∃ R, tx (unT l l.length) = R := ⟨_, rfl⟩
  have hR' : Hid (tx (unT l l.length) = R) := hR
  rw [hR]
  have h' : Hid (MemTok.Rd w a l) := h
  have hs' : Hid (Small l) := hs
  have hn := hs.num
  have hS : Hid (l.length + letters l l.length ≤ 1048576) := hs
  clear hR h hs
  go_enter Tryd.func15, Tryd.ntmps15
  go_wp2_with fail
  go_loopw [3, 8] (fun vo vi wr => ∃ (k : Nat) (X : ByteArray), k ≤ l.length ∧ vi = .int .i64 k ∧ vo = .string X ∧ X = tx (unT l k) ∧ Below w.heap.size w wr) (fun _ vi _ => l.length - (intOf vi).toNat)
  case atStart => exact ⟨0, ⟨#[]⟩, Nat.zero_le _, rfl, rfl, rfl, Below.refl _ _⟩
  case round =>
    obtain ⟨k, X, hk, rfl, rfl, hX, hbel⟩ := hrel
    have hX' : Hid (X = tx (unT l k)) := hX
    have hXs : X.size ≤ 24117248 := by
      rw [hX, tx_size]
      have h1 := unT_len l k
      have h2 := letters_mono l k (l.length - k)
      rw [show k + (l.length - k) = l.length by omega] at h2
      have := hS.out
      omega
    have hbel' : Hid (Below w.heap.size w wr) := hbel
    have hsz := hbel.size
    clear hX
    by_cases hlt : k < l.length
    · have hlt' : (k : Int) < (l.length : Int) := by omega
      rcases h'.out.later hbel with h0 | ⟨b, off, ha, hc⟩
      · omega
      · obtain ⟨c0, c1, c2, c3⟩ := hc k hlt
        subst ha
        clear hc hbel
        have ht : Hid (∀ u, Calls Tryd.prog 11 #[tokV (MemTok.f0At l k) (MemTok.f1At l k) (MemTok.f2At l k) (MemTok.f3At l k)] u fun e w' => e = .returned (.string (tx (txtAt l k))) ∧ Below u.heap.size u w') := fun u => spec_tokText _ _ _ _ _ u rfl (hs'.out.one k hlt)
        have hD : (tx (txtAt l k)).size ≤ 1048597 := by rw [tx_size]; have := txtAt_len l k; have := hs'.out.one k hlt; omega
        have hstep : Hid (tx (unT l (k + 1)) = (if k = 0 then X else X ++ ⟨#[32]⟩) ++ tx (txtAt l k)) := by
          show _ = _
          rw [hX'.out, unT, ← tx_append, ← tx_append]
          by_cases h0 : k = 0
          · rw [if_pos h0, if_pos h0, tx_append _ [], List.append_nil]
          · rw [if_neg h0, if_neg h0]; rfl
        generalize tx (txtAt l k) = D at *
        generalize MemTok.f0At l k = x0 at *
        generalize MemTok.f1At l k = x1 at *
        generalize MemTok.f2At l k = x2 at *
        generalize MemTok.f3At l k = x3 at *
        by_cases hk0 : k = 0
        · have hk1 : ¬ (0 : Int) < (k : Int) := by omega
          have hk2 : Hid (k = 0) := hk0
          clear hk0
          go_wp2_with (go_at_call 11; refine (ht.out _).mono ?_; rintro e w2 ⟨rfl, q2⟩)
          go_roundw
          case rel => exact ⟨k + 1, _, by omega, by go_num, rfl, by rw [hstep.out, if_pos hk2.out], blw hbel'.out q2⟩
          case measure => simp [intOf]; omega
        · have hk1 : (0 : Int) < (k : Int) := by omega
          go_wp2_with (go_at_call 11; refine (ht.out _).mono ?_; rintro e w2 ⟨rfl, q2⟩)
          go_roundw
          case rel => exact ⟨k + 1, _, by omega, by go_num, rfl, by rw [hstep.out, if_neg hk0], blw hbel'.out q2⟩
          case measure => simp [intOf]; omega
    · obtain rfl : k = l.length := by omega
      have e1 : Hid (X = R) := hX'.out.trans hR'.out
      clear hbel
      go_wp2_with fail
      go_ret
      exact ⟨by rw [e1.out]; rfl, hbel'.out⟩
theorem info9 : (Tryd.prog.info? 9).map (fun i => (i.zero, i.size, i.bytes)) = some (some (.string ⟨#[]⟩), 1, 16) := by kernel_rfl
theorem join_call (w : World) (g : Nat) (l : List E) (hs : Small l) (hrow : w.rowIs g 9 l.length (fun j => .string (tx (txtAt l j)))) :
    Calls Tryd.prog 33 #[.slice (some ⟨g, 0, none⟩) l.length l.length, .string ⟨#[32]⟩] w fun e w' => e = .returned (.string (tx (unT l l.length))) ∧ Below w.heap.size w w' := by
  have hx : ((List.range l.length).map fun j => tx (txtAt l j)).map (·.data.toList) = (List.range l.length).map fun j => txtAt l j := by
    rw [List.map_map]
    exact List.map_congr_left fun j _ => tx_list _
  have hss : (⟨#[32]⟩ : ByteArray).data.toList = [32] := rfl
  have hl := unT_len l l.length
  have hS : l.length + letters l l.length ≤ 1048576 := hs
  have h := Tryd.strings_Join g 0 l.length ((List.range l.length).map fun j => tx (txtAt l j)) ⟨#[32]⟩ w (fun j x hj => by
    have hjl : j < l.length := by
      have := (List.getElem?_eq_some_iff.1 hj).1
      simpa using this
    rw [Nat.zero_add, hrow.cell hjl]
    simp [hjl] at hj
    rw [hj]) hrow.lt (by simp; omega) (by simp) (by rw [hx, hss, join_un]; omega)
  rw [hx, hss, join_un] at h
  simp only [List.length_map, List.length_range] at h
  exact h
set_option maxHeartbeats 8000000 in
theorem impl_unlex (w : World) (a : Option Addr) (cap : Nat) (l : List E) (h : MemTok.Rd w a l) (hs : Small l) (hw : WTab w) (hst : STab w) (hp : Pow w) :
    Calls Tryd.prog 17 #[.slice a l.length cap] w fun e w' => e = .returned (.string (tx (unT l l.length))) ∧ Below w.heap.size w w' := by
  have h' : Hid (MemTok.Rd w a l) := h
  have hs' : Hid (Small l) := hs
  have hw' : Hid (WTab w) := hw
  have hst' : Hid (STab w) := hst
  have hp' : Hid (Pow w) := hp
  have hn := hs.num
  obtain ⟨R, hR⟩ : ∃ R, tx (unT l l.length) = R := ⟨_, rfl⟩
  have hR' : Hid (tx (unT l l.length) = R) := hR
  rw [hR]
  clear h hs hw hst hp hR
  have hmk := run_make_row' (P := Tryd.prog) 44 9 (.string ⟨#[]⟩) 16 Tryd.underlying44 info9 rfl .i64 .i64 l.length (by omega) (by omega)
  go_enter Tryd.func17, Tryd.ntmps17
  go_wp2_with fail
  clear hmk
  go_loopw [11] (fun vk wr => ∃ k : Nat, k ≤ l.length ∧ vk = .int .i64 k ∧ wr.rowIs w.heap.size 9 l.length (fun j => if j < k then .string (tx (txtAt l j)) else .string ⟨#[]⟩) ∧ Below w.heap.size w wr) (fun vk _ => l.length - (intOf vk).toNat)
  case atStart => exact ⟨0, Nat.zero_le _, rfl, (World.rowIs_made w (.string ⟨#[]⟩) l.length 9).congr (fun i hi => by simp), (Below.refl _ _).alloc (Nat.le_refl _) _⟩
  case round =>
    obtain ⟨k, hk, rfl, hrow, hbel⟩ := hrel
    have hrow' : Hid (wr.rowIs w.heap.size 9 l.length (fun j => if j < k then .string (tx (txtAt l j)) else .string ⟨#[]⟩)) := hrow
    have hbel' : Hid (Below w.heap.size w wr) := hbel
    have hsz := hbel.size
    by_cases hlt : k < l.length
    · have hlt' : (k : Int) < (l.length : Int) := by omega
      rcases h'.out.later hbel with h0 | ⟨b, off, ha, hc⟩
      · omega
      · obtain ⟨c0, c1, c2, c3⟩ := hc k hlt
        subst ha
        have hrl := hrow.lt
        clear hc hbel hrow
        have hI : Hid (∀ u, Below w.heap.size w u → Calls Tryd.prog 13 #[tokV (MemTok.f0At l k) (MemTok.f1At l k) (MemTok.f2At l k) (MemTok.f3At l k)] u fun e w' => e = .returned (.string (tx (txtAt l k))) ∧ Below u.heap.size u w') := fun u hu => impl_tokText _ _ _ _ _ u rfl (hs'.out.one k hlt) (hw'.out.later hu) (hst'.out.later hu) (pow_later hp'.out hu)
        obtain ⟨D, hD⟩ : ∃ D, tx (txtAt l k) = D := ⟨_, rfl⟩
        have hD' : Hid (tx (txtAt l k) = D) := hD
        rw [hD] at hI
        clear hD
        generalize MemTok.f0At l k = x0 at *
        generalize MemTok.f1At l k = x1 at *
        generalize MemTok.f2At l k = x2 at *
        generalize MemTok.f3At l k = x3 at *
        go_wp2_with (go_at_call 13; refine (hI.out _ (hbel'.out.alloc hsz _)).mono ?_; rintro e w2 ⟨rfl, q2⟩; obtain ⟨hr2, y0, f0⟩ := boxed hrow'.out q2 hlt)
        go_roundw
        case rel =>
          refine ⟨k + 1, by omega, by go_num, (hr2.out.set k (.string D)).congr fun j hj => ?_, (blw hbel'.out q2).setCell (Nat.le_refl _) _⟩
          by_cases z : j = k
          · rw [if_pos z, if_pos (by omega), z, hD'.out]
          · rw [if_neg z]
            by_cases z3 : j < k
            · rw [if_pos z3, if_pos (by omega)]
            · rw [if_neg z3, if_neg (by omega)]
        case measure => simp [intOf]; omega
    · obtain rfl : k = l.length := by omega
      have hr3 : Hid (wr.rowIs w.heap.size 9 l.length (fun j => .string (tx (txtAt l j)))) := hrow.congr (fun j hj => by simp [hj])
      have hJ : Hid (Calls Tryd.prog 33 #[.slice (some ⟨w.heap.size, 0, none⟩) l.length l.length, .string ⟨#[32]⟩] wr fun e w' => e = .returned (.string (tx (unT l l.length))) ∧ Below wr.heap.size wr w') := join_call wr w.heap.size l hs'.out hr3.out
      rw [hR'.out] at hJ
      clear hbel hrow hrow'
      go_wp2_with (go_at_call 33; refine hJ.out.mono ?_; rintro e w2 ⟨rfl, q2⟩)
      go_ret
      exact ⟨rfl, hbel'.out.trans (q2.mono hsz)⟩
set_option maxHeartbeats 4000000 in
theorem fnExactUnlex (a : Option Addr) (cap : Nat) (l : List E) (w : World) (h : MemTok.Rd w a l) (hl : l.length ≤ 9223372036854775807) (hb : Wide l) (hw : WTab w) (hst : STab w) (hp : Pow w) :
    Calls Tryd.prog 5 #[.slice a l.length cap] w fun e w' => e = .returned (.bool true) ∧ Below w.heap.size w w' := by
  have kz : Hid (Calls Tryd.prog 14 #[.slice a l.length cap, .int .i64 1048576] w fun e w' => ∃ r : Int, e = .returned (.int .i64 r) ∧ r ≤ 1048576 ∧ -1 ≤ r ∧ (0 ≤ r → Small l) ∧ Below w.heap.size w w') := szTokS w a cap l h hl hb
  have kc : Hid (∀ u, Small l → Below w.heap.size w u → Calls Tryd.prog 16 #[.slice a l.length cap] u fun e w' => ∃ b, e = .returned (.slice (some ⟨b, 0, none⟩) l.length l.length) ∧ MemTok.Rd w' (some ⟨b, 0, none⟩) l ∧ Below u.heap.size u w' ∧ Below w.heap.size w w') := fun u hs hu => (MemTok.toS u a cap l (h.later hu) hs.num).mono fun e w' ⟨b, he, _, hr, hb'⟩ => ⟨b, he, MemTok.rd_of_row hr, hb', hu.trans (hb'.mono hu.size)⟩
  have kS : Hid (∀ u b, Small l → MemTok.Rd u (some ⟨b, 0, none⟩) l → Calls Tryd.prog 15 #[.slice (some ⟨b, 0, none⟩) l.length l.length] u fun e w' => e = .returned (.string (tx (unT l l.length))) ∧ Below u.heap.size u w') := fun u b hs hr => spec_unlex u _ _ l hr hs
  have kI : Hid (∀ u b, Small l → MemTok.Rd u (some ⟨b, 0, none⟩) l → Below w.heap.size w u → Calls Tryd.prog 17 #[.slice (some ⟨b, 0, none⟩) l.length l.length] u fun e w' => e = .returned (.string (tx (unT l l.length))) ∧ Below u.heap.size u w') := fun u b hs hr hu => impl_unlex u _ _ l hr hs (hw.later hu) (hst.later hu) (pow_later hp hu)
  have kE : Hid (∀ u b b', Small l → MemTok.Rd u (some ⟨b, 0, none⟩) l → MemTok.Rd u (some ⟨b', 0, none⟩) l → Calls Tryd.prog 18 #[.slice (some ⟨b, 0, none⟩) l.length l.length, .slice (some ⟨b', 0, none⟩) l.length l.length] u fun e w' => e = .returned (.bool true) ∧ Below u.heap.size u w') := fun u b b' hs hr hr' => MemTok.eqS u _ _ _ _ l hr hr' (by have := hs.num; omega)
  clear h hl hb hw hst hp
  generalize tx (unT l l.length) = R at *
  generalize l.length = n at *
  go_enter Tryd.func5, Tryd.ntmps5
  go_wp2_with (go_at_call 14; refine kz.out.mono ?_; rintro e w1 ⟨r, rfl, r1, r2, r3, q1⟩; have r3' : Hid (0 ≤ r → Small l) := r3; have Q1 : Hid (Below w.heap.size w w1) := q1; clear r3 q1)
  · go_ret
    exact ⟨rfl, Q1.out⟩
  · have hs : Hid (Small l) := r3'.out (by omega)
    clear r3'
    have kc2 := kc
    have kc3 := kc
    go_wp2_with (first
      | (go_at_call 16; refine (kc.out _ hs.out Q1.out).mono ?_; rintro e w2 ⟨b2, rfl, d2, _, q2⟩; have D2 : Hid (MemTok.Rd w2 (some ⟨b2, 0, none⟩) l) := d2; have Q2 : Hid (Below w.heap.size w w2) := q2; clear d2 q2 kc)
      | (go_at_call 15; refine (kS.out _ _ hs.out D2.out).mono ?_; rintro e w3 ⟨rfl, q3⟩; have Q3 : Hid (Below w.heap.size w w3) := Q2.out.trans (q3.mono Q2.out.size); clear q3)
      | (go_at_call 16; refine (kc2.out _ hs.out Q3.out).mono ?_; rintro e w4 ⟨b4, rfl, d4, _, q4⟩; have D4 : Hid (MemTok.Rd w4 (some ⟨b4, 0, none⟩) l) := d4; have Q4 : Hid (Below w.heap.size w w4) := q4; clear d4 q4 kc2)
      | (go_at_call 17; refine (kI.out _ _ hs.out D4.out Q4.out).mono ?_; rintro e w5 ⟨rfl, q5⟩; have D5 : Hid (MemTok.Rd w5 (some ⟨b4, 0, none⟩) l) := D4.out.later q5; have Q5 : Hid (Below w.heap.size w w5) := Q4.out.trans (q5.mono Q4.out.size); clear q5)
      | (go_at_call 16; refine (kc3.out _ hs.out Q5.out).mono ?_; rintro e w6 ⟨b6, rfl, d6, q6, q6'⟩; have D6 : Hid (MemTok.Rd w6 (some ⟨b6, 0, none⟩) l) := d6; have E6 : Hid (MemTok.Rd w6 (some ⟨b4, 0, none⟩) l) := D5.out.later q6; have Q6 : Hid (Below w.heap.size w w6) := q6'; clear d6 q6 q6' kc3)
      | (go_at_call 18; refine (kE.out _ _ _ hs.out E6.out D6.out).mono ?_; rintro e w7 ⟨rfl, q7⟩; have Q7 : Hid (Below w.heap.size w w7) := Q6.out.trans (q7.mono Q6.out.size); clear q7))
    go_ret
    exact ⟨rfl, Q7.out⟩
end Go.Proofs.YtjndgjheehjohaaDoor.TokList
