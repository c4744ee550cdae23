/-
  What UtfOk answers when it is called, the specification's and the program's, and its exact law.
-/
import Derived.Test.YtffngjgjhialnaaGreatDoorUtfCalls
import Derived.Test.YtffngjgjhialnaaGreatDoorShelf
import Derived.Lib.OthersKept
import Derived.Lib.RuneCountTail
namespace Go.Proofs.YtffngjgjhialnaaGreatDoor.UtfLaw
open Go.RowKit PlainNum PlainUtf UtfCalls

/-- Every character from i on is right. -/
def okF (s : ByteArray) : Nat → Nat → Bool
  | 0, _ => true
  | f + 1, i => if i < s.size then (if wd s i = 0 then false else okF s f (i + wd s i)) else true
theorem okF_end (s : ByteArray) : ∀ (f i : Nat), ¬ i < s.size → okF s f i = true
  | 0, _, _ => rfl
  | f + 1, i, h => by rw [okF, if_neg h]
theorem okF_bad (s : ByteArray) (f i : Nat) (h : i < s.size) (h0 : wd s i = 0) : okF s (f + 1) i = false := by rw [okF, if_pos h, if_pos h0]
theorem okF_good (s : ByteArray) (f i : Nat) (h : i < s.size) (h0 : ¬ wd s i = 0) : okF s (f + 1) i = okF s f (i + wd s i) := by rw [okF, if_pos h, if_neg h0]
theorem wd_le (s : ByteArray) (i : Nat) : wd s i ≤ 4 := by
  unfold wd
  (repeat' split) <;> omega
set_option maxHeartbeats 2000000 in
theorem spec_utfOk (s : ByteArray) (w : World) (hs : s.size ≤ 1048576) :
    Calls Tryz.prog 120 #[.string s] w fun e w' => e = .returned (.bool (okF s s.size 0)) ∧ w = w' := by
  obtain ⟨R, hR⟩ : ∃ R, okF s s.size 0 = R := ⟨_, rfl⟩
  rw [hR]
  have hR' : Hid (okF s s.size 0 = R) := hR
  clear hR
  go_enter Tryz.func120, Tryz.ntmps120
  go_wp2_with fail
  go_loop [3] (fun v => ∃ i f : Nat, v = .int .i64 (i : Int) ∧ okF s f i = R ∧ s.size - i ≤ f ∧ i ≤ s.size + 4) (fun v => s.size + 4 - (intOf v).toNat)
  case atStart => exact ⟨0, s.size, rfl, hR'.out, by omega, by omega⟩
  case round =>
    obtain ⟨i, f, rfl, hok, hf, hi⟩ := hrel
    have hok' : Hid (okF s f i = R) := hok
    clear hok
    by_cases hlt : i < s.size
    · have hlt' : (i : Int) < (s.size : Int) := by omega
      obtain ⟨f, rfl⟩ : ∃ j, f = j + 1 := ⟨f - 1, by omega⟩
      have hw4 := wd_le s i
      have hc := spec_char s i w hlt hs
      by_cases h0 : wd s i = 0
      · have hb := okF_bad s f i hlt h0
        rw [h0] at hc
        have hb' : Hid (okF s (f + 1) i = false) := hb
        clear hb
        go_wp2_with (go_at_call 136; refine hc.mono ?_; rintro e w' ⟨rfl, rfl⟩)
        go_ret
        exact ⟨by rw [← hok'.out, hb'.out]; rfl, rfl⟩
      · have hb : Hid (okF s (f + 1) i = okF s f (i + wd s i)) := okF_good s f i hlt h0
        have h0' : ¬ (wd s i : Int) = 0 := by omega
        generalize wd s i = k at *
        go_wp2_with (go_at_call 136; refine hc.mono ?_; rintro e w' ⟨rfl, rfl⟩)
        go_round
        case rel => exact ⟨i + k, f, by go_num, by rw [← hb.out]; exact hok'.out, by omega, by omega⟩
        case measure => simp only [intOf]; omega
    · have hb : Hid (okF s f i = true) := okF_end s f i hlt
      have hlt' : ¬ (i : Int) < (s.size : Int) := by omega
      go_wp2_with fail
      go_ret
      exact ⟨by rw [← hok'.out, hb.out]; rfl, rfl⟩
theorem decode_tail (s : ByteArray) (i : Nat) (h : i < s.size) : Lib.decodeGo (s.extract i s.size) = Utf8.decode s i := by
  have hsz : (s.extract i s.size).size = s.size - i := by simp
  have hg : ∀ k, (s.extract i s.size).get! k = s.get! (i + k) := fun k => Lib.tail_get! s i k
  unfold Lib.decodeGo
  rw [if_neg (by omega)]
  unfold Utf8.decode
  simp only [hsz, hg, Nat.zero_add, Nat.add_zero]
  have hc : ∀ k, (k < s.size - i) = (i + k < s.size) := fun k => by simp only [eq_iff_iff]; omega
  simp only [hc]
set_option maxHeartbeats 2000000 in
theorem isRepl (t : ByteArray) (w : World) (hT : Lib.Utf8Tabs 1 2 w) :
    Calls Tryz.prog 156 #[.string t] w fun e w' => e = .returned (.bool (decide (1 < (Lib.decodeGo t).2))) ∧ Below w.heap.size w w' := by
  have hd := Tryz.utf8_DecodeRuneInString t w hT
  generalize (Lib.decodeGo t).1 = r at *
  generalize (Lib.decodeGo t).2 = k at *
  go_enter Tryz.func156, Tryz.ntmps156
  go_wp2_with (go_at_call 162; refine hd.mono ?_; rintro e w1 ⟨rfl, b1⟩)
  go_ret
  exact ⟨by simp; omega, b1⟩
theorem tabs_later {g h : Nat} {w w' : World} (hT : Lib.Utf8Tabs g h w) (hb : Below w.heap.size w w') : Lib.Utf8Tabs g h w' := by
  have hg : g < w.heap.size := World.block_lt_of_cell? w _ (hT.1 0 (by omega))
  have hh : h < w.heap.size := World.block_lt_of_cell? w _ (hT.2 0 (by omega)).1
  exact ⟨fun c hc => (hb.cell (p := ⟨g, c, none⟩) hg).trans (hT.1 c hc), fun i hi => ⟨(hb.cell (p := ⟨h, 2 * i, none⟩) hh).trans (hT.2 i hi).1, (hb.cell (p := ⟨h, 2 * i + 1, none⟩) hh).trans (hT.2 i hi).2⟩⟩
set_option maxRecDepth 100000 in
set_option maxHeartbeats 4000000 in
theorem impl_utfOk (s : ByteArray) (w : World) (hs : s.size ≤ 1048576) (hT : Lib.Utf8Tabs 1 2 w) :
    Calls Tryz.prog 140 #[.string s] w fun e w' => e = .returned (.bool (okF s s.size 0)) ∧ Below w.heap.size w w' := by
  obtain ⟨R, hR⟩ : ∃ R, okF s s.size 0 = R := ⟨_, rfl⟩
  rw [hR]
  have hR' : Hid (okF s s.size 0 = R) := hR
  have hT' : Hid (Lib.Utf8Tabs 1 2 w) := hT
  clear hR hT
  go_enter Tryz.func140, Tryz.ntmps140
  go_wp2_with fail
  go_loopw [] (fun wr => ∃ pos f : Nat, wr.heap[w.heap.size]? = some (.stringIter s pos) ∧ okF s f pos = R ∧ s.size - pos ≤ f ∧ pos ≤ s.size + 4 ∧ Below w.heap.size w wr) (fun wr => s.size + 4 - wr.iterPos w.heap.size)
  case atStart => exact ⟨0, s.size, World.iter_heap w s 0, hR'.out, by omega, by omega, (Below.refl _ w).alloc (Nat.le_refl _) _⟩
  case round =>
    obtain ⟨pos, f, hit, hok, hf, hi, hbw⟩ := hrel
    have hok' : Hid (okF s f pos = R) := hok
    clear hok
    have hsz : w.heap.size < wr.heap.size := (Array.getElem?_eq_some_iff.1 hit).1
    by_cases hp : pos < s.size
    · have hnx : ∀ ty, (Instr.next (.pointer (some ⟨w.heap.size, 0, none⟩)) true ty).run Tryz.prog wr = _ := fun ty => Lib.run_next_any_at wr w.heap.size s pos ty hit hp
      have hit2 := Lib.iterAt_heap wr w.heap.size s pos (pos + (Utf8.decode s pos).2) hit
      have hbw2 := Lib.below_iterAt hbw (k := w.heap.size) (by omega) s (pos + (Utf8.decode s pos).2)
      have hrp := isRepl (s.extract pos s.size) (wr.iterAt w.heap.size s (pos + (Utf8.decode s pos).2)) (tabs_later hT'.out hbw2)
      rw [decode_tail s pos hp] at hrp
      obtain ⟨f, rfl⟩ : ∃ j, f = j + 1 := ⟨f - 1, by omega⟩
      have hw4 := wd_le s pos
      have hp' : (pos : Int) ≤ (s.size : Int) := by omega
      rcases decode_wd s pos with ⟨hw0, hd⟩ | ⟨hw0, hd2, hd1⟩
      · have hb : Hid (okF s (f + 1) pos = false) := okF_bad s f pos hp hw0
        rw [hd] at hnx hrp hit2 hbw2
        go_wp2_with (go_at_call 156; refine hrp.mono ?_; rintro e w1 ⟨rfl, b1⟩)
        go_ret
        exact ⟨by rw [← hok'.out, hb.out]; rfl, hbw2.trans (b1.mono hbw2.size)⟩
      · have hb : Hid (okF s (f + 1) pos = okF s f (pos + wd s pos)) := okF_good s f pos hp (by omega)
        have hrl : (Utf8.decode s pos).1 ≤ 2147483647 := decode_le s pos
        rw [hd2] at hnx hrp hit2 hbw2
        by_cases hr : (Utf8.decode s pos).1 = 65533
        · have hk1 : ¬ wd s pos = 1 := fun e => by have := hd1 e; omega
          have hdec : decide (1 < wd s pos) = true := by simp; omega
          rw [hr] at hnx
          rw [hdec] at hrp
          generalize wd s pos = k at *
          go_wp2_with (go_at_call 156; refine hrp.mono ?_; rintro e w1 ⟨rfl, b1⟩)
          have hit3 := (b1.block w.heap.size (by rw [Lib.iterAt_size]; exact hsz)).trans hit2
          go_roundw
          case rel => exact ⟨pos + k, f, hit3, by rw [← hb.out]; exact hok'.out, by omega, by omega, hbw2.trans (b1.mono hbw2.size)⟩
          case measure => simp [World.iterPos, hit, hit3]; omega
        · have hr' : ¬ ((Utf8.decode s pos).1 : Int) = 65533 := by omega
          have hrb : (((Utf8.decode s pos).1 : Int) == 65533) = false := by simp; omega
          generalize wd s pos = k at *
          generalize (Utf8.decode s pos).1 = r at *
          go_wp2_with fail
          go_roundw
          case rel => exact ⟨pos + k, f, hit2, by rw [← hb.out]; exact hok'.out, by omega, by omega, hbw2⟩
          case measure => simp [World.iterPos, hit, hit2]; omega
    · have hb : Hid (okF s f pos = true) := okF_end s f pos hp
      have hnx : ∀ ty, (Instr.next (.pointer (some ⟨w.heap.size, 0, none⟩)) true ty).run Tryz.prog wr = _ := fun ty => Lib.run_next_end_at wr w.heap.size s pos ty hit hp
      go_wp2_with fail
      go_ret
      exact ⟨by rw [← hok'.out, hb.out]; rfl, hbw⟩
end Go.Proofs.YtffngjgjhialnaaGreatDoor.UtfLaw
