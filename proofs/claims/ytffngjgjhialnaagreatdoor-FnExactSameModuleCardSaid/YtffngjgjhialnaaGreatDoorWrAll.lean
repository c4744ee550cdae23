/-
  The program's writer at the parts of a module: names, what has its length ahead, values; each part.
  Each part of a module, as the program writes it. (Written by my wrparts.py.)
  A section of a module, as the program writes it, at each type of parts. (Written by my secwr.py.)
-/
import Derived.Test.YtffngjgjhialnaaGreatDoorWrBody
import Derived.Test.YtffngjgjhialnaaGreatDoorStrApp
import Derived.Test.YtffngjgjhialnaaGreatDoorModMem
namespace Go.Proofs.YtffngjgjhialnaaGreatDoor.WrMod
open Go.RowKit PlainOps NameCalls PlainNum PlainLeb NumCalls ByteMem PutU ImplPut ImplApp PlainBytes ByteWr InsCalls InsImpl PlainShape InsMem PlainAll EveryIns WrIns WrBody

/-- The writer in block p, since the world w0, in which it held v0. -/
structure WS (p : Nat) (w0 : World) (v0 : Value) (u : World) (v : Value) (bs : List UInt8) : Prop where
  wr : Wr p u v bs
  wa : WApp p w0 u v0 v
theorem WS.refl {p : Nat} {w : World} {v : Value} {bs : List UInt8} (h : Wr p w v bs) : WS p w v w v bs := ⟨h, WApp.refl _ _ _⟩
theorem WS.alloc {p : Nat} {w0 u : World} {v0 v : Value} {bs : List UInt8} (h : WS p w0 v0 u v bs) (o : Obj) : WS p w0 v0 (u.alloc o) v bs := ⟨h.wr.alloc o, h.wa.trans (WApp.alloc p u v o)⟩
theorem WS.cell {p : Nat} {w0 u : World} {v0 v : Value} {bs : List UInt8} (h : WS p w0 v0 u v bs) {q j : Nat} {x : Value} (hc : w0.cell? ⟨q, j, none⟩ = some x) (hp : q ≠ p ∧ some q ≠ v0.ownBlock) : u.cell? ⟨q, j, none⟩ = some x := h.wa.cell hc hp.1 hp.2
theorem WS.to {p : Nat} {w0 u : World} {v0 v : Value} {bs bs' : List UInt8} {Q : Prop} (h : WS p w0 v0 u v bs) (o : Obj) {w : World} (e : w0 = w.alloc o) (hb : bs = bs') (hq : (∃ v', Wr p u v' bs' ∧ WApp p w u v0 v') → Q) : Q := by
  subst e hb
  exact hq ⟨v, h.wr, (WApp.alloc p w v0 o).trans h.wa⟩
abbrev Done (p : Nat) (w0 : World) (v0 : Value) (R : List UInt8) (e : Ending) (w' : World) : Prop := e = .returned (.tuple #[]) ∧ ∃ v', WS p w0 v0 w' v' R
theorem WS.put1 {p : Nat} {w0 u : World} {v0 v : Value} {bs : List UInt8} (h : WS p w0 v0 u v bs) (z : Int) (c : UInt8) (hz : z = (c.toNat : Int)) (g : Nat) (t : TypeId) (hg : g = u.heap.size) (hl : bs.length ≤ 67000000) :
    Calls Tryz.prog 39 #[.pointer (some ⟨p, 0, none⟩), .slice (some ⟨g, 0, none⟩) 1 1] (u.alloc (.cells #[.int .u8 z] t)) (Done p w0 v0 (bs ++ [c])) := by
  subst hz
  exact (WrIns.put1 p u v bs c g t hg h.wr (by omega)).mono fun e w' ⟨he, v', k, a⟩ => ⟨he, v', k, h.wa.trans a⟩
theorem WS.num1 {p : Nat} {w0 u : World} {v0 v : Value} {bs : List UInt8} (h : WS p w0 v0 u v bs) (m : Int) (g : Nat) (t : TypeId) (hg : g = u.heap.size) (hl : bs.length ≤ 67000000) :
    Calls Tryz.prog 100 #[.pointer (some ⟨p, 0, none⟩), .slice (some ⟨g, 0, none⟩) 1 1] (u.alloc (.cells #[.int .i64 m] t)) (Done p w0 v0 (bs ++ uv m)) :=
  (WrIns.num1 p u v bs m g t hg h.wr (by omega)).mono fun e w' ⟨he, v', k, a⟩ => ⟨he, v', k, h.wa.trans a⟩
theorem WS.num2 {p : Nat} {w0 u : World} {v0 v : Value} {bs : List UInt8} (h : WS p w0 v0 u v bs) (m n : Int) (g : Nat) (t : TypeId) (hg : g = u.heap.size) (hl : bs.length ≤ 67000000) :
    Calls Tryz.prog 100 #[.pointer (some ⟨p, 0, none⟩), .slice (some ⟨g, 0, none⟩) 2 2] (u.alloc (.cells #[.int .i64 m, .int .i64 n] t)) (Done p w0 v0 (bs ++ uv m ++ uv n)) :=
  (WrIns.num2 p u v bs m n g t hg h.wr (by omega)).mono fun e w' ⟨he, v', k, a⟩ => ⟨he, v', k, h.wa.trans a⟩
theorem WS.signed {p : Nat} {w0 u : World} {v0 v : Value} {bs : List UInt8} (h : WS p w0 v0 u v bs) (m : Int) (hl : bs.length ≤ 67000000) :
    Calls Tryz.prog 132 #[.pointer (some ⟨p, 0, none⟩), .int .i64 m] u (Done p w0 v0 (bs ++ sv m)) :=
  (ByteWr.signed p u v bs m h.wr (by omega)).mono fun e w' ⟨he, v', k, a⟩ => ⟨he, v', k, h.wa.trans a⟩
theorem WS.put {p : Nat} {w0 u : World} {v0 v : Value} {bs b2 : List UInt8} (h : WS p w0 v0 u v bs) (ad : Addr) (c : Nat) (hl : bs.length ≤ 67000000) (h2 : b2.length ≤ 67000000) (hne : b2 ≠ []) (hn : ∀ j x, (Lib.byteCells b2)[j]? = some x → u.cell? (ad.add j) = some x) :
    Calls Tryz.prog 39 #[.pointer (some ⟨p, 0, none⟩), .slice (some ad) b2.length c] u (Done p w0 v0 (bs ++ b2)) :=
  (ByteWr.put p u v bs b2 ad c h.wr (by omega) hne hn).mono fun e w' ⟨he, v', k, a⟩ => ⟨he, v', k, h.wa.trans a⟩
/-- Two bytes. -/
theorem WS.put2 {p : Nat} {w0 u : World} {v0 v : Value} {bs : List UInt8} (h : WS p w0 v0 u v bs) (z y : Int) (c d : UInt8) (hz : z = (c.toNat : Int)) (hy : y = (d.toNat : Int)) (g : Nat) (t : TypeId) (hg : g = u.heap.size) (hl : bs.length ≤ 67000000) :
    Calls Tryz.prog 39 #[.pointer (some ⟨p, 0, none⟩), .slice (some ⟨g, 0, none⟩) 2 2] (u.alloc (.cells #[.int .u8 z, .int .u8 y] t)) (Done p w0 v0 (bs ++ [c, d])) := by
  subst hz hy hg
  refine (h.alloc (.cells #[.int .u8 (c.toNat : Int), .int .u8 (d.toNat : Int)] t)).put (b2 := [c, d]) ⟨u.heap.size, 0, none⟩ 2 hl (by simp) (by simp) fun j x hj => ?_
  match j with
  | 0 => simp [Lib.byteCells] at hj; subst hj; simp [Addr.add]
  | 1 => simp [Lib.byteCells] at hj; subst hj; simp [Addr.add]
  | j + 2 => simp [Lib.byteCells] at hj
/-- A name: its length, its bytes. -/
def nmB (s : ByteArray) : List UInt8 := uv (s.size : Int) ++ s.data.toList
theorem nmB_is (s : ByteArray) (h : s.size ≤ 1048576) : Lib.uvarint s.size ++ s.data.toList = nmB s := by
  unfold nmB uv
  rw [show ((s.size : Int) % 4294967296).toNat = s.size by omega]
theorem nmB_len (s : ByteArray) : (nmB s).length ≤ 10 + s.size := by
  have := uv_len (s.size : Int)
  unfold nmB
  simp
  omega
/-- The first k names, one behind the other. -/
def nms (l : List ByteArray) : Nat → List UInt8
  | 0 => []
  | k + 1 => nms l k ++ nmB (l.getD k ⟨#[]⟩)
set_option maxHeartbeats 2000000 in
theorem names (p : Nat) (w : World) (v : Value) (bs : List UInt8) (l : List ByteArray) (q c : Nat) (hw : Wr p w v bs) (hq : ∀ j, j < l.length → w.cell? ⟨q, j, none⟩ = some (.string (l.getD j ⟨#[]⟩))) (hqp : q ≠ p ∧ some q ≠ v.ownBlock) (hs : ∀ j, j < l.length → (l.getD j ⟨#[]⟩).size ≤ 1048576) (hl : ∀ k, k ≤ l.length → (bs ++ nms l k).length ≤ 66000000) (hll : l.length ≤ 1000) :
    Calls Tryz.prog 103 #[.pointer (some ⟨p, 0, none⟩), .slice (some ⟨q, 0, none⟩) l.length c] w fun e w' => e = .returned (.tuple #[]) ∧ ∃ v', Wr p w' v' (bs ++ nms l l.length) ∧ WApp p w w' v v' := by
  have hw' : Hid (Wr p w v bs) := hw
  have hq' : Hid (∀ j, j < l.length → w.cell? ⟨q, j, none⟩ = some (.string (l.getD j ⟨#[]⟩))) := hq
  have hap : Hid (q ≠ p ∧ some q ≠ v.ownBlock) := hqp
  have hs' : Hid (∀ j, j < l.length → (l.getD j ⟨#[]⟩).size ≤ 1048576) := hs
  have hl' : Hid (∀ k, k ≤ l.length → (bs ++ nms l k).length ≤ 66000000) := hl
  clear hw hq hqp hs hl
  go_enter Tryz.func103, Tryz.ntmps103
  go_wp2_with fail
  go_loopw [8] (fun vk wr => ∃ (k : Nat) (v' : Value), k ≤ l.length ∧ vk = .int .i64 k ∧ Wr p wr v' (bs ++ nms l k) ∧ WApp p w wr v v') (fun vk _ => l.length - (intOf vk).toNat)
  case atStart => exact ⟨0, v, Nat.zero_le _, rfl, by simpa [nms] using hw'.out, WApp.refl _ _ _⟩
  case round =>
    obtain ⟨k, v1, hk, rfl, hwr, hwa⟩ := hrel
    by_cases hlt : k < l.length
    · have hlt' : (k : Int) < (l.length : Int) := by omega
      have c0 := hwa.cell (hq'.out k hlt) hap.out.1 hap.out.2
      have hpl := hwr.box.lt
      obtain ⟨a, cap, rfl⟩ := own_form hwr.own
      have cb := hwr.box.cell
      have hlen := hl'.out k (by omega)
      have hsk := hs'.out k hlt
      have hA : Hid (Calls Tryz.prog 131 #[.slice a (bs ++ nms l k).length cap, .string (l.getD k ⟨#[]⟩)] wr fun e w' => ∃ v, e = .returned v ∧ PutU.Own (p + 1) w' v (bs ++ nms l (k + 1)) ∧ App wr w' (.slice a (bs ++ nms l k).length cap) v) := by
        have := StrApp.appendNameA a cap (p + 1) (bs ++ nms l k) (l.getD k ⟨#[]⟩) wr hwr.own (by omega) (by omega) hsk
        rw [List.append_assoc, List.append_assoc, nmB_is _ hsk] at this
        exact this
      have hwr' : Hid (Wr p wr (.slice a (bs ++ nms l k).length cap) (bs ++ nms l k)) := hwr
      have hwa' : Hid (WApp p w wr v (.slice a (bs ++ nms l k).length cap)) := hwa
      clear hwr hwa hsk hlen
      generalize l.getD k ⟨#[]⟩ = m at *
      generalize hR : bs ++ nms l (k + 1) = R at *
      generalize (bs ++ nms l k).length = N at *
      have hR' : Hid (bs ++ nms l (k + 1) = R) := hR
      clear hR
      go_wp2_with (go_at_call 131; refine hA.out.mono ?_; rintro e w1 ⟨v1, rfl, ho1, ha1⟩; obtain ⟨a1, cap1, rfl⟩ := own_form ho1; have hown : Hid (PutU.Own (p + 1) w1 (.slice a1 R.length cap1) R) := ho1; have happ : Hid (App wr w1 (.slice a N cap) (.slice a1 R.length cap1)) := ha1; have hb1 := hwr'.out.box.kept ha1.grow hwr'.out.not; have hc1 := hb1.cell; have hf1 := hb1.frozen; clear ho1 ha1 hb1)
      go_roundw
      case rel =>
        obtain ⟨h1, h2⟩ := hwr'.out.stored hown.out happ.out
        exact ⟨k + 1, _, by omega, by go_num, by rw [hR'.out]; exact h1, hwa'.out.trans h2⟩
      case measure => simp [intOf]; omega
    · obtain rfl : k = l.length := by omega
      have hwr' : Hid (Wr p wr v1 (bs ++ nms l l.length)) := hwr
      have hwa' : Hid (WApp p w wr v v1) := hwa
      clear hwr hwa
      go_wp2_with fail
      go_end0
      exact ⟨rfl, _, hwr'.out, hwa'.out⟩
theorem WS.name1 {p : Nat} {w0 u : World} {v0 v : Value} {bs : List UInt8} (h : WS p w0 v0 u v bs) (s : ByteArray) (g : Nat) (t : TypeId) (hg : g = u.heap.size) (hs : s.size ≤ 1048576) (hl : bs.length ≤ 60000000) :
    Calls Tryz.prog 103 #[.pointer (some ⟨p, 0, none⟩), .slice (some ⟨g, 0, none⟩) 1 1] (u.alloc (.cells #[.string s] t)) (Done p w0 v0 (bs ++ nmB s)) := by
  subst hg
  have hlen := nmB_len s
  refine (names p _ v bs [s] u.heap.size 1 (h.wr.alloc _) (fun j hj => ?_) (h.wr.past (Nat.le_refl _)) (fun j hj => ?_) (fun k hk => ?_) (by simp)).mono fun e w' ⟨he, v', k, a⟩ => ⟨he, v', by simpa [nms] using k, (h.wa.trans (WApp.alloc p u v _)).trans a⟩
  · obtain rfl : j = 0 := by simpa using hj
    simp
  · obtain rfl : j = 0 := by simpa using hj
    simpa using hs
  · have : k = 0 ∨ k = 1 := by simp at hk; omega
    rcases this with rfl | rfl <;> simp [nms] <;> omega
theorem WS.name2 {p : Nat} {w0 u : World} {v0 v : Value} {bs : List UInt8} (h : WS p w0 v0 u v bs) (s s' : ByteArray) (g : Nat) (t : TypeId) (hg : g = u.heap.size) (hs : s.size ≤ 1048576) (hs' : s'.size ≤ 1048576) (hl : bs.length ≤ 60000000) :
    Calls Tryz.prog 103 #[.pointer (some ⟨p, 0, none⟩), .slice (some ⟨g, 0, none⟩) 2 2] (u.alloc (.cells #[.string s, .string s'] t)) (Done p w0 v0 (bs ++ nmB s ++ nmB s')) := by
  subst hg
  have hlen := nmB_len s
  have hlen' := nmB_len s'
  refine (names p _ v bs [s, s'] u.heap.size 2 (h.wr.alloc _) (fun j hj => ?_) (h.wr.past (Nat.le_refl _)) (fun j hj => ?_) (fun k hk => ?_) (by simp)).mono fun e w' ⟨he, v', k, a⟩ => ⟨he, v', by simpa [nms] using k, (h.wa.trans (WApp.alloc p u v _)).trans a⟩
  · have : j = 0 ∨ j = 1 := by simp at hj; omega
    rcases this with rfl | rfl <;> simp
  · have : j = 0 ∨ j = 1 := by simp at hj; omega
    rcases this with rfl | rfl
    · simpa using hs
    · simpa using hs'
  · have : k = 0 ∨ k = 1 ∨ k = 2 := by simp at hk; omega
    rcases this with rfl | rfl | rfl <;> simp [nms] <;> omega
/-- A number of values, and each of them. -/
def vsB (n : Int) (k : Nat) : List UInt8 := uv n ++ List.replicate k 127
theorem vsB_step (n : Int) (k : Nat) : vsB n k ++ [127] = vsB n (k + 1) := by unfold vsB; rw [List.append_assoc, List.replicate_succ']
theorem vsB_len (n : Int) (k : Nat) : (vsB n k).length ≤ 10 + k := by
  have := uv_len n
  unfold vsB
  simp
  omega
set_option maxHeartbeats 2000000 in
theorem values (p : Nat) (w0 w : World) (v0 v : Value) (bs : List UInt8) (n : Nat) (hn : n ≤ 1048576) (h : WS p w0 v0 w v bs) (hl : bs.length ≤ 60000000) :
    Calls Tryz.prog 102 #[.pointer (some ⟨p, 0, none⟩), .int .i64 (n : Int)] w (Done p w0 v0 (bs ++ vsB (n : Int) n)) := by
  have h' : Hid (WS p w0 v0 w v bs) := h
  have hlu := uv_len (n : Int)
  clear h
  go_enter Tryz.func102, Tryz.ntmps102
  go_wp2_with (go_at_call 100; refine (h'.out.num1 _ _ _ rfl (by omega)).mono ?_; rintro e w1 ⟨rfl, v1, k1⟩; have k1' : Hid (WS p w0 v0 w1 v1 (bs ++ uv (n : Int))) := k1; clear k1)
  go_loopw [9] (fun vk wr => ∃ (k : Nat) (v' : Value), k ≤ n ∧ vk = .int .i64 k ∧ WS p w0 v0 wr v' (bs ++ vsB n k)) (fun vk _ => n - (intOf vk).toNat)
  case atStart => exact ⟨0, v1, Nat.zero_le _, rfl, by simpa [vsB] using k1'.out⟩
  case round =>
    obtain ⟨k, v2, hk, rfl, hws⟩ := hrel
    have hws' : Hid (WS p w0 v0 wr v2 (bs ++ vsB n k)) := hws
    have hlk := vsB_len n k
    clear hws
    by_cases hlt : k < n
    · have hlt' : (k : Int) < (n : Int) := by omega
      go_wp2_with (go_at_call 39; refine (hws'.out.put1 _ 127 rfl _ _ rfl (by simp only [List.length_append]; omega)).mono ?_; rintro e w3 ⟨rfl, v3, k3⟩; have k3' : Hid (WS p w0 v0 w3 v3 (bs ++ vsB n k ++ [127])) := k3; clear k3)
      go_roundw
      case rel => exact ⟨k + 1, v3, by omega, by go_num, by rw [← vsB_step, ← List.append_assoc]; exact k3'.out⟩
      case measure => simp [intOf]; omega
    · obtain rfl : k = n := by omega
      go_wp2_with fail
      go_end0
      exact ⟨rfl, _, hws'.out⟩
theorem start (p : Nat) (w0 w : World) (v0 v : Value) (bs : List UInt8) (n : Int) (h : WS p w0 v0 w v bs) (hl : bs.length ≤ 60000000) :
    Calls Tryz.prog 105 #[.pointer (some ⟨p, 0, none⟩), .int .i64 n] w (Done p w0 v0 (bs ++ ([65] ++ sv n ++ [11]))) := by
  have h' : Hid (WS p w0 v0 w v bs) := h
  have hls := sv_len n
  clear h
  go_enter Tryz.func105, Tryz.ntmps105
  go_wp2_with (first | (go_at_call 39; refine (h'.out.put1 _ 65 rfl _ _ rfl (by omega)).mono ?_; rintro e w1 ⟨rfl, v1, k1⟩; clear h') | (go_at_call 132; refine (k1.signed _ (by simp; omega)).mono ?_; rintro e w2 ⟨rfl, v2, k2⟩; clear k1) | (go_at_call 39; refine (k2.put1 _ 11 rfl _ _ rfl (by simp; omega)).mono ?_; rintro e w3 ⟨rfl, v3, k3⟩))
  go_end0
  exact ⟨rfl, v3, by simpa using k3⟩
set_option maxHeartbeats 2000000 in
/-- What is in another writer, its length ahead. -/
theorem sized (p : Nat) (w : World) (v : Value) (bs b2 : List UInt8) (g c : Nat) (hne : b2 ≠ []) (hw : Wr p w v bs) (hb : PutULaw.Blk w g b2) (hg : g ≠ p ∧ some g ≠ v.ownBlock) (hl : bs.length ≤ 60000000) (h2 : b2.length ≤ 60000000) :
    Calls Tryz.prog 101 #[.pointer (some ⟨p, 0, none⟩), .agg #[.slice (some ⟨g, 0, none⟩) b2.length c]] w fun e w' => e = .returned (.tuple #[]) ∧ ∃ v', Wr p w' v' (bs ++ (uv (b2.length : Int) ++ b2)) ∧ WApp p w w' v v' := by
  have h0 : Hid (WS p (w.alloc (.cells #[.slice (some ⟨g, 0, none⟩) b2.length c] 73)) v (w.alloc (.cells #[.slice (some ⟨g, 0, none⟩) b2.length c] 73)) v bs) := WS.refl (hw.alloc _)
  have hcb : (w.alloc (.cells #[.slice (some ⟨g, 0, none⟩) b2.length c] 73)).cell? ⟨w.heap.size, 0, none⟩ = some (.slice (some ⟨g, 0, none⟩) b2.length c) := by simp
  have hpast := hw.past (Nat.le_refl _)
  have hall : Hid (∀ j x, (Lib.byteCells b2)[j]? = some x → (w.alloc (.cells #[.slice (some ⟨g, 0, none⟩) b2.length c] 73)).cell? ((⟨g, 0, none⟩ : Addr).add j) = some x) := PutU.news_of ((hb.below ((Below.refl _ _).alloc (Nat.le_refl _) _)).rd)
  have hlu := uv_len (b2.length : Int)
  have hcell : Hid (∀ u v' bs', WS p (w.alloc (.cells #[.slice (some ⟨g, 0, none⟩) b2.length c] 73)) v u v' bs' → u.cell? ⟨w.heap.size, 0, none⟩ = some (.slice (some ⟨g, 0, none⟩) b2.length c) ∧ ∀ j x, (Lib.byteCells b2)[j]? = some x → u.cell? ((⟨g, 0, none⟩ : Addr).add j) = some x) := fun u v' bs' hu =>
    ⟨hu.cell hcb hpast, fun j x hj => by
      have := hall.out j x hj
      have ea : (⟨g, 0, none⟩ : Addr).add j = ⟨g, j, none⟩ := by cases j <;> simp [Addr.add]
      rw [ea] at this ⊢
      exact hu.cell this hg⟩
  clear hw hb hcb hall
  generalize hN : b2.length = N at *
  have hN' : Hid (b2.length = N) := hN
  have hput : Hid (∀ u v' bs', WS p (w.alloc (.cells #[.slice (some ⟨g, 0, none⟩) N c] 73)) v u v' bs' → bs'.length ≤ 67000000 → Calls Tryz.prog 39 #[.pointer (some ⟨p, 0, none⟩), .slice (some ⟨g, 0, none⟩) N c] u (Done p (w.alloc (.cells #[.slice (some ⟨g, 0, none⟩) N c] 73)) v (bs' ++ b2))) := fun u v' bs' hu hb' => by
    have := hu.put (b2 := b2) ⟨g, 0, none⟩ c hb' (by rw [hN]; omega) hne (hcell.out u v' bs' hu).2
    rw [hN] at this
    exact this
  clear hN
  go_enter Tryz.func101, Tryz.ntmps101
  go_wp2_with (first | (go_at_call 100; refine (h0.out.num1 _ _ _ (by simp) (by omega)).mono ?_; rintro e w1 ⟨rfl, v1, k1⟩; have c1 := (hcell.out _ _ _ k1).1; have k1' : Hid (WS p (w.alloc (.cells #[.slice (some ⟨g, 0, none⟩) N c] 73)) v w1 v1 (bs ++ uv (N : Int))) := k1; clear k1 h0) | (go_at_call 39; refine (hput.out _ _ _ k1'.out (by simp only [List.length_append]; omega)).mono ?_; rintro e w2 ⟨rfl, v2, k2⟩))
  go_end0
  exact ⟨rfl, k2.to _ rfl (List.append_assoc _ _ _) id⟩
end Go.Proofs.YtffngjgjhialnaaGreatDoor.WrMod
namespace Go.Proofs.YtffngjgjhialnaaGreatDoor.WrParts
open Go.RowKit PlainOps NameCalls PlainNum PlainLeb NumCalls ByteMem PutU ImplPut ImplApp PlainBytes ByteWr InsCalls InsImpl PlainShape InsMem PlainAll EveryIns WrIns WrBody WrMod

abbrev Wrote (p : Nat) (w : World) (v : Value) (R : List UInt8) (e : Ending) (w' : World) : Prop := e = .returned (.tuple #[]) ∧ ∃ v', Wr p w' v' R ∧ WApp p w w' v v'
theorem box2 {p : Nat} {w u : World} {v v' : Value} {bs bs' : List UInt8} {x y : Value} {t : TypeId} (hw : Wr p w v bs) (h : WS p (w.alloc (.cells #[x, y] t)) v u v' bs') : u.cell? ⟨w.heap.size, 0, none⟩ = some x ∧ u.cell? ⟨w.heap.size, 1, none⟩ = some y :=
  ⟨h.cell (by simp) (hw.past (Nat.le_refl _)), h.cell (by simp) (hw.past (Nat.le_refl _))⟩
theorem box3 {p : Nat} {w u : World} {v v' : Value} {bs bs' : List UInt8} {x y z : Value} {t : TypeId} (hw : Wr p w v bs) (h : WS p (w.alloc (.cells #[x, y, z] t)) v u v' bs') : u.cell? ⟨w.heap.size, 0, none⟩ = some x ∧ u.cell? ⟨w.heap.size, 1, none⟩ = some y ∧ u.cell? ⟨w.heap.size, 2, none⟩ = some z :=
  ⟨h.cell (by simp) (hw.past (Nat.le_refl _)), h.cell (by simp) (hw.past (Nat.le_refl _)), h.cell (by simp) (hw.past (Nat.le_refl _))⟩
def sigB (a b : Nat) : List UInt8 := [96] ++ vsB a a ++ vsB b b
def impB (m n : ByteArray) (s : Int) : List UInt8 := nmB m ++ nmB n ++ [0] ++ uv s
def memB (p m : Int) : List UInt8 := if m = -1 then [0] ++ uv p else [1] ++ (uv p ++ uv m)
def ynB (b : Bool) : UInt8 := if b then 1 else 0
def glB (b : Bool) (i : Int) : List UInt8 := [127, ynB b] ++ ([65] ++ sv i ++ [11])
def exB (s : ByteArray) (k i : Int) : List UInt8 := nmB s ++ [by1 k] ++ uv i
def locB (x : Int) : List UInt8 := if x = 0 then uv 0 else uv 1 ++ uv x ++ [127]
def inB (x : Int) (l : List I3) : List UInt8 := locB x ++ bodyB l l.length ++ [11]
def fbB (x : Int) (l : List I3) : List UInt8 := uv ((inB x l).length : Int) ++ inB x l
def daB (p : Int) (b : List UInt8) : List UInt8 := [0] ++ ([65] ++ sv p ++ [11]) ++ uv (b.length : Int) ++ b
theorem locB_len (x : Int) : (locB x).length ≤ 21 := by
  have h1 := uv_len 0
  have h2 := uv_len 1
  have h3 := uv_len x
  unfold locB
  split <;> simp <;> omega
theorem inB_len (x : Int) (l : List I3) : (inB x l).length ≤ 22 + 21 * l.length := by
  have h1 := locB_len x
  have h2 := bodyB_len l l.length
  unfold inB
  simp
  omega
theorem inB_ne (x : Int) (l : List I3) : inB x l ≠ [] := by unfold inB; simp
set_option maxHeartbeats 2000000 in
theorem putSig (p : Nat) (w : World) (v : Value) (bs : List UInt8) (a b : Nat) (hw : Wr p w v bs) (hl : bs.length ≤ 50000000) (ha : a ≤ 1048576) (hb : b ≤ 1048576) :
    Calls Tryz.prog 41 #[.pointer (some ⟨p, 0, none⟩), .agg #[.int .i64 (a : Int), .int .i64 (b : Int)]] w (Wrote p w v (bs ++ sigB a b)) := by
  have hw' : Hid (Wr p w v bs) := hw
  have h0 : Hid (WS p (w.alloc (.cells #[.int .i64 (a : Int), .int .i64 (b : Int)] 77)) v (w.alloc (.cells #[.int .i64 (a : Int), .int .i64 (b : Int)] 77)) v bs) := WS.refl (hw.alloc _)
  clear hw
  have l1 := vsB_len a a
  have l2 := vsB_len b b
  go_enter Tryz.func41, Tryz.ntmps41
  go_wp2_with (first | (go_at_call 39; refine (h0.out.put1 _ 96 rfl _ _ (by first | rfl | simp) (by first | omega | (simp; omega))).mono ?_; rintro e w1 ⟨rfl, v1, k1⟩; obtain ⟨_, _⟩ := box2 hw'.out k1; clear h0) | (go_at_call 102; refine (values p _ _ _ _ _ a ha k1 (by first | omega | (simp; omega))).mono ?_; rintro e w2 ⟨rfl, v2, k2⟩; obtain ⟨_, _⟩ := box2 hw'.out k2; clear k1) | (go_at_call 102; refine (values p _ _ _ _ _ b hb k2 (by first | omega | (simp; omega))).mono ?_; rintro e w3 ⟨rfl, v3, k3⟩; clear k2))
  go_end0
  exact ⟨rfl, k3.to _ rfl (by simp [sigB]) id⟩
set_option maxHeartbeats 2000000 in
theorem putImport (p : Nat) (w : World) (v : Value) (bs : List UInt8) (m n : ByteArray) (s : Int) (hw : Wr p w v bs) (hl : bs.length ≤ 50000000) (hm : m.size ≤ 1048576) (hn : n.size ≤ 1048576) :
    Calls Tryz.prog 43 #[.pointer (some ⟨p, 0, none⟩), .agg #[.string m, .string n, .int .i64 s]] w (Wrote p w v (bs ++ impB m n s)) := by
  have hw' : Hid (Wr p w v bs) := hw
  have h0 : Hid (WS p (w.alloc (.cells #[.string m, .string n, .int .i64 s] 82)) v (w.alloc (.cells #[.string m, .string n, .int .i64 s] 82)) v bs) := WS.refl (hw.alloc _)
  clear hw
  have l1 := nmB_len m
  have l2 := nmB_len n
  have l3 := uv_len s
  go_enter Tryz.func43, Tryz.ntmps43
  go_wp2_with (first | (go_at_call 103; refine (h0.out.name2 m n _ _ (by first | rfl | simp) hm hn (by first | omega | (simp; omega))).mono ?_; rintro e w1 ⟨rfl, v1, k1⟩; obtain ⟨_, _, _⟩ := box3 hw'.out k1; clear h0) | (go_at_call 39; refine (k1.put1 _ 0 rfl _ _ (by first | rfl | simp) (by first | omega | (simp; omega))).mono ?_; rintro e w2 ⟨rfl, v2, k2⟩; obtain ⟨_, _, _⟩ := box3 hw'.out k2; clear k1) | (go_at_call 100; refine (k2.num1 s _ _ (by first | rfl | simp) (by first | omega | (simp; omega))).mono ?_; rintro e w3 ⟨rfl, v3, k3⟩; clear k2))
  go_end0
  exact ⟨rfl, k3.to _ rfl (by simp [impB]) id⟩
set_option maxHeartbeats 2000000 in
theorem putFuncSig (p : Nat) (w : World) (v : Value) (bs : List UInt8) (s x : Int) (a : Option Addr) (n c : Nat) (hw : Wr p w v bs) (hl : bs.length ≤ 50000000) :
    Calls Tryz.prog 45 #[.pointer (some ⟨p, 0, none⟩), .agg #[.int .i64 s, .int .i64 x, .slice a n c]] w (Wrote p w v (bs ++ uv s)) := by
  have hw' : Hid (Wr p w v bs) := hw
  have h0 : Hid (WS p (w.alloc (.cells #[.int .i64 s, .int .i64 x, .slice a n c] 87)) v (w.alloc (.cells #[.int .i64 s, .int .i64 x, .slice a n c] 87)) v bs) := WS.refl (hw.alloc _)
  clear hw
  have l1 := uv_len s
  go_enter Tryz.func45, Tryz.ntmps45
  go_wp2_with (first | (go_at_call 100; refine (h0.out.num1 s _ _ (by first | rfl | simp) (by first | omega | (simp; omega))).mono ?_; rintro e w1 ⟨rfl, v1, k1⟩; clear h0))
  go_end0
  exact ⟨rfl, k1.to _ rfl (by rfl) id⟩
theorem yesOrNo (b : Bool) (w : World) : Calls Tryz.prog 104 #[.bool b] w fun e w' => e = .returned (.int .u8 ((ynB b).toNat : Int)) ∧ w = w' := by
  cases b <;> go_enter Tryz.func104, Tryz.ntmps104
  · go_wp2_with fail
    go_ret
    exact ⟨rfl, rfl⟩
  · go_wp2_with fail
    go_ret
    exact ⟨rfl, rfl⟩
set_option maxHeartbeats 2000000 in
theorem putGlobal (p : Nat) (w : World) (v : Value) (bs : List UInt8) (b : Bool) (i : Int) (hw : Wr p w v bs) (hl : bs.length ≤ 50000000) :
    Calls Tryz.prog 50 #[.pointer (some ⟨p, 0, none⟩), .agg #[.bool b, .int .i64 i]] w (Wrote p w v (bs ++ glB b i)) := by
  have hw' : Hid (Wr p w v bs) := hw
  have h0 : Hid (WS p (w.alloc (.cells #[.bool b, .int .i64 i] 97)) v (w.alloc (.cells #[.bool b, .int .i64 i] 97)) v bs) := WS.refl (hw.alloc _)
  clear hw
  have l1 := sv_len i
  go_enter Tryz.func50, Tryz.ntmps50
  go_wp2_with (first | (go_at_call 104; refine (yesOrNo _ _).mono ?_; rintro e w9 ⟨rfl, rfl⟩) | (go_at_call 39; refine (h0.out.put2 _ _ 127 (ynB b) rfl rfl _ _ (by first | rfl | simp) (by first | omega | (simp; omega))).mono ?_; rintro e w1 ⟨rfl, v1, k1⟩; obtain ⟨_, _⟩ := box2 hw'.out k1; clear h0) | (go_at_call 105; refine (WrMod.start p _ _ _ _ _ i k1 (by first | omega | (simp; omega))).mono ?_; rintro e w2 ⟨rfl, v2, k2⟩; clear k1))
  go_end0
  exact ⟨rfl, k2.to _ rfl (by simp [glB]) id⟩
set_option maxHeartbeats 2000000 in
theorem putExport (p : Nat) (w : World) (v : Value) (bs : List UInt8) (s : ByteArray) (k i : Int) (hw : Wr p w v bs) (hl : bs.length ≤ 50000000) (hs : s.size ≤ 1048576) :
    Calls Tryz.prog 52 #[.pointer (some ⟨p, 0, none⟩), .agg #[.string s, .int .i64 k, .int .i64 i]] w (Wrote p w v (bs ++ exB s k i)) := by
  have hw' : Hid (Wr p w v bs) := hw
  have h0 : Hid (WS p (w.alloc (.cells #[.string s, .int .i64 k, .int .i64 i] 101)) v (w.alloc (.cells #[.string s, .int .i64 k, .int .i64 i] 101)) v bs) := WS.refl (hw.alloc _)
  clear hw
  have l1 := nmB_len s
  have l3 := uv_len i
  have hu2 := (by1_is k).symm
  have hu1 : IntKind.u8.wrap k = ((by1 k).toNat : Int) := by rw [IntKind.wrap_u8]; exact hu2
  go_enter Tryz.func52, Tryz.ntmps52
  go_wp2_with (first | (go_at_call 103; refine (h0.out.name1 s _ _ (by first | rfl | simp) hs (by first | omega | (simp; omega))).mono ?_; rintro e w1 ⟨rfl, v1, k1⟩; obtain ⟨_, _, _⟩ := box3 hw'.out k1; clear h0) | (go_at_call 39; refine (k1.put1 _ (by1 k) (by first | rfl | exact hu2 | exact hu1) _ _ (by first | rfl | simp) (by first | omega | (simp; omega))).mono ?_; rintro e w2 ⟨rfl, v2, k2⟩; obtain ⟨_, _, _⟩ := box3 hw'.out k2; clear k1) | (go_at_call 100; refine (k2.num1 i _ _ (by first | rfl | simp) (by first | omega | (simp; omega))).mono ?_; rintro e w3 ⟨rfl, v3, k3⟩; clear k2))
  go_end0
  exact ⟨rfl, k3.to _ rfl (by simp [exB]) id⟩
theorem putMemory (p : Nat) (w : World) (v : Value) (bs : List UInt8) (x m : Int) (hw : Wr p w v bs) (hl : bs.length ≤ 50000000) :
    Calls Tryz.prog 48 #[.pointer (some ⟨p, 0, none⟩), .agg #[.int .i64 x, .int .i64 m]] w (Wrote p w v (bs ++ memB x m)) := by
  have hw' : Hid (Wr p w v bs) := hw
  have h0 : Hid (WS p (w.alloc (.cells #[.int .i64 x, .int .i64 m] 91)) v (w.alloc (.cells #[.int .i64 x, .int .i64 m] 91)) v bs) := WS.refl (hw.alloc _)
  have l1 := uv_len x
  clear hw
  by_cases hm : m = -1
  · subst hm
    go_enter Tryz.func48, Tryz.ntmps48
    go_wp2_with (first | (go_at_call 39; refine (h0.out.put1 _ 0 rfl _ _ (by first | rfl | simp) (by omega)).mono ?_; rintro e w1 ⟨rfl, v1, k1⟩; obtain ⟨_, _⟩ := box2 hw'.out k1; clear h0) | (go_at_call 100; refine (k1.num1 x _ _ (by first | rfl | simp) (by simp; omega)).mono ?_; rintro e w2 ⟨rfl, v2, k2⟩))
    refine bodyPost_ret (results_none rfl _ _ _) rfl ?_
    exact ⟨rfl, k2.to _ rfl (by simp [memB]) id⟩
  · have e1 : Hid (memB x m = [1] ++ (uv x ++ uv m)) := if_neg hm
    have d1 : (m == -1) = false := beq_eq_false_iff_ne.2 hm
    clear hm
    go_enter Tryz.func48, Tryz.ntmps48
    go_wp2_with (first | (go_at_call 39; refine (h0.out.put1 _ 1 rfl _ _ (by first | rfl | simp) (by omega)).mono ?_; rintro e w1 ⟨rfl, v1, k1⟩; obtain ⟨_, _⟩ := box2 hw'.out k1; clear h0) | (go_at_call 100; refine (k1.num2 x m _ _ (by first | rfl | simp) (by simp; omega)).mono ?_; rintro e w2 ⟨rfl, v2, k2⟩))
    go_end0
    exact ⟨rfl, k2.to _ rfl (by rw [e1.out]; simp) id⟩
theorem putLocals (p : Nat) (w0 w : World) (v0 v : Value) (bs : List UInt8) (x : Int) (h : WS p w0 v0 w v bs) (hl : bs.length ≤ 50000000) :
    Calls Tryz.prog 106 #[.pointer (some ⟨p, 0, none⟩), .int .i64 x] w (Done p w0 v0 (bs ++ locB x)) := by
  have h0 : Hid (WS p w0 v0 w v bs) := h
  have l1 := uv_len x
  have l2 := uv_len 1
  clear h
  by_cases hx : x = 0
  · subst hx
    go_enter Tryz.func106, Tryz.ntmps106
    go_wp2_with (go_at_call 100; refine (h0.out.num1 0 _ _ (by first | rfl | simp) (by omega)).mono ?_; rintro e w2 ⟨rfl, v2, k2⟩)
    refine bodyPost_ret (results_none rfl _ _ _) rfl ?_
    exact ⟨rfl, v2, k2⟩
  · have e1 : Hid (locB x = uv 1 ++ uv x ++ [127]) := if_neg hx
    have d1 : (x == 0) = false := beq_eq_false_iff_ne.2 hx
    clear hx
    go_enter Tryz.func106, Tryz.ntmps106
    go_wp2_with (first | (go_at_call 100; refine (h0.out.num2 1 x _ _ (by first | rfl | simp) (by omega)).mono ?_; rintro e w1 ⟨rfl, v1, k1⟩; clear h0) | (go_at_call 39; refine (k1.put1 _ 127 rfl _ _ (by first | rfl | simp) (by simp; omega)).mono ?_; rintro e w2 ⟨rfl, v2, k2⟩))
    go_end0
    exact ⟨rfl, v2, by rw [e1.out]; simpa using k2⟩
/-- Bytes of whatever number that can be read are put. -/
theorem putAny (p : Nat) (w0 w : World) (v0 v : Value) (bs b2 : List UInt8) (ad : Addr) (c : Nat) (h : WS p w0 v0 w v bs) (hl : bs.length ≤ 67000000) (h2 : b2.length ≤ 67000000) (hn : ∀ j u, (Lib.byteCells b2)[j]? = some u → w.cell? (ad.add j) = some u) :
    Calls Tryz.prog 39 #[.pointer (some ⟨p, 0, none⟩), .slice (some ad) b2.length c] w (Done p w0 v0 (bs ++ b2)) := by
  by_cases hne : b2 = []
  · subst hne
    obtain ⟨i0, hi, hz0, hz1, hz2⟩ := info_parts info5
    obtain ⟨hw, hwa⟩ := h
    have hc := hw.box.cell
    have hlt := hw.box.lt
    have hw' : Hid (Wr p w v bs) := hw
    have hwa' : Hid (WApp p w0 w v0 v) := hwa
    clear hw hwa hn
    simp only [List.length_nil]
    go_enter Tryz.func39, Tryz.ntmps39
    go_wp2_with (at_builtin; refine wpList_append_own_at _ rfl _ _ 31 rfl (p + 1) 5 i0 (.int .u8 0) 1 1 Tryz.underlying31 hi hz0 hz1 hz2 rfl (by decide) v bs.length (Lib.byteCells bs) rfl hw'.out.own ad 0 c [] rfl ?d1 ?d2 ?d3 ?d4 ?d5 ?d6 ?_)
    case d1 => rfl
    case d2 => intro j u hj; simp at hj
    case d3 => intro u hu; simp at hu
    case d4 => unfold maxLen; omega
    case d5 => omega
    case d6 => omega
    intro v' w1 hown0 hgrow0 _ hat0
    have hown1 : PutU.Own (p + 1) w1 v' bs := by simpa [PutU.Own] using hown0
    obtain ⟨a1, cap1, rfl⟩ := own_form hown1
    have happ : Hid (App w w1 v (.slice a1 bs.length cap1)) := ⟨hgrow0, by
      rcases hat0 with a | a
      · exact .inl a
      · exact .inr fun g hg => by rw [a] at hg; injection hg; omega⟩
    have hown : Hid (PutU.Own (p + 1) w1 (.slice a1 bs.length cap1) bs) := hown1
    have hb1 := hw'.out.box.kept hgrow0 hw'.out.not
    have hc1 := hb1.cell
    have hf1 := hb1.frozen
    clear hown0 hown1 hgrow0 hat0 hb1
    go_wp2_with fail
    go_end0
    obtain ⟨h1, h2⟩ := hw'.out.stored hown.out happ.out
    exact ⟨rfl, _, by simpa using h1, hwa'.out.trans h2⟩
  · exact h.put ad c hl h2 hne hn
set_option maxHeartbeats 2000000 in
theorem putData (p : Nat) (w : World) (v : Value) (bs b2 : List UInt8) (x : Int) (g off c : Nat) (hw : Wr p w v bs) (hl : bs.length ≤ 50000000) (h2 : b2.length ≤ 1048576) (hr : PutU.RdB w (some ⟨g, off, none⟩) b2) (hg : b2 ≠ [] → g ≠ p ∧ some g ≠ v.ownBlock) :
    Calls Tryz.prog 55 #[.pointer (some ⟨p, 0, none⟩), .agg #[.int .i64 x, .slice (some ⟨g, off, none⟩) b2.length c]] w (Wrote p w v (bs ++ daB x b2)) := by
  have hw' : Hid (Wr p w v bs) := hw
  have h0 : Hid (WS p (w.alloc (.cells #[.int .i64 x, .slice (some ⟨g, off, none⟩) b2.length c] 105)) v (w.alloc (.cells #[.int .i64 x, .slice (some ⟨g, off, none⟩) b2.length c] 105)) v bs) := WS.refl (hw.alloc _)
  have l1 := sv_len x
  have l2 := uv_len (b2.length : Int)
  have hall : Hid (∀ j y, (Lib.byteCells b2)[j]? = some y → (w.alloc (.cells #[.int .i64 x, .slice (some ⟨g, off, none⟩) b2.length c] 105)).cell? ((⟨g, off, none⟩ : Addr).add j) = some y) := PutU.news_of (hr.later ((Below.refl _ _).alloc (Nat.le_refl _) _))
  have hcell : Hid (∀ u v' bs', WS p (w.alloc (.cells #[.int .i64 x, .slice (some ⟨g, off, none⟩) b2.length c] 105)) v u v' bs' → ∀ j y, (Lib.byteCells b2)[j]? = some y → u.cell? ((⟨g, off, none⟩ : Addr).add j) = some y) := fun u v' bs' hu j y hj => by
    have := hall.out j y hj
    have hne : b2 ≠ [] := fun e => by subst e; simp [Lib.byteCells] at hj
    have ea : (⟨g, off, none⟩ : Addr).add j = ⟨g, off + j, none⟩ := by cases j <;> simp [Addr.add]
    rw [ea] at this ⊢
    exact hu.cell this (hg hne)
  clear hw hr hg hall
  generalize hN : b2.length = N at *
  have hput : Hid (∀ u v' bs', WS p (w.alloc (.cells #[.int .i64 x, .slice (some ⟨g, off, none⟩) N c] 105)) v u v' bs' → bs'.length ≤ 67000000 → Calls Tryz.prog 39 #[.pointer (some ⟨p, 0, none⟩), .slice (some ⟨g, off, none⟩) N c] u (Done p (w.alloc (.cells #[.int .i64 x, .slice (some ⟨g, off, none⟩) N c] 105)) v (bs' ++ b2))) := fun u v' bs' hu hb' => by
    have := putAny p _ u _ v' bs' b2 ⟨g, off, none⟩ c hu hb' (by rw [hN]; omega) (hcell.out u v' bs' hu)
    rw [hN] at this
    exact this
  have hN' : Hid (daB x b2 = [0] ++ ([65] ++ sv x ++ [11]) ++ uv (N : Int) ++ b2) := by show _ = _; unfold daB; rw [hN]
  clear hN hcell
  go_enter Tryz.func55, Tryz.ntmps55
  go_wp2_with (first | (go_at_call 39; refine (h0.out.put1 _ 0 rfl _ _ (by first | rfl | simp) (by omega)).mono ?_; rintro e w1 ⟨rfl, v1, k1⟩; obtain ⟨_, _⟩ := box2 hw'.out k1; clear h0) | (go_at_call 105; refine (WrMod.start p _ _ _ _ _ x k1 (by simp; omega)).mono ?_; rintro e w2 ⟨rfl, v2, k2⟩; obtain ⟨_, _⟩ := box2 hw'.out k2; clear k1) | (go_at_call 100; refine (k2.num1 (N : Int) _ _ (by first | rfl | simp) (by simp; omega)).mono ?_; rintro e w3 ⟨rfl, v3, k3⟩; obtain ⟨_, _⟩ := box2 hw'.out k3; clear k2) | (go_at_call 39; refine (hput.out _ _ _ k3 (by simp; omega)).mono ?_; rintro e w4 ⟨rfl, v4, k4⟩))
  go_end0
  exact ⟨rfl, k4.to _ rfl (by rw [hN'.out]; simp) id⟩
/-- A writer stays as it is while another one, newer, is written to. -/
theorem Wr.aside {p q : Nat} {w w' : World} {v vq : Value} {bs : List UInt8} (h : Wr p w v bs) (a : WApp q w w' (.slice none 0 0) vq) (hq : some q ≠ v.ownBlock) (hpq : p ≠ q) : Wr p w' v bs := by
  have hg : w.grownBy w' (some q) := ⟨a.os, a.tape, a.output, a.size, fun k hk hne => a.block k hk (fun e => hne (by rw [e])) (by simp [Value.ownBlock])⟩
  refine ⟨h.box.kept hg (fun e => hpq (by injection e)), h.own.1, ?_⟩
  rcases h.own.2 with h0 | ⟨g, cap, cur, hv, hb, hh, r⟩
  · exact .inl h0
  · refine .inr ⟨g, cap, cur, hv, hb, ?_, r⟩
    have hlt : g < w.heap.size := (Array.getElem?_eq_some_iff.1 hh).1
    rw [hg.block g hlt (fun e => hq (by rw [hv]; simp [Value.ownBlock]; injection e with e; exact e.symm))]
    exact hh
set_option maxHeartbeats 4000000 in
theorem putFuncBody (p : Nat) (w0 w : World) (v : Value) (bs : List UInt8) (s x : Int) (a : Option Addr) (c : Nat) (l : List I3) (h : RdI w0 a l) (hb0 : Below w0.heap.size w0 w) (hn : l.length ≤ 1048576) (hall : allF l l.length 0 = true) (hw : Wr p w v bs) (hl : bs.length ≤ 30000000) (hn2 : l.length ≤ 100000) :
    Calls Tryz.prog 53 #[.pointer (some ⟨p, 0, none⟩), .agg #[.int .i64 s, .int .i64 x, .slice a l.length c]] w (Wrote p w v (bs ++ fbB x l)) := by
  have hlt := hw.box.lt
  have hw' : Hid (Wr p w v bs) := hw
  have hW1 : Hid (Wr (w.heap.size + 1) ((w.alloc (.cells #[.int .i64 s, .int .i64 x, .slice a l.length c] 87)).alloc (.cells #[.slice none 0 0] 73)) (.slice none 0 0) []) := ⟨by have := Boxed.new (w.alloc (.cells #[.int .i64 s, .int .i64 x, .slice a l.length c] 87)) 73 (.slice none 0 0); simpa using this, World.ownsRow_nil _ _ _ _⟩
  have h0 : Hid (WS (w.heap.size + 1) ((w.alloc (.cells #[.int .i64 s, .int .i64 x, .slice a l.length c] 87)).alloc (.cells #[.slice none 0 0] 73)) (.slice none 0 0) ((w.alloc (.cells #[.int .i64 s, .int .i64 x, .slice a l.length c] 87)).alloc (.cells #[.slice none 0 0] 73)) (.slice none 0 0) []) := WS.refl hW1.out
  have hbox : Hid (∀ u v' bs', WS (w.heap.size + 1) ((w.alloc (.cells #[.int .i64 s, .int .i64 x, .slice a l.length c] 87)).alloc (.cells #[.slice none 0 0] 73)) (.slice none 0 0) u v' bs' → u.cell? ⟨w.heap.size, 2, none⟩ = some (.slice a l.length c)) := fun u v' bs' hu => hu.cell (by rw [Below.cell ((Below.refl _ _).alloc (by simp) _) (B := w.heap.size + 1) (by simp)]; simp) ⟨by simp, by simp [Value.ownBlock]⟩
  have hB : Hid (∀ u v' bs', WS (w.heap.size + 1) ((w.alloc (.cells #[.int .i64 s, .int .i64 x, .slice a l.length c] 87)).alloc (.cells #[.slice none 0 0] 73)) (.slice none 0 0) u v' bs' → bs'.length ≤ 1000 → Calls Tryz.prog 107 #[.pointer (some ⟨w.heap.size + 1, 0, none⟩), .slice a l.length c] u (Done (w.heap.size + 1) ((w.alloc (.cells #[.int .i64 s, .int .i64 x, .slice a l.length c] 87)).alloc (.cells #[.slice none 0 0] 73)) (.slice none 0 0) (bs' ++ bodyB l l.length))) := fun u v' bs' hu hb' =>
    (putBody (w.heap.size + 1) w0 u v' bs' a c l h ((hb0.alloc hb0.size _).trans ((Below.alloc (Below.refl _ _) (by simp; have := hb0.size; omega) _).trans ((hu.wa.below hW1.out).mono (by have := hb0.size; omega)))) (by have := hb0.size; omega) hu.wr hn hall (by omega)).mono fun e w' ⟨he, v2, k, a⟩ => ⟨he, v2, k, hu.wa.trans a⟩
  have l1 := locB_len x
  have l2 := bodyB_len l l.length
  have hS : Hid (∀ u v' , WS (w.heap.size + 1) ((w.alloc (.cells #[.int .i64 s, .int .i64 x, .slice a l.length c] 87)).alloc (.cells #[.slice none 0 0] 73)) (.slice none 0 0) u v' (inB x l) → ∃ g cap N, v' = .slice (some ⟨g, 0, none⟩) N cap ∧ u.cell? ⟨w.heap.size + 1, 0, none⟩ = some (.slice (some ⟨g, 0, none⟩) N cap) ∧ Calls Tryz.prog 101 #[.pointer (some ⟨p, 0, none⟩), .agg #[.slice (some ⟨g, 0, none⟩) N cap]] u (Wrote p w v (bs ++ fbB x l))) := fun u v' hu => by
    obtain ⟨g, cap, rfl, hg, hblk⟩ := PutULaw.own_blk hu.wr.own (inB_ne x l)
    refine ⟨g, cap, _, rfl, hu.wr.box.cell, ?_⟩
    have hq := hw'.out.past (Nat.le_succ w.heap.size)
    have hWp : Wr p u v bs := Wr.aside ((hw'.out.alloc _).alloc _) hu.wa hq.2 hq.1.symm
    have hlen := inB_len x l
    have hg2 : w.heap.size ≤ g := by omega
    refine (sized p u v bs (inB x l) g cap (inB_ne x l) hWp hblk (hw'.out.past hg2) (by omega) (by omega)).mono fun e w' ⟨he, v2, k, a⟩ => ⟨he, v2, k, ?_⟩
    refine ⟨a.os.trans hu.wa.os, a.tape.trans hu.wa.tape, a.output.trans hu.wa.output, ?_, fun k hk hp hne => ?_, ?_⟩
    · have := hu.wa.size; have := a.size; simp at *; omega
    · rw [a.block k (by have := hu.wa.size; simp at this; omega) hp hne, hu.wa.block k (by simp; omega) (by omega) (by simp [Value.ownBlock]), Below.heap_alloc _ _ _ (by simp; omega), Below.heap_alloc _ _ _ hk]
    · rcases a.lies with b | b
      · exact .inl b
      · exact .inr fun g hg => by have := b g hg; have := hu.wa.size; simp at this; omega
  clear hw h hb0
  go_enter Tryz.func53, Tryz.ntmps53
  go_wp2_with (first | (go_at_call 106; refine (putLocals _ _ _ _ _ _ x h0.out (by simp)).mono ?_; rintro e w1 ⟨rfl, v1, k1⟩; have := hbox.out _ _ _ k1; clear h0) | (go_at_call 107; refine (hB.out _ _ _ k1 (by simp; omega)).mono ?_; rintro e w2 ⟨rfl, v2, k2⟩; clear k1) | (go_at_call 39; refine (k2.put1 _ 11 rfl _ _ (by first | rfl | simp) (by simp; omega)).mono ?_; rintro e w3 ⟨rfl, v3, k3⟩; clear k2; obtain ⟨g, cap, N, rfl, hcW, hC⟩ := hS.out _ _ (by simpa [inB] using k3); have hC' : Hid (Calls Tryz.prog 101 #[.pointer (some ⟨p, 0, none⟩), .agg #[.slice (some ⟨g, 0, none⟩) N cap]] w3 (Wrote p w v (bs ++ fbB x l))) := hC; clear hC) | (go_at_call 101; refine hC'.out.mono ?_; rintro e w4 ⟨rfl, v4, k4, a4⟩))
  go_end0
  exact ⟨rfl, v4, k4, a4⟩
end Go.Proofs.YtffngjgjhialnaaGreatDoor.WrParts
namespace Go.Proofs.YtffngjgjhialnaaGreatDoor.WrSec
open Go.RowKit PlainOps NameCalls PlainNum PlainLeb NumCalls ByteMem PutU ImplPut ImplApp PlainBytes ByteWr InsCalls InsImpl PlainShape InsMem PlainAll EveryIns WrIns WrBody WrMod WrParts

/-- The first k parts, one behind the other. -/
def catP (F : Nat → List UInt8) : Nat → List UInt8
  | 0 => []
  | k + 1 => catP F k ++ F k
/-- A section, where it has something. -/
def secB (id : UInt8) (n : Nat) (b : List UInt8) : List UInt8 := if n = 0 then [] else [id] ++ (uv ((uv (n : Int) ++ b).length : Int) ++ (uv (n : Int) ++ b))
theorem catP_mono (F : Nat → List UInt8) : ∀ (n k : Nat), k ≤ n → (catP F k).length ≤ (catP F n).length
  | 0, k, h => by obtain rfl : k = 0 := by omega
                  exact Nat.le_refl _
  | n + 1, k, h => by
    by_cases e : k = n + 1
    · subst e; exact Nat.le_refl _
    · have := catP_mono F n k (by omega)
      simp only [catP, List.length_append]
      omega
abbrev wi (w : World) : World := w.alloc (.cells #[.slice none 0 0] 73)
theorem wi_wr (w : World) : Wr w.heap.size (wi w) (.slice none 0 0) [] := ⟨Boxed.new _ _ _, World.ownsRow_nil _ _ _ _⟩
/-- What remains behind the parts: the number, and all that is in, its length ahead. -/
theorem sec_end {p : Nat} {w u : World} {v v' : Value} {bs R : List UInt8} (hw : Wr p w v bs) (hu : WS w.heap.size (wi w) (.slice none 0 0) u v' R) (hne : R ≠ []) (hl : bs.length ≤ 20000000) (hR : R.length ≤ 20000000) :
    ∃ g cap N, v' = .slice (some ⟨g, 0, none⟩) N cap ∧ WS p u v u v bs ∧ ∀ u2 v2 c, WS p u v u2 v2 (bs ++ [c]) → u2.cell? ⟨w.heap.size, 0, none⟩ = some (.slice (some ⟨g, 0, none⟩) N cap) ∧
      Calls Tryz.prog 101 #[.pointer (some ⟨p, 0, none⟩), .agg #[.slice (some ⟨g, 0, none⟩) N cap]] u2 (Wrote p w v (bs ++ ([c] ++ (uv (R.length : Int) ++ R)))) := by
  obtain ⟨g, cap, rfl, hg, hblk⟩ := PutULaw.own_blk hu.wr.own hne
  have hq := hw.past (Nat.le_refl _)
  have hWp : Wr p u v bs := Wr.aside (hw.alloc _) hu.wa hq.2 hq.1.symm
  have hg2 := hw.past (show w.heap.size ≤ g by omega)
  refine ⟨g, cap, _, rfl, WS.refl hWp, fun u2 v2 c h2 => ⟨h2.cell hu.wr.box.cell hq, ?_⟩⟩
  have hblk2 : PutULaw.Blk u2 g R := hblk.of (h2.wa.block g hblk.lt hg2.1 hg2.2)
  have hg3 : some g ≠ v2.ownBlock := h2.wa.apart hblk.lt hg2.2
  refine (sized p u2 v2 (bs ++ [c]) R g cap hne h2.wr hblk2 ⟨hg2.1, hg3⟩ (by simp; omega) (by omega)).mono fun e w' ⟨he, v3, k, a⟩ => ⟨he, v3, by rw [List.append_assoc] at k; exact k, ?_⟩
  have b := h2.wa.trans a
  refine ⟨b.os.trans hu.wa.os, b.tape.trans hu.wa.tape, b.output.trans hu.wa.output, ?_, fun k hk hp hn => ?_, ?_⟩
  · have := hu.wa.size; have := b.size; simp at *; omega
  · rw [b.block k (by have := hu.wa.size; simp at this; omega) hp hn, hu.wa.block k (by simp; omega) (by omega) (by simp [Value.ownBlock]), Below.heap_alloc _ _ _ hk]
  · rcases b.lies with x | x
    · exact .inl x
    · exact .inr fun g hg => by have := x g hg; have := hu.wa.size; simp at this; omega
set_option maxRecDepth 20000 in
set_option maxHeartbeats 8000000 in
theorem sec_Sig (p : Nat) (w0 w : World) (v : Value) (bs : List UInt8) (z : Int) (id : UInt8) (hz : z = (id.toNat : Int)) (a : Option Addr) (cap : Nat) (l : List MemSig.E) (F : Nat → List UInt8) (h : MemSig.Rd w0 a l) (hb0 : Below w0.heap.size w0 w) (hw : Wr p w v bs) (hn : l.length ≤ 1048576) (hl : bs.length ≤ 18000000) (hF : (catP F l.length).length ≤ 18000000)
    (hput : ∀ k u v' bs', k < l.length → Below w0.heap.size w0 u → w.heap.size < u.heap.size → Wr w.heap.size u v' bs' → bs'.length ≤ 19000000 → Calls Tryz.prog 41 #[.pointer (some ⟨w.heap.size, 0, none⟩), .agg #[.int .i64 (MemSig.f0At l k), .int .i64 (MemSig.f1At l k)]] u (Wrote w.heap.size u v' (bs' ++ F k))) :
    Calls Tryz.prog 40 #[.pointer (some ⟨p, 0, none⟩), .int .u8 z, .slice a l.length cap, .func (.func 41) #[] #[]] w (Wrote p w v (bs ++ secB id l.length (catP F l.length))) := by
  subst hz
  by_cases h0 : l.length = 0
  · rw [show bs ++ secB id l.length (catP F l.length) = bs by unfold secB; rw [if_pos h0, List.append_nil], h0]
    have hw' : Hid (Wr p w v bs) := hw
    clear h hb0 hw hput hF
    go_enter Tryz.func40, Tryz.ntmps40
    go_wp2_with fail
    refine bodyPost_ret (results_none rfl _ _ _) rfl ?_
    exact ⟨rfl, v, hw'.out, WApp.refl _ _ _⟩
  · have hR : Hid (bs ++ secB id l.length (catP F l.length) = bs ++ ([id] ++ (uv ((uv (l.length : Int) ++ catP F l.length).length : Int) ++ (uv (l.length : Int) ++ catP F l.length)))) := by show _ = _; unfold secB; rw [if_neg h0]
    rw [hR.out]
    have hd0 : ((l.length : Int) == 0) = false := beq_eq_false_iff_ne.2 (by omega)
    have hlt := hw.box.lt
    have hw' : Hid (Wr p w v bs) := hw
    have h' : Hid (MemSig.Rd w0 a l) := h
    have hb' : Hid (Below w0.heap.size w0 w) := hb0
    have hs0 := hb0.size
    have hput' : Hid (∀ k u v' bs', k < l.length → Below w0.heap.size w0 u → w.heap.size < u.heap.size → Wr w.heap.size u v' bs' → bs'.length ≤ 19000000 → Calls Tryz.prog 41 #[.pointer (some ⟨w.heap.size, 0, none⟩), .agg #[.int .i64 (MemSig.f0At l k), .int .i64 (MemSig.f1At l k)]] u (Wrote w.heap.size u v' (bs' ++ F k))) := hput
    have hS : Hid (WS w.heap.size (wi w) (.slice none 0 0) (wi w) (.slice none 0 0) []) := WS.refl (wi_wr w)
    have hbel : Hid (∀ u v' bs', WS w.heap.size (wi w) (.slice none 0 0) u v' bs' → Below w0.heap.size w0 u ∧ w.heap.size < u.heap.size) := fun u v' bs' hu => ⟨(hb0.alloc hb0.size _).trans ((hu.wa.below (wi_wr w)).mono hb0.size), by have := hu.wa.size; simp at this; omega⟩
    have hlu := uv_len (l.length : Int)
    have hmono : Hid (∀ k, k ≤ l.length → (catP F k).length ≤ 18000000) := fun k hk => Nat.le_trans (catP_mono F _ k hk) hF
    have hE : Hid (∀ u v', WS w.heap.size (wi w) (.slice none 0 0) u v' (uv (l.length : Int) ++ catP F l.length) → _) := fun u v' hu => sec_end hw hu (by intro e; have h1 := uv_pos (l.length : Int); have h2 := congrArg List.length e; rw [List.length_append, List.length_nil] at h2; omega) (by omega) (by rw [List.length_append]; omega)
    clear h hb0 hw hput hF hR h0
    go_enter Tryz.func40, Tryz.ntmps40
    go_wp2_with (go_at_call 100; refine (hS.out.num1 _ _ _ (by first | rfl | simp) (by simp)).mono ?_; rintro e w1 ⟨rfl, v1, k1⟩; have k1' : Hid (WS w.heap.size (wi w) (.slice none 0 0) w1 v1 (uv (l.length : Int))) := k1; clear k1 hS)
    go_loopw [20] (fun vk wr => ∃ (k : Nat) (v' : Value), k ≤ l.length ∧ vk = .int .i64 k ∧ WS w.heap.size (wi w) (.slice none 0 0) wr v' (uv (l.length : Int) ++ catP F k)) (fun vk _ => l.length - (intOf vk).toNat)
    case atStart => exact ⟨0, v1, Nat.zero_le _, rfl, by simpa [catP] using k1'.out⟩
    case round =>
      obtain ⟨k, v2, hk, rfl, hws⟩ := hrel
      have hws' : Hid (WS w.heap.size (wi w) (.slice none 0 0) wr v2 (uv (l.length : Int) ++ catP F k)) := hws
      have hbk := hbel.out _ _ _ hws
      clear hws
      by_cases hlk : k < l.length
      · have hlt' : (k : Int) < (l.length : Int) := by omega
        rcases h'.out.later hbk.1 with h0 | ⟨b, off, ha, hc⟩
        · omega
        · obtain ⟨c0, c1⟩ := hc k hlk
          have hlen := hmono.out k (by omega)
          have hP : Hid (∀ o, Calls Tryz.prog 41 #[.pointer (some ⟨w.heap.size, 0, none⟩), .agg #[.int .i64 (MemSig.f0At l k), .int .i64 (MemSig.f1At l k)]] (wr.alloc o) (Wrote w.heap.size (wr.alloc o) v2 (uv (l.length : Int) ++ catP F k ++ F k))) := fun o => hput'.out k (wr.alloc o) v2 _ hlk (hbk.1.alloc hbk.1.size _) (by simp; omega) (hws'.out.wr.alloc o) (by rw [List.length_append]; omega)
          subst ha
          clear hc hbk hlen
          generalize (MemSig.f0At l k) = x0 at *
          generalize (MemSig.f1At l k) = x1 at *
          go_wp2_with (go_at_call 41; refine (hP.out _).mono ?_; rintro e w3 ⟨rfl, v3, k3, a3⟩; have k3' : Hid (WS w.heap.size (wi w) (.slice none 0 0) w3 v3 (uv (l.length : Int) ++ catP F k ++ F k)) := ⟨k3, (hws'.out.alloc _).wa.trans a3⟩; clear k3 a3)
          go_roundw
          case rel => exact ⟨k + 1, v3, by omega, by go_num, by simp only [catP]; rw [← List.append_assoc]; exact k3'.out⟩
          case measure => simp [intOf]; omega
      · obtain rfl : k = l.length := by omega
        obtain ⟨gg, cc, NN, rfl, hA, hB⟩ := hE.out _ _ hws'.out
        have hA' : Hid (WS p wr v wr v bs) := hA
        have hB' : Hid (∀ u2 v2 c, WS p wr v u2 v2 (bs ++ [c]) → u2.cell? ⟨w.heap.size, 0, none⟩ = some (.slice (some ⟨gg, 0, none⟩) NN cc) ∧ Calls Tryz.prog 101 #[.pointer (some ⟨p, 0, none⟩), .agg #[.slice (some ⟨gg, 0, none⟩) NN cc]] u2 (Wrote p w v (bs ++ ([c] ++ (uv ((uv (l.length : Int) ++ catP F l.length).length : Int) ++ (uv (l.length : Int) ++ catP F l.length)))))) := hB
        clear hA hB hE hbk
        go_wp2_with (go_at_call 39; refine (hA'.out.put1 _ id rfl _ _ (by first | rfl | simp) (by omega)).mono ?_; rintro e w4 ⟨rfl, v4, k4⟩; obtain ⟨cW, hC⟩ := hB'.out _ _ _ k4; have hC' : Hid (Calls Tryz.prog 101 #[.pointer (some ⟨p, 0, none⟩), .agg #[.slice (some ⟨gg, 0, none⟩) NN cc]] w4 (Wrote p w v (bs ++ ([id] ++ (uv ((uv (l.length : Int) ++ catP F l.length).length : Int) ++ (uv (l.length : Int) ++ catP F l.length)))))) := hC; clear hC hB' k4)
        go_wp2_with (go_at_call 101; refine hC'.out.mono ?_; rintro e w5 ⟨rfl, v5, k5, a5⟩)
        go_end0
        exact ⟨rfl, v5, k5, a5⟩
set_option maxRecDepth 20000 in
set_option maxHeartbeats 8000000 in
theorem sec_Import (p : Nat) (w0 w : World) (v : Value) (bs : List UInt8) (z : Int) (id : UInt8) (hz : z = (id.toNat : Int)) (a : Option Addr) (cap : Nat) (l : List MemImport.E) (F : Nat → List UInt8) (h : MemImport.Rd w0 a l) (hb0 : Below w0.heap.size w0 w) (hw : Wr p w v bs) (hn : l.length ≤ 1048576) (hl : bs.length ≤ 18000000) (hF : (catP F l.length).length ≤ 18000000)
    (hput : ∀ k u v' bs', k < l.length → Below w0.heap.size w0 u → w.heap.size < u.heap.size → Wr w.heap.size u v' bs' → bs'.length ≤ 19000000 → Calls Tryz.prog 43 #[.pointer (some ⟨w.heap.size, 0, none⟩), .agg #[.string (MemImport.f0At l k), .string (MemImport.f1At l k), .int .i64 (MemImport.f2At l k)]] u (Wrote w.heap.size u v' (bs' ++ F k))) :
    Calls Tryz.prog 42 #[.pointer (some ⟨p, 0, none⟩), .int .u8 z, .slice a l.length cap, .func (.func 43) #[] #[]] w (Wrote p w v (bs ++ secB id l.length (catP F l.length))) := by
  subst hz
  by_cases h0 : l.length = 0
  · rw [show bs ++ secB id l.length (catP F l.length) = bs by unfold secB; rw [if_pos h0, List.append_nil], h0]
    have hw' : Hid (Wr p w v bs) := hw
    clear h hb0 hw hput hF
    go_enter Tryz.func42, Tryz.ntmps42
    go_wp2_with fail
    refine bodyPost_ret (results_none rfl _ _ _) rfl ?_
    exact ⟨rfl, v, hw'.out, WApp.refl _ _ _⟩
  · have hR : Hid (bs ++ secB id l.length (catP F l.length) = bs ++ ([id] ++ (uv ((uv (l.length : Int) ++ catP F l.length).length : Int) ++ (uv (l.length : Int) ++ catP F l.length)))) := by show _ = _; unfold secB; rw [if_neg h0]
    rw [hR.out]
    have hd0 : ((l.length : Int) == 0) = false := beq_eq_false_iff_ne.2 (by omega)
    have hlt := hw.box.lt
    have hw' : Hid (Wr p w v bs) := hw
    have h' : Hid (MemImport.Rd w0 a l) := h
    have hb' : Hid (Below w0.heap.size w0 w) := hb0
    have hs0 := hb0.size
    have hput' : Hid (∀ k u v' bs', k < l.length → Below w0.heap.size w0 u → w.heap.size < u.heap.size → Wr w.heap.size u v' bs' → bs'.length ≤ 19000000 → Calls Tryz.prog 43 #[.pointer (some ⟨w.heap.size, 0, none⟩), .agg #[.string (MemImport.f0At l k), .string (MemImport.f1At l k), .int .i64 (MemImport.f2At l k)]] u (Wrote w.heap.size u v' (bs' ++ F k))) := hput
    have hS : Hid (WS w.heap.size (wi w) (.slice none 0 0) (wi w) (.slice none 0 0) []) := WS.refl (wi_wr w)
    have hbel : Hid (∀ u v' bs', WS w.heap.size (wi w) (.slice none 0 0) u v' bs' → Below w0.heap.size w0 u ∧ w.heap.size < u.heap.size) := fun u v' bs' hu => ⟨(hb0.alloc hb0.size _).trans ((hu.wa.below (wi_wr w)).mono hb0.size), by have := hu.wa.size; simp at this; omega⟩
    have hlu := uv_len (l.length : Int)
    have hmono : Hid (∀ k, k ≤ l.length → (catP F k).length ≤ 18000000) := fun k hk => Nat.le_trans (catP_mono F _ k hk) hF
    have hE : Hid (∀ u v', WS w.heap.size (wi w) (.slice none 0 0) u v' (uv (l.length : Int) ++ catP F l.length) → _) := fun u v' hu => sec_end hw hu (by intro e; have h1 := uv_pos (l.length : Int); have h2 := congrArg List.length e; rw [List.length_append, List.length_nil] at h2; omega) (by omega) (by rw [List.length_append]; omega)
    clear h hb0 hw hput hF hR h0
    go_enter Tryz.func42, Tryz.ntmps42
    go_wp2_with (go_at_call 100; refine (hS.out.num1 _ _ _ (by first | rfl | simp) (by simp)).mono ?_; rintro e w1 ⟨rfl, v1, k1⟩; have k1' : Hid (WS w.heap.size (wi w) (.slice none 0 0) w1 v1 (uv (l.length : Int))) := k1; clear k1 hS)
    go_loopw [20] (fun vk wr => ∃ (k : Nat) (v' : Value), k ≤ l.length ∧ vk = .int .i64 k ∧ WS w.heap.size (wi w) (.slice none 0 0) wr v' (uv (l.length : Int) ++ catP F k)) (fun vk _ => l.length - (intOf vk).toNat)
    case atStart => exact ⟨0, v1, Nat.zero_le _, rfl, by simpa [catP] using k1'.out⟩
    case round =>
      obtain ⟨k, v2, hk, rfl, hws⟩ := hrel
      have hws' : Hid (WS w.heap.size (wi w) (.slice none 0 0) wr v2 (uv (l.length : Int) ++ catP F k)) := hws
      have hbk := hbel.out _ _ _ hws
      clear hws
      by_cases hlk : k < l.length
      · have hlt' : (k : Int) < (l.length : Int) := by omega
        rcases h'.out.later hbk.1 with h0 | ⟨b, off, ha, hc⟩
        · omega
        · obtain ⟨c0, c1, c2⟩ := hc k hlk
          have hlen := hmono.out k (by omega)
          have hP : Hid (∀ o, Calls Tryz.prog 43 #[.pointer (some ⟨w.heap.size, 0, none⟩), .agg #[.string (MemImport.f0At l k), .string (MemImport.f1At l k), .int .i64 (MemImport.f2At l k)]] (wr.alloc o) (Wrote w.heap.size (wr.alloc o) v2 (uv (l.length : Int) ++ catP F k ++ F k))) := fun o => hput'.out k (wr.alloc o) v2 _ hlk (hbk.1.alloc hbk.1.size _) (by simp; omega) (hws'.out.wr.alloc o) (by rw [List.length_append]; omega)
          subst ha
          clear hc hbk hlen
          generalize (MemImport.f0At l k) = x0 at *
          generalize (MemImport.f1At l k) = x1 at *
          generalize (MemImport.f2At l k) = x2 at *
          go_wp2_with (go_at_call 43; refine (hP.out _).mono ?_; rintro e w3 ⟨rfl, v3, k3, a3⟩; have k3' : Hid (WS w.heap.size (wi w) (.slice none 0 0) w3 v3 (uv (l.length : Int) ++ catP F k ++ F k)) := ⟨k3, (hws'.out.alloc _).wa.trans a3⟩; clear k3 a3)
          go_roundw
          case rel => exact ⟨k + 1, v3, by omega, by go_num, by simp only [catP]; rw [← List.append_assoc]; exact k3'.out⟩
          case measure => simp [intOf]; omega
      · obtain rfl : k = l.length := by omega
        obtain ⟨gg, cc, NN, rfl, hA, hB⟩ := hE.out _ _ hws'.out
        have hA' : Hid (WS p wr v wr v bs) := hA
        have hB' : Hid (∀ u2 v2 c, WS p wr v u2 v2 (bs ++ [c]) → u2.cell? ⟨w.heap.size, 0, none⟩ = some (.slice (some ⟨gg, 0, none⟩) NN cc) ∧ Calls Tryz.prog 101 #[.pointer (some ⟨p, 0, none⟩), .agg #[.slice (some ⟨gg, 0, none⟩) NN cc]] u2 (Wrote p w v (bs ++ ([c] ++ (uv ((uv (l.length : Int) ++ catP F l.length).length : Int) ++ (uv (l.length : Int) ++ catP F l.length)))))) := hB
        clear hA hB hE hbk
        go_wp2_with (go_at_call 39; refine (hA'.out.put1 _ id rfl _ _ (by first | rfl | simp) (by omega)).mono ?_; rintro e w4 ⟨rfl, v4, k4⟩; obtain ⟨cW, hC⟩ := hB'.out _ _ _ k4; have hC' : Hid (Calls Tryz.prog 101 #[.pointer (some ⟨p, 0, none⟩), .agg #[.slice (some ⟨gg, 0, none⟩) NN cc]] w4 (Wrote p w v (bs ++ ([id] ++ (uv ((uv (l.length : Int) ++ catP F l.length).length : Int) ++ (uv (l.length : Int) ++ catP F l.length)))))) := hC; clear hC hB' k4)
        go_wp2_with (go_at_call 101; refine hC'.out.mono ?_; rintro e w5 ⟨rfl, v5, k5, a5⟩)
        go_end0
        exact ⟨rfl, v5, k5, a5⟩
set_option maxRecDepth 20000 in
set_option maxHeartbeats 8000000 in
theorem sec_FuncSig (p : Nat) (w0 w : World) (v : Value) (bs : List UInt8) (z : Int) (id : UInt8) (hz : z = (id.toNat : Int)) (a : Option Addr) (cap : Nat) (l : List MemFunc.E) (F : Nat → List UInt8) (h : MemFunc.Rd w0 a l) (hb0 : Below w0.heap.size w0 w) (hw : Wr p w v bs) (hn : l.length ≤ 1048576) (hl : bs.length ≤ 18000000) (hF : (catP F l.length).length ≤ 18000000)
    (hput : ∀ k u v' bs', k < l.length → Below w0.heap.size w0 u → w.heap.size < u.heap.size → Wr w.heap.size u v' bs' → bs'.length ≤ 19000000 → Calls Tryz.prog 45 #[.pointer (some ⟨w.heap.size, 0, none⟩), .agg #[.int .i64 (MemFunc.at1 l k).sig, .int .i64 (MemFunc.at1 l k).loc, .slice (MemFunc.at1 l k).ad (MemFunc.at1 l k).body.length (MemFunc.at1 l k).cp]] u (Wrote w.heap.size u v' (bs' ++ F k))) :
    Calls Tryz.prog 44 #[.pointer (some ⟨p, 0, none⟩), .int .u8 z, .slice a l.length cap, .func (.func 45) #[] #[]] w (Wrote p w v (bs ++ secB id l.length (catP F l.length))) := by
  subst hz
  by_cases h0 : l.length = 0
  · rw [show bs ++ secB id l.length (catP F l.length) = bs by unfold secB; rw [if_pos h0, List.append_nil], h0]
    have hw' : Hid (Wr p w v bs) := hw
    clear h hb0 hw hput hF
    go_enter Tryz.func44, Tryz.ntmps44
    go_wp2_with fail
    refine bodyPost_ret (results_none rfl _ _ _) rfl ?_
    exact ⟨rfl, v, hw'.out, WApp.refl _ _ _⟩
  · have hR : Hid (bs ++ secB id l.length (catP F l.length) = bs ++ ([id] ++ (uv ((uv (l.length : Int) ++ catP F l.length).length : Int) ++ (uv (l.length : Int) ++ catP F l.length)))) := by show _ = _; unfold secB; rw [if_neg h0]
    rw [hR.out]
    have hd0 : ((l.length : Int) == 0) = false := beq_eq_false_iff_ne.2 (by omega)
    have hlt := hw.box.lt
    have hw' : Hid (Wr p w v bs) := hw
    have h' : Hid (MemFunc.Rd w0 a l) := h
    have hb' : Hid (Below w0.heap.size w0 w) := hb0
    have hs0 := hb0.size
    have hput' : Hid (∀ k u v' bs', k < l.length → Below w0.heap.size w0 u → w.heap.size < u.heap.size → Wr w.heap.size u v' bs' → bs'.length ≤ 19000000 → Calls Tryz.prog 45 #[.pointer (some ⟨w.heap.size, 0, none⟩), .agg #[.int .i64 (MemFunc.at1 l k).sig, .int .i64 (MemFunc.at1 l k).loc, .slice (MemFunc.at1 l k).ad (MemFunc.at1 l k).body.length (MemFunc.at1 l k).cp]] u (Wrote w.heap.size u v' (bs' ++ F k))) := hput
    have hS : Hid (WS w.heap.size (wi w) (.slice none 0 0) (wi w) (.slice none 0 0) []) := WS.refl (wi_wr w)
    have hbel : Hid (∀ u v' bs', WS w.heap.size (wi w) (.slice none 0 0) u v' bs' → Below w0.heap.size w0 u ∧ w.heap.size < u.heap.size) := fun u v' bs' hu => ⟨(hb0.alloc hb0.size _).trans ((hu.wa.below (wi_wr w)).mono hb0.size), by have := hu.wa.size; simp at this; omega⟩
    have hlu := uv_len (l.length : Int)
    have hmono : Hid (∀ k, k ≤ l.length → (catP F k).length ≤ 18000000) := fun k hk => Nat.le_trans (catP_mono F _ k hk) hF
    have hE : Hid (∀ u v', WS w.heap.size (wi w) (.slice none 0 0) u v' (uv (l.length : Int) ++ catP F l.length) → _) := fun u v' hu => sec_end hw hu (by intro e; have h1 := uv_pos (l.length : Int); have h2 := congrArg List.length e; rw [List.length_append, List.length_nil] at h2; omega) (by omega) (by rw [List.length_append]; omega)
    clear h hb0 hw hput hF hR h0
    go_enter Tryz.func44, Tryz.ntmps44
    go_wp2_with (go_at_call 100; refine (hS.out.num1 _ _ _ (by first | rfl | simp) (by simp)).mono ?_; rintro e w1 ⟨rfl, v1, k1⟩; have k1' : Hid (WS w.heap.size (wi w) (.slice none 0 0) w1 v1 (uv (l.length : Int))) := k1; clear k1 hS)
    go_loopw [20] (fun vk wr => ∃ (k : Nat) (v' : Value), k ≤ l.length ∧ vk = .int .i64 k ∧ WS w.heap.size (wi w) (.slice none 0 0) wr v' (uv (l.length : Int) ++ catP F k)) (fun vk _ => l.length - (intOf vk).toNat)
    case atStart => exact ⟨0, v1, Nat.zero_le _, rfl, by simpa [catP] using k1'.out⟩
    case round =>
      obtain ⟨k, v2, hk, rfl, hws⟩ := hrel
      have hws' : Hid (WS w.heap.size (wi w) (.slice none 0 0) wr v2 (uv (l.length : Int) ++ catP F k)) := hws
      have hbk := hbel.out _ _ _ hws
      clear hws
      by_cases hlk : k < l.length
      · have hlt' : (k : Int) < (l.length : Int) := by omega
        rcases h'.out.later hbk.1 with h0 | ⟨b, off, ha, hc⟩
        · omega
        · obtain ⟨c0, c1, c2, _⟩ := hc k hlk
          have hlen := hmono.out k (by omega)
          have hP : Hid (∀ o, Calls Tryz.prog 45 #[.pointer (some ⟨w.heap.size, 0, none⟩), .agg #[.int .i64 (MemFunc.at1 l k).sig, .int .i64 (MemFunc.at1 l k).loc, .slice (MemFunc.at1 l k).ad (MemFunc.at1 l k).body.length (MemFunc.at1 l k).cp]] (wr.alloc o) (Wrote w.heap.size (wr.alloc o) v2 (uv (l.length : Int) ++ catP F k ++ F k))) := fun o => hput'.out k (wr.alloc o) v2 _ hlk (hbk.1.alloc hbk.1.size _) (by simp; omega) (hws'.out.wr.alloc o) (by rw [List.length_append]; omega)
          subst ha
          clear hc hbk hlen
          generalize (MemFunc.at1 l k).sig = x0 at *
          generalize (MemFunc.at1 l k).loc = x1 at *
          generalize (MemFunc.at1 l k).ad = x2 at *
          generalize (MemFunc.at1 l k).body.length = x3 at *
          generalize (MemFunc.at1 l k).cp = x4 at *
          go_wp2_with (go_at_call 45; refine (hP.out _).mono ?_; rintro e w3 ⟨rfl, v3, k3, a3⟩; have k3' : Hid (WS w.heap.size (wi w) (.slice none 0 0) w3 v3 (uv (l.length : Int) ++ catP F k ++ F k)) := ⟨k3, (hws'.out.alloc _).wa.trans a3⟩; clear k3 a3)
          go_roundw
          case rel => exact ⟨k + 1, v3, by omega, by go_num, by simp only [catP]; rw [← List.append_assoc]; exact k3'.out⟩
          case measure => simp [intOf]; omega
      · obtain rfl : k = l.length := by omega
        obtain ⟨gg, cc, NN, rfl, hA, hB⟩ := hE.out _ _ hws'.out
        have hA' : Hid (WS p wr v wr v bs) := hA
        have hB' : Hid (∀ u2 v2 c, WS p wr v u2 v2 (bs ++ [c]) → u2.cell? ⟨w.heap.size, 0, none⟩ = some (.slice (some ⟨gg, 0, none⟩) NN cc) ∧ Calls Tryz.prog 101 #[.pointer (some ⟨p, 0, none⟩), .agg #[.slice (some ⟨gg, 0, none⟩) NN cc]] u2 (Wrote p w v (bs ++ ([c] ++ (uv ((uv (l.length : Int) ++ catP F l.length).length : Int) ++ (uv (l.length : Int) ++ catP F l.length)))))) := hB
        clear hA hB hE hbk
        go_wp2_with (go_at_call 39; refine (hA'.out.put1 _ id rfl _ _ (by first | rfl | simp) (by omega)).mono ?_; rintro e w4 ⟨rfl, v4, k4⟩; obtain ⟨cW, hC⟩ := hB'.out _ _ _ k4; have hC' : Hid (Calls Tryz.prog 101 #[.pointer (some ⟨p, 0, none⟩), .agg #[.slice (some ⟨gg, 0, none⟩) NN cc]] w4 (Wrote p w v (bs ++ ([id] ++ (uv ((uv (l.length : Int) ++ catP F l.length).length : Int) ++ (uv (l.length : Int) ++ catP F l.length)))))) := hC; clear hC hB' k4)
        go_wp2_with (go_at_call 101; refine hC'.out.mono ?_; rintro e w5 ⟨rfl, v5, k5, a5⟩)
        go_end0
        exact ⟨rfl, v5, k5, a5⟩
set_option maxRecDepth 20000 in
set_option maxHeartbeats 8000000 in
theorem sec_FuncBody (p : Nat) (w0 w : World) (v : Value) (bs : List UInt8) (z : Int) (id : UInt8) (hz : z = (id.toNat : Int)) (a : Option Addr) (cap : Nat) (l : List MemFunc.E) (F : Nat → List UInt8) (h : MemFunc.Rd w0 a l) (hb0 : Below w0.heap.size w0 w) (hw : Wr p w v bs) (hn : l.length ≤ 1048576) (hl : bs.length ≤ 18000000) (hF : (catP F l.length).length ≤ 18000000)
    (hput : ∀ k u v' bs', k < l.length → Below w0.heap.size w0 u → w.heap.size < u.heap.size → Wr w.heap.size u v' bs' → bs'.length ≤ 19000000 → Calls Tryz.prog 53 #[.pointer (some ⟨w.heap.size, 0, none⟩), .agg #[.int .i64 (MemFunc.at1 l k).sig, .int .i64 (MemFunc.at1 l k).loc, .slice (MemFunc.at1 l k).ad (MemFunc.at1 l k).body.length (MemFunc.at1 l k).cp]] u (Wrote w.heap.size u v' (bs' ++ F k))) :
    Calls Tryz.prog 44 #[.pointer (some ⟨p, 0, none⟩), .int .u8 z, .slice a l.length cap, .func (.func 53) #[] #[]] w (Wrote p w v (bs ++ secB id l.length (catP F l.length))) := by
  subst hz
  by_cases h0 : l.length = 0
  · rw [show bs ++ secB id l.length (catP F l.length) = bs by unfold secB; rw [if_pos h0, List.append_nil], h0]
    have hw' : Hid (Wr p w v bs) := hw
    clear h hb0 hw hput hF
    go_enter Tryz.func44, Tryz.ntmps44
    go_wp2_with fail
    refine bodyPost_ret (results_none rfl _ _ _) rfl ?_
    exact ⟨rfl, v, hw'.out, WApp.refl _ _ _⟩
  · have hR : Hid (bs ++ secB id l.length (catP F l.length) = bs ++ ([id] ++ (uv ((uv (l.length : Int) ++ catP F l.length).length : Int) ++ (uv (l.length : Int) ++ catP F l.length)))) := by show _ = _; unfold secB; rw [if_neg h0]
    rw [hR.out]
    have hd0 : ((l.length : Int) == 0) = false := beq_eq_false_iff_ne.2 (by omega)
    have hlt := hw.box.lt
    have hw' : Hid (Wr p w v bs) := hw
    have h' : Hid (MemFunc.Rd w0 a l) := h
    have hb' : Hid (Below w0.heap.size w0 w) := hb0
    have hs0 := hb0.size
    have hput' : Hid (∀ k u v' bs', k < l.length → Below w0.heap.size w0 u → w.heap.size < u.heap.size → Wr w.heap.size u v' bs' → bs'.length ≤ 19000000 → Calls Tryz.prog 53 #[.pointer (some ⟨w.heap.size, 0, none⟩), .agg #[.int .i64 (MemFunc.at1 l k).sig, .int .i64 (MemFunc.at1 l k).loc, .slice (MemFunc.at1 l k).ad (MemFunc.at1 l k).body.length (MemFunc.at1 l k).cp]] u (Wrote w.heap.size u v' (bs' ++ F k))) := hput
    have hS : Hid (WS w.heap.size (wi w) (.slice none 0 0) (wi w) (.slice none 0 0) []) := WS.refl (wi_wr w)
    have hbel : Hid (∀ u v' bs', WS w.heap.size (wi w) (.slice none 0 0) u v' bs' → Below w0.heap.size w0 u ∧ w.heap.size < u.heap.size) := fun u v' bs' hu => ⟨(hb0.alloc hb0.size _).trans ((hu.wa.below (wi_wr w)).mono hb0.size), by have := hu.wa.size; simp at this; omega⟩
    have hlu := uv_len (l.length : Int)
    have hmono : Hid (∀ k, k ≤ l.length → (catP F k).length ≤ 18000000) := fun k hk => Nat.le_trans (catP_mono F _ k hk) hF
    have hE : Hid (∀ u v', WS w.heap.size (wi w) (.slice none 0 0) u v' (uv (l.length : Int) ++ catP F l.length) → _) := fun u v' hu => sec_end hw hu (by intro e; have h1 := uv_pos (l.length : Int); have h2 := congrArg List.length e; rw [List.length_append, List.length_nil] at h2; omega) (by omega) (by rw [List.length_append]; omega)
    clear h hb0 hw hput hF hR h0
    go_enter Tryz.func44, Tryz.ntmps44
    go_wp2_with (go_at_call 100; refine (hS.out.num1 _ _ _ (by first | rfl | simp) (by simp)).mono ?_; rintro e w1 ⟨rfl, v1, k1⟩; have k1' : Hid (WS w.heap.size (wi w) (.slice none 0 0) w1 v1 (uv (l.length : Int))) := k1; clear k1 hS)
    go_loopw [20] (fun vk wr => ∃ (k : Nat) (v' : Value), k ≤ l.length ∧ vk = .int .i64 k ∧ WS w.heap.size (wi w) (.slice none 0 0) wr v' (uv (l.length : Int) ++ catP F k)) (fun vk _ => l.length - (intOf vk).toNat)
    case atStart => exact ⟨0, v1, Nat.zero_le _, rfl, by simpa [catP] using k1'.out⟩
    case round =>
      obtain ⟨k, v2, hk, rfl, hws⟩ := hrel
      have hws' : Hid (WS w.heap.size (wi w) (.slice none 0 0) wr v2 (uv (l.length : Int) ++ catP F k)) := hws
      have hbk := hbel.out _ _ _ hws
      clear hws
      by_cases hlk : k < l.length
      · have hlt' : (k : Int) < (l.length : Int) := by omega
        rcases h'.out.later hbk.1 with h0 | ⟨b, off, ha, hc⟩
        · omega
        · obtain ⟨c0, c1, c2, _⟩ := hc k hlk
          have hlen := hmono.out k (by omega)
          have hP : Hid (∀ o, Calls Tryz.prog 53 #[.pointer (some ⟨w.heap.size, 0, none⟩), .agg #[.int .i64 (MemFunc.at1 l k).sig, .int .i64 (MemFunc.at1 l k).loc, .slice (MemFunc.at1 l k).ad (MemFunc.at1 l k).body.length (MemFunc.at1 l k).cp]] (wr.alloc o) (Wrote w.heap.size (wr.alloc o) v2 (uv (l.length : Int) ++ catP F k ++ F k))) := fun o => hput'.out k (wr.alloc o) v2 _ hlk (hbk.1.alloc hbk.1.size _) (by simp; omega) (hws'.out.wr.alloc o) (by rw [List.length_append]; omega)
          subst ha
          clear hc hbk hlen
          generalize (MemFunc.at1 l k).sig = x0 at *
          generalize (MemFunc.at1 l k).loc = x1 at *
          generalize (MemFunc.at1 l k).ad = x2 at *
          generalize (MemFunc.at1 l k).body.length = x3 at *
          generalize (MemFunc.at1 l k).cp = x4 at *
          go_wp2_with (go_at_call 53; refine (hP.out _).mono ?_; rintro e w3 ⟨rfl, v3, k3, a3⟩; have k3' : Hid (WS w.heap.size (wi w) (.slice none 0 0) w3 v3 (uv (l.length : Int) ++ catP F k ++ F k)) := ⟨k3, (hws'.out.alloc _).wa.trans a3⟩; clear k3 a3)
          go_roundw
          case rel => exact ⟨k + 1, v3, by omega, by go_num, by simp only [catP]; rw [← List.append_assoc]; exact k3'.out⟩
          case measure => simp [intOf]; omega
      · obtain rfl : k = l.length := by omega
        obtain ⟨gg, cc, NN, rfl, hA, hB⟩ := hE.out _ _ hws'.out
        have hA' : Hid (WS p wr v wr v bs) := hA
        have hB' : Hid (∀ u2 v2 c, WS p wr v u2 v2 (bs ++ [c]) → u2.cell? ⟨w.heap.size, 0, none⟩ = some (.slice (some ⟨gg, 0, none⟩) NN cc) ∧ Calls Tryz.prog 101 #[.pointer (some ⟨p, 0, none⟩), .agg #[.slice (some ⟨gg, 0, none⟩) NN cc]] u2 (Wrote p w v (bs ++ ([c] ++ (uv ((uv (l.length : Int) ++ catP F l.length).length : Int) ++ (uv (l.length : Int) ++ catP F l.length)))))) := hB
        clear hA hB hE hbk
        go_wp2_with (go_at_call 39; refine (hA'.out.put1 _ id rfl _ _ (by first | rfl | simp) (by omega)).mono ?_; rintro e w4 ⟨rfl, v4, k4⟩; obtain ⟨cW, hC⟩ := hB'.out _ _ _ k4; have hC' : Hid (Calls Tryz.prog 101 #[.pointer (some ⟨p, 0, none⟩), .agg #[.slice (some ⟨gg, 0, none⟩) NN cc]] w4 (Wrote p w v (bs ++ ([id] ++ (uv ((uv (l.length : Int) ++ catP F l.length).length : Int) ++ (uv (l.length : Int) ++ catP F l.length)))))) := hC; clear hC hB' k4)
        go_wp2_with (go_at_call 101; refine hC'.out.mono ?_; rintro e w5 ⟨rfl, v5, k5, a5⟩)
        go_end0
        exact ⟨rfl, v5, k5, a5⟩
set_option maxRecDepth 20000 in
set_option maxHeartbeats 8000000 in
theorem sec_memory (p : Nat) (w0 w : World) (v : Value) (bs : List UInt8) (z : Int) (id : UInt8) (hz : z = (id.toNat : Int)) (a : Option Addr) (cap : Nat) (l : List MemSig.E) (F : Nat → List UInt8) (h : MemSig.Rd w0 a l) (hb0 : Below w0.heap.size w0 w) (hw : Wr p w v bs) (hn : l.length ≤ 1048576) (hl : bs.length ≤ 18000000) (hF : (catP F l.length).length ≤ 18000000)
    (hput : ∀ k u v' bs', k < l.length → Below w0.heap.size w0 u → w.heap.size < u.heap.size → Wr w.heap.size u v' bs' → bs'.length ≤ 19000000 → Calls Tryz.prog 48 #[.pointer (some ⟨w.heap.size, 0, none⟩), .agg #[.int .i64 (MemSig.f0At l k), .int .i64 (MemSig.f1At l k)]] u (Wrote w.heap.size u v' (bs' ++ F k))) :
    Calls Tryz.prog 46 #[.pointer (some ⟨p, 0, none⟩), .int .u8 z, .slice a l.length cap, .func (.func 48) #[] #[]] w (Wrote p w v (bs ++ secB id l.length (catP F l.length))) := by
  subst hz
  by_cases h0 : l.length = 0
  · rw [show bs ++ secB id l.length (catP F l.length) = bs by unfold secB; rw [if_pos h0, List.append_nil], h0]
    have hw' : Hid (Wr p w v bs) := hw
    clear h hb0 hw hput hF
    go_enter Tryz.func46, Tryz.ntmps46
    go_wp2_with fail
    refine bodyPost_ret (results_none rfl _ _ _) rfl ?_
    exact ⟨rfl, v, hw'.out, WApp.refl _ _ _⟩
  · have hR : Hid (bs ++ secB id l.length (catP F l.length) = bs ++ ([id] ++ (uv ((uv (l.length : Int) ++ catP F l.length).length : Int) ++ (uv (l.length : Int) ++ catP F l.length)))) := by show _ = _; unfold secB; rw [if_neg h0]
    rw [hR.out]
    have hd0 : ((l.length : Int) == 0) = false := beq_eq_false_iff_ne.2 (by omega)
    have hlt := hw.box.lt
    have hw' : Hid (Wr p w v bs) := hw
    have h' : Hid (MemSig.Rd w0 a l) := h
    have hb' : Hid (Below w0.heap.size w0 w) := hb0
    have hs0 := hb0.size
    have hput' : Hid (∀ k u v' bs', k < l.length → Below w0.heap.size w0 u → w.heap.size < u.heap.size → Wr w.heap.size u v' bs' → bs'.length ≤ 19000000 → Calls Tryz.prog 48 #[.pointer (some ⟨w.heap.size, 0, none⟩), .agg #[.int .i64 (MemSig.f0At l k), .int .i64 (MemSig.f1At l k)]] u (Wrote w.heap.size u v' (bs' ++ F k))) := hput
    have hS : Hid (WS w.heap.size (wi w) (.slice none 0 0) (wi w) (.slice none 0 0) []) := WS.refl (wi_wr w)
    have hbel : Hid (∀ u v' bs', WS w.heap.size (wi w) (.slice none 0 0) u v' bs' → Below w0.heap.size w0 u ∧ w.heap.size < u.heap.size) := fun u v' bs' hu => ⟨(hb0.alloc hb0.size _).trans ((hu.wa.below (wi_wr w)).mono hb0.size), by have := hu.wa.size; simp at this; omega⟩
    have hlu := uv_len (l.length : Int)
    have hmono : Hid (∀ k, k ≤ l.length → (catP F k).length ≤ 18000000) := fun k hk => Nat.le_trans (catP_mono F _ k hk) hF
    have hE : Hid (∀ u v', WS w.heap.size (wi w) (.slice none 0 0) u v' (uv (l.length : Int) ++ catP F l.length) → _) := fun u v' hu => sec_end hw hu (by intro e; have h1 := uv_pos (l.length : Int); have h2 := congrArg List.length e; rw [List.length_append, List.length_nil] at h2; omega) (by omega) (by rw [List.length_append]; omega)
    clear h hb0 hw hput hF hR h0
    go_enter Tryz.func46, Tryz.ntmps46
    go_wp2_with (go_at_call 100; refine (hS.out.num1 _ _ _ (by first | rfl | simp) (by simp)).mono ?_; rintro e w1 ⟨rfl, v1, k1⟩; have k1' : Hid (WS w.heap.size (wi w) (.slice none 0 0) w1 v1 (uv (l.length : Int))) := k1; clear k1 hS)
    go_loopw [20] (fun vk wr => ∃ (k : Nat) (v' : Value), k ≤ l.length ∧ vk = .int .i64 k ∧ WS w.heap.size (wi w) (.slice none 0 0) wr v' (uv (l.length : Int) ++ catP F k)) (fun vk _ => l.length - (intOf vk).toNat)
    case atStart => exact ⟨0, v1, Nat.zero_le _, rfl, by simpa [catP] using k1'.out⟩
    case round =>
      obtain ⟨k, v2, hk, rfl, hws⟩ := hrel
      have hws' : Hid (WS w.heap.size (wi w) (.slice none 0 0) wr v2 (uv (l.length : Int) ++ catP F k)) := hws
      have hbk := hbel.out _ _ _ hws
      clear hws
      by_cases hlk : k < l.length
      · have hlt' : (k : Int) < (l.length : Int) := by omega
        rcases h'.out.later hbk.1 with h0 | ⟨b, off, ha, hc⟩
        · omega
        · obtain ⟨c0, c1⟩ := hc k hlk
          have hlen := hmono.out k (by omega)
          have hP : Hid (∀ o, Calls Tryz.prog 48 #[.pointer (some ⟨w.heap.size, 0, none⟩), .agg #[.int .i64 (MemSig.f0At l k), .int .i64 (MemSig.f1At l k)]] (wr.alloc o) (Wrote w.heap.size (wr.alloc o) v2 (uv (l.length : Int) ++ catP F k ++ F k))) := fun o => hput'.out k (wr.alloc o) v2 _ hlk (hbk.1.alloc hbk.1.size _) (by simp; omega) (hws'.out.wr.alloc o) (by rw [List.length_append]; omega)
          subst ha
          clear hc hbk hlen
          generalize (MemSig.f0At l k) = x0 at *
          generalize (MemSig.f1At l k) = x1 at *
          go_wp2_with (go_at_call 48; refine (hP.out _).mono ?_; rintro e w3 ⟨rfl, v3, k3, a3⟩; have k3' : Hid (WS w.heap.size (wi w) (.slice none 0 0) w3 v3 (uv (l.length : Int) ++ catP F k ++ F k)) := ⟨k3, (hws'.out.alloc _).wa.trans a3⟩; clear k3 a3)
          go_roundw
          case rel => exact ⟨k + 1, v3, by omega, by go_num, by simp only [catP]; rw [← List.append_assoc]; exact k3'.out⟩
          case measure => simp [intOf]; omega
      · obtain rfl : k = l.length := by omega
        obtain ⟨gg, cc, NN, rfl, hA, hB⟩ := hE.out _ _ hws'.out
        have hA' : Hid (WS p wr v wr v bs) := hA
        have hB' : Hid (∀ u2 v2 c, WS p wr v u2 v2 (bs ++ [c]) → u2.cell? ⟨w.heap.size, 0, none⟩ = some (.slice (some ⟨gg, 0, none⟩) NN cc) ∧ Calls Tryz.prog 101 #[.pointer (some ⟨p, 0, none⟩), .agg #[.slice (some ⟨gg, 0, none⟩) NN cc]] u2 (Wrote p w v (bs ++ ([c] ++ (uv ((uv (l.length : Int) ++ catP F l.length).length : Int) ++ (uv (l.length : Int) ++ catP F l.length)))))) := hB
        clear hA hB hE hbk
        go_wp2_with (go_at_call 39; refine (hA'.out.put1 _ id rfl _ _ (by first | rfl | simp) (by omega)).mono ?_; rintro e w4 ⟨rfl, v4, k4⟩; obtain ⟨cW, hC⟩ := hB'.out _ _ _ k4; have hC' : Hid (Calls Tryz.prog 101 #[.pointer (some ⟨p, 0, none⟩), .agg #[.slice (some ⟨gg, 0, none⟩) NN cc]] w4 (Wrote p w v (bs ++ ([id] ++ (uv ((uv (l.length : Int) ++ catP F l.length).length : Int) ++ (uv (l.length : Int) ++ catP F l.length)))))) := hC; clear hC hB' k4)
        go_wp2_with (go_at_call 101; refine hC'.out.mono ?_; rintro e w5 ⟨rfl, v5, k5, a5⟩)
        go_end0
        exact ⟨rfl, v5, k5, a5⟩
set_option maxRecDepth 20000 in
set_option maxHeartbeats 8000000 in
theorem sec_Global (p : Nat) (w0 w : World) (v : Value) (bs : List UInt8) (z : Int) (id : UInt8) (hz : z = (id.toNat : Int)) (a : Option Addr) (cap : Nat) (l : List MemGlobal.E) (F : Nat → List UInt8) (h : MemGlobal.Rd w0 a l) (hb0 : Below w0.heap.size w0 w) (hw : Wr p w v bs) (hn : l.length ≤ 1048576) (hl : bs.length ≤ 18000000) (hF : (catP F l.length).length ≤ 18000000)
    (hput : ∀ k u v' bs', k < l.length → Below w0.heap.size w0 u → w.heap.size < u.heap.size → Wr w.heap.size u v' bs' → bs'.length ≤ 19000000 → Calls Tryz.prog 50 #[.pointer (some ⟨w.heap.size, 0, none⟩), .agg #[.bool (MemGlobal.f0At l k), .int .i64 (MemGlobal.f1At l k)]] u (Wrote w.heap.size u v' (bs' ++ F k))) :
    Calls Tryz.prog 49 #[.pointer (some ⟨p, 0, none⟩), .int .u8 z, .slice a l.length cap, .func (.func 50) #[] #[]] w (Wrote p w v (bs ++ secB id l.length (catP F l.length))) := by
  subst hz
  by_cases h0 : l.length = 0
  · rw [show bs ++ secB id l.length (catP F l.length) = bs by unfold secB; rw [if_pos h0, List.append_nil], h0]
    have hw' : Hid (Wr p w v bs) := hw
    clear h hb0 hw hput hF
    go_enter Tryz.func49, Tryz.ntmps49
    go_wp2_with fail
    refine bodyPost_ret (results_none rfl _ _ _) rfl ?_
    exact ⟨rfl, v, hw'.out, WApp.refl _ _ _⟩
  · have hR : Hid (bs ++ secB id l.length (catP F l.length) = bs ++ ([id] ++ (uv ((uv (l.length : Int) ++ catP F l.length).length : Int) ++ (uv (l.length : Int) ++ catP F l.length)))) := by show _ = _; unfold secB; rw [if_neg h0]
    rw [hR.out]
    have hd0 : ((l.length : Int) == 0) = false := beq_eq_false_iff_ne.2 (by omega)
    have hlt := hw.box.lt
    have hw' : Hid (Wr p w v bs) := hw
    have h' : Hid (MemGlobal.Rd w0 a l) := h
    have hb' : Hid (Below w0.heap.size w0 w) := hb0
    have hs0 := hb0.size
    have hput' : Hid (∀ k u v' bs', k < l.length → Below w0.heap.size w0 u → w.heap.size < u.heap.size → Wr w.heap.size u v' bs' → bs'.length ≤ 19000000 → Calls Tryz.prog 50 #[.pointer (some ⟨w.heap.size, 0, none⟩), .agg #[.bool (MemGlobal.f0At l k), .int .i64 (MemGlobal.f1At l k)]] u (Wrote w.heap.size u v' (bs' ++ F k))) := hput
    have hS : Hid (WS w.heap.size (wi w) (.slice none 0 0) (wi w) (.slice none 0 0) []) := WS.refl (wi_wr w)
    have hbel : Hid (∀ u v' bs', WS w.heap.size (wi w) (.slice none 0 0) u v' bs' → Below w0.heap.size w0 u ∧ w.heap.size < u.heap.size) := fun u v' bs' hu => ⟨(hb0.alloc hb0.size _).trans ((hu.wa.below (wi_wr w)).mono hb0.size), by have := hu.wa.size; simp at this; omega⟩
    have hlu := uv_len (l.length : Int)
    have hmono : Hid (∀ k, k ≤ l.length → (catP F k).length ≤ 18000000) := fun k hk => Nat.le_trans (catP_mono F _ k hk) hF
    have hE : Hid (∀ u v', WS w.heap.size (wi w) (.slice none 0 0) u v' (uv (l.length : Int) ++ catP F l.length) → _) := fun u v' hu => sec_end hw hu (by intro e; have h1 := uv_pos (l.length : Int); have h2 := congrArg List.length e; rw [List.length_append, List.length_nil] at h2; omega) (by omega) (by rw [List.length_append]; omega)
    clear h hb0 hw hput hF hR h0
    go_enter Tryz.func49, Tryz.ntmps49
    go_wp2_with (go_at_call 100; refine (hS.out.num1 _ _ _ (by first | rfl | simp) (by simp)).mono ?_; rintro e w1 ⟨rfl, v1, k1⟩; have k1' : Hid (WS w.heap.size (wi w) (.slice none 0 0) w1 v1 (uv (l.length : Int))) := k1; clear k1 hS)
    go_loopw [20] (fun vk wr => ∃ (k : Nat) (v' : Value), k ≤ l.length ∧ vk = .int .i64 k ∧ WS w.heap.size (wi w) (.slice none 0 0) wr v' (uv (l.length : Int) ++ catP F k)) (fun vk _ => l.length - (intOf vk).toNat)
    case atStart => exact ⟨0, v1, Nat.zero_le _, rfl, by simpa [catP] using k1'.out⟩
    case round =>
      obtain ⟨k, v2, hk, rfl, hws⟩ := hrel
      have hws' : Hid (WS w.heap.size (wi w) (.slice none 0 0) wr v2 (uv (l.length : Int) ++ catP F k)) := hws
      have hbk := hbel.out _ _ _ hws
      clear hws
      by_cases hlk : k < l.length
      · have hlt' : (k : Int) < (l.length : Int) := by omega
        rcases h'.out.later hbk.1 with h0 | ⟨b, off, ha, hc⟩
        · omega
        · obtain ⟨c0, c1⟩ := hc k hlk
          have hlen := hmono.out k (by omega)
          have hP : Hid (∀ o, Calls Tryz.prog 50 #[.pointer (some ⟨w.heap.size, 0, none⟩), .agg #[.bool (MemGlobal.f0At l k), .int .i64 (MemGlobal.f1At l k)]] (wr.alloc o) (Wrote w.heap.size (wr.alloc o) v2 (uv (l.length : Int) ++ catP F k ++ F k))) := fun o => hput'.out k (wr.alloc o) v2 _ hlk (hbk.1.alloc hbk.1.size _) (by simp; omega) (hws'.out.wr.alloc o) (by rw [List.length_append]; omega)
          subst ha
          clear hc hbk hlen
          generalize (MemGlobal.f0At l k) = x0 at *
          generalize (MemGlobal.f1At l k) = x1 at *
          go_wp2_with (go_at_call 50; refine (hP.out _).mono ?_; rintro e w3 ⟨rfl, v3, k3, a3⟩; have k3' : Hid (WS w.heap.size (wi w) (.slice none 0 0) w3 v3 (uv (l.length : Int) ++ catP F k ++ F k)) := ⟨k3, (hws'.out.alloc _).wa.trans a3⟩; clear k3 a3)
          go_roundw
          case rel => exact ⟨k + 1, v3, by omega, by go_num, by simp only [catP]; rw [← List.append_assoc]; exact k3'.out⟩
          case measure => simp [intOf]; omega
      · obtain rfl : k = l.length := by omega
        obtain ⟨gg, cc, NN, rfl, hA, hB⟩ := hE.out _ _ hws'.out
        have hA' : Hid (WS p wr v wr v bs) := hA
        have hB' : Hid (∀ u2 v2 c, WS p wr v u2 v2 (bs ++ [c]) → u2.cell? ⟨w.heap.size, 0, none⟩ = some (.slice (some ⟨gg, 0, none⟩) NN cc) ∧ Calls Tryz.prog 101 #[.pointer (some ⟨p, 0, none⟩), .agg #[.slice (some ⟨gg, 0, none⟩) NN cc]] u2 (Wrote p w v (bs ++ ([c] ++ (uv ((uv (l.length : Int) ++ catP F l.length).length : Int) ++ (uv (l.length : Int) ++ catP F l.length)))))) := hB
        clear hA hB hE hbk
        go_wp2_with (go_at_call 39; refine (hA'.out.put1 _ id rfl _ _ (by first | rfl | simp) (by omega)).mono ?_; rintro e w4 ⟨rfl, v4, k4⟩; obtain ⟨cW, hC⟩ := hB'.out _ _ _ k4; have hC' : Hid (Calls Tryz.prog 101 #[.pointer (some ⟨p, 0, none⟩), .agg #[.slice (some ⟨gg, 0, none⟩) NN cc]] w4 (Wrote p w v (bs ++ ([id] ++ (uv ((uv (l.length : Int) ++ catP F l.length).length : Int) ++ (uv (l.length : Int) ++ catP F l.length)))))) := hC; clear hC hB' k4)
        go_wp2_with (go_at_call 101; refine hC'.out.mono ?_; rintro e w5 ⟨rfl, v5, k5, a5⟩)
        go_end0
        exact ⟨rfl, v5, k5, a5⟩
set_option maxRecDepth 20000 in
set_option maxHeartbeats 8000000 in
theorem sec_Export (p : Nat) (w0 w : World) (v : Value) (bs : List UInt8) (z : Int) (id : UInt8) (hz : z = (id.toNat : Int)) (a : Option Addr) (cap : Nat) (l : List MemExport.E) (F : Nat → List UInt8) (h : MemExport.Rd w0 a l) (hb0 : Below w0.heap.size w0 w) (hw : Wr p w v bs) (hn : l.length ≤ 1048576) (hl : bs.length ≤ 18000000) (hF : (catP F l.length).length ≤ 18000000)
    (hput : ∀ k u v' bs', k < l.length → Below w0.heap.size w0 u → w.heap.size < u.heap.size → Wr w.heap.size u v' bs' → bs'.length ≤ 19000000 → Calls Tryz.prog 52 #[.pointer (some ⟨w.heap.size, 0, none⟩), .agg #[.string (MemExport.f0At l k), .int .i64 (MemExport.f1At l k), .int .i64 (MemExport.f2At l k)]] u (Wrote w.heap.size u v' (bs' ++ F k))) :
    Calls Tryz.prog 51 #[.pointer (some ⟨p, 0, none⟩), .int .u8 z, .slice a l.length cap, .func (.func 52) #[] #[]] w (Wrote p w v (bs ++ secB id l.length (catP F l.length))) := by
  subst hz
  by_cases h0 : l.length = 0
  · rw [show bs ++ secB id l.length (catP F l.length) = bs by unfold secB; rw [if_pos h0, List.append_nil], h0]
    have hw' : Hid (Wr p w v bs) := hw
    clear h hb0 hw hput hF
    go_enter Tryz.func51, Tryz.ntmps51
    go_wp2_with fail
    refine bodyPost_ret (results_none rfl _ _ _) rfl ?_
    exact ⟨rfl, v, hw'.out, WApp.refl _ _ _⟩
  · have hR : Hid (bs ++ secB id l.length (catP F l.length) = bs ++ ([id] ++ (uv ((uv (l.length : Int) ++ catP F l.length).length : Int) ++ (uv (l.length : Int) ++ catP F l.length)))) := by show _ = _; unfold secB; rw [if_neg h0]
    rw [hR.out]
    have hd0 : ((l.length : Int) == 0) = false := beq_eq_false_iff_ne.2 (by omega)
    have hlt := hw.box.lt
    have hw' : Hid (Wr p w v bs) := hw
    have h' : Hid (MemExport.Rd w0 a l) := h
    have hb' : Hid (Below w0.heap.size w0 w) := hb0
    have hs0 := hb0.size
    have hput' : Hid (∀ k u v' bs', k < l.length → Below w0.heap.size w0 u → w.heap.size < u.heap.size → Wr w.heap.size u v' bs' → bs'.length ≤ 19000000 → Calls Tryz.prog 52 #[.pointer (some ⟨w.heap.size, 0, none⟩), .agg #[.string (MemExport.f0At l k), .int .i64 (MemExport.f1At l k), .int .i64 (MemExport.f2At l k)]] u (Wrote w.heap.size u v' (bs' ++ F k))) := hput
    have hS : Hid (WS w.heap.size (wi w) (.slice none 0 0) (wi w) (.slice none 0 0) []) := WS.refl (wi_wr w)
    have hbel : Hid (∀ u v' bs', WS w.heap.size (wi w) (.slice none 0 0) u v' bs' → Below w0.heap.size w0 u ∧ w.heap.size < u.heap.size) := fun u v' bs' hu => ⟨(hb0.alloc hb0.size _).trans ((hu.wa.below (wi_wr w)).mono hb0.size), by have := hu.wa.size; simp at this; omega⟩
    have hlu := uv_len (l.length : Int)
    have hmono : Hid (∀ k, k ≤ l.length → (catP F k).length ≤ 18000000) := fun k hk => Nat.le_trans (catP_mono F _ k hk) hF
    have hE : Hid (∀ u v', WS w.heap.size (wi w) (.slice none 0 0) u v' (uv (l.length : Int) ++ catP F l.length) → _) := fun u v' hu => sec_end hw hu (by intro e; have h1 := uv_pos (l.length : Int); have h2 := congrArg List.length e; rw [List.length_append, List.length_nil] at h2; omega) (by omega) (by rw [List.length_append]; omega)
    clear h hb0 hw hput hF hR h0
    go_enter Tryz.func51, Tryz.ntmps51
    go_wp2_with (go_at_call 100; refine (hS.out.num1 _ _ _ (by first | rfl | simp) (by simp)).mono ?_; rintro e w1 ⟨rfl, v1, k1⟩; have k1' : Hid (WS w.heap.size (wi w) (.slice none 0 0) w1 v1 (uv (l.length : Int))) := k1; clear k1 hS)
    go_loopw [20] (fun vk wr => ∃ (k : Nat) (v' : Value), k ≤ l.length ∧ vk = .int .i64 k ∧ WS w.heap.size (wi w) (.slice none 0 0) wr v' (uv (l.length : Int) ++ catP F k)) (fun vk _ => l.length - (intOf vk).toNat)
    case atStart => exact ⟨0, v1, Nat.zero_le _, rfl, by simpa [catP] using k1'.out⟩
    case round =>
      obtain ⟨k, v2, hk, rfl, hws⟩ := hrel
      have hws' : Hid (WS w.heap.size (wi w) (.slice none 0 0) wr v2 (uv (l.length : Int) ++ catP F k)) := hws
      have hbk := hbel.out _ _ _ hws
      clear hws
      by_cases hlk : k < l.length
      · have hlt' : (k : Int) < (l.length : Int) := by omega
        rcases h'.out.later hbk.1 with h0 | ⟨b, off, ha, hc⟩
        · omega
        · obtain ⟨c0, c1, c2⟩ := hc k hlk
          have hlen := hmono.out k (by omega)
          have hP : Hid (∀ o, Calls Tryz.prog 52 #[.pointer (some ⟨w.heap.size, 0, none⟩), .agg #[.string (MemExport.f0At l k), .int .i64 (MemExport.f1At l k), .int .i64 (MemExport.f2At l k)]] (wr.alloc o) (Wrote w.heap.size (wr.alloc o) v2 (uv (l.length : Int) ++ catP F k ++ F k))) := fun o => hput'.out k (wr.alloc o) v2 _ hlk (hbk.1.alloc hbk.1.size _) (by simp; omega) (hws'.out.wr.alloc o) (by rw [List.length_append]; omega)
          subst ha
          clear hc hbk hlen
          generalize (MemExport.f0At l k) = x0 at *
          generalize (MemExport.f1At l k) = x1 at *
          generalize (MemExport.f2At l k) = x2 at *
          go_wp2_with (go_at_call 52; refine (hP.out _).mono ?_; rintro e w3 ⟨rfl, v3, k3, a3⟩; have k3' : Hid (WS w.heap.size (wi w) (.slice none 0 0) w3 v3 (uv (l.length : Int) ++ catP F k ++ F k)) := ⟨k3, (hws'.out.alloc _).wa.trans a3⟩; clear k3 a3)
          go_roundw
          case rel => exact ⟨k + 1, v3, by omega, by go_num, by simp only [catP]; rw [← List.append_assoc]; exact k3'.out⟩
          case measure => simp [intOf]; omega
      · obtain rfl : k = l.length := by omega
        obtain ⟨gg, cc, NN, rfl, hA, hB⟩ := hE.out _ _ hws'.out
        have hA' : Hid (WS p wr v wr v bs) := hA
        have hB' : Hid (∀ u2 v2 c, WS p wr v u2 v2 (bs ++ [c]) → u2.cell? ⟨w.heap.size, 0, none⟩ = some (.slice (some ⟨gg, 0, none⟩) NN cc) ∧ Calls Tryz.prog 101 #[.pointer (some ⟨p, 0, none⟩), .agg #[.slice (some ⟨gg, 0, none⟩) NN cc]] u2 (Wrote p w v (bs ++ ([c] ++ (uv ((uv (l.length : Int) ++ catP F l.length).length : Int) ++ (uv (l.length : Int) ++ catP F l.length)))))) := hB
        clear hA hB hE hbk
        go_wp2_with (go_at_call 39; refine (hA'.out.put1 _ id rfl _ _ (by first | rfl | simp) (by omega)).mono ?_; rintro e w4 ⟨rfl, v4, k4⟩; obtain ⟨cW, hC⟩ := hB'.out _ _ _ k4; have hC' : Hid (Calls Tryz.prog 101 #[.pointer (some ⟨p, 0, none⟩), .agg #[.slice (some ⟨gg, 0, none⟩) NN cc]] w4 (Wrote p w v (bs ++ ([id] ++ (uv ((uv (l.length : Int) ++ catP F l.length).length : Int) ++ (uv (l.length : Int) ++ catP F l.length)))))) := hC; clear hC hB' k4)
        go_wp2_with (go_at_call 101; refine hC'.out.mono ?_; rintro e w5 ⟨rfl, v5, k5, a5⟩)
        go_end0
        exact ⟨rfl, v5, k5, a5⟩
set_option maxRecDepth 20000 in
set_option maxHeartbeats 8000000 in
theorem sec_Data (p : Nat) (w0 w : World) (v : Value) (bs : List UInt8) (z : Int) (id : UInt8) (hz : z = (id.toNat : Int)) (a : Option Addr) (cap : Nat) (l : List MemData.E) (F : Nat → List UInt8) (h : MemData.Rd w0 a l) (hb0 : Below w0.heap.size w0 w) (hw : Wr p w v bs) (hn : l.length ≤ 1048576) (hl : bs.length ≤ 18000000) (hF : (catP F l.length).length ≤ 18000000)
    (hput : ∀ k u v' bs', k < l.length → Below w0.heap.size w0 u → w.heap.size < u.heap.size → Wr w.heap.size u v' bs' → bs'.length ≤ 19000000 → Calls Tryz.prog 55 #[.pointer (some ⟨w.heap.size, 0, none⟩), .agg #[.int .i64 (MemData.at1 l k).pos, .slice (MemData.at1 l k).ad (MemData.at1 l k).n (MemData.at1 l k).cp]] u (Wrote w.heap.size u v' (bs' ++ F k))) :
    Calls Tryz.prog 54 #[.pointer (some ⟨p, 0, none⟩), .int .u8 z, .slice a l.length cap, .func (.func 55) #[] #[]] w (Wrote p w v (bs ++ secB id l.length (catP F l.length))) := by
  subst hz
  by_cases h0 : l.length = 0
  · rw [show bs ++ secB id l.length (catP F l.length) = bs by unfold secB; rw [if_pos h0, List.append_nil], h0]
    have hw' : Hid (Wr p w v bs) := hw
    clear h hb0 hw hput hF
    go_enter Tryz.func54, Tryz.ntmps54
    go_wp2_with fail
    refine bodyPost_ret (results_none rfl _ _ _) rfl ?_
    exact ⟨rfl, v, hw'.out, WApp.refl _ _ _⟩
  · have hR : Hid (bs ++ secB id l.length (catP F l.length) = bs ++ ([id] ++ (uv ((uv (l.length : Int) ++ catP F l.length).length : Int) ++ (uv (l.length : Int) ++ catP F l.length)))) := by show _ = _; unfold secB; rw [if_neg h0]
    rw [hR.out]
    have hd0 : ((l.length : Int) == 0) = false := beq_eq_false_iff_ne.2 (by omega)
    have hlt := hw.box.lt
    have hw' : Hid (Wr p w v bs) := hw
    have h' : Hid (MemData.Rd w0 a l) := h
    have hb' : Hid (Below w0.heap.size w0 w) := hb0
    have hs0 := hb0.size
    have hput' : Hid (∀ k u v' bs', k < l.length → Below w0.heap.size w0 u → w.heap.size < u.heap.size → Wr w.heap.size u v' bs' → bs'.length ≤ 19000000 → Calls Tryz.prog 55 #[.pointer (some ⟨w.heap.size, 0, none⟩), .agg #[.int .i64 (MemData.at1 l k).pos, .slice (MemData.at1 l k).ad (MemData.at1 l k).n (MemData.at1 l k).cp]] u (Wrote w.heap.size u v' (bs' ++ F k))) := hput
    have hS : Hid (WS w.heap.size (wi w) (.slice none 0 0) (wi w) (.slice none 0 0) []) := WS.refl (wi_wr w)
    have hbel : Hid (∀ u v' bs', WS w.heap.size (wi w) (.slice none 0 0) u v' bs' → Below w0.heap.size w0 u ∧ w.heap.size < u.heap.size) := fun u v' bs' hu => ⟨(hb0.alloc hb0.size _).trans ((hu.wa.below (wi_wr w)).mono hb0.size), by have := hu.wa.size; simp at this; omega⟩
    have hlu := uv_len (l.length : Int)
    have hmono : Hid (∀ k, k ≤ l.length → (catP F k).length ≤ 18000000) := fun k hk => Nat.le_trans (catP_mono F _ k hk) hF
    have hE : Hid (∀ u v', WS w.heap.size (wi w) (.slice none 0 0) u v' (uv (l.length : Int) ++ catP F l.length) → _) := fun u v' hu => sec_end hw hu (by intro e; have h1 := uv_pos (l.length : Int); have h2 := congrArg List.length e; rw [List.length_append, List.length_nil] at h2; omega) (by omega) (by rw [List.length_append]; omega)
    clear h hb0 hw hput hF hR h0
    go_enter Tryz.func54, Tryz.ntmps54
    go_wp2_with (go_at_call 100; refine (hS.out.num1 _ _ _ (by first | rfl | simp) (by simp)).mono ?_; rintro e w1 ⟨rfl, v1, k1⟩; have k1' : Hid (WS w.heap.size (wi w) (.slice none 0 0) w1 v1 (uv (l.length : Int))) := k1; clear k1 hS)
    go_loopw [20] (fun vk wr => ∃ (k : Nat) (v' : Value), k ≤ l.length ∧ vk = .int .i64 k ∧ WS w.heap.size (wi w) (.slice none 0 0) wr v' (uv (l.length : Int) ++ catP F k)) (fun vk _ => l.length - (intOf vk).toNat)
    case atStart => exact ⟨0, v1, Nat.zero_le _, rfl, by simpa [catP] using k1'.out⟩
    case round =>
      obtain ⟨k, v2, hk, rfl, hws⟩ := hrel
      have hws' : Hid (WS w.heap.size (wi w) (.slice none 0 0) wr v2 (uv (l.length : Int) ++ catP F k)) := hws
      have hbk := hbel.out _ _ _ hws
      clear hws
      by_cases hlk : k < l.length
      · have hlt' : (k : Int) < (l.length : Int) := by omega
        rcases h'.out.later hbk.1 with h0 | ⟨b, off, ha, hc⟩
        · omega
        · obtain ⟨c0, c1, _⟩ := hc k hlk
          have hlen := hmono.out k (by omega)
          have hP : Hid (∀ o, Calls Tryz.prog 55 #[.pointer (some ⟨w.heap.size, 0, none⟩), .agg #[.int .i64 (MemData.at1 l k).pos, .slice (MemData.at1 l k).ad (MemData.at1 l k).n (MemData.at1 l k).cp]] (wr.alloc o) (Wrote w.heap.size (wr.alloc o) v2 (uv (l.length : Int) ++ catP F k ++ F k))) := fun o => hput'.out k (wr.alloc o) v2 _ hlk (hbk.1.alloc hbk.1.size _) (by simp; omega) (hws'.out.wr.alloc o) (by rw [List.length_append]; omega)
          subst ha
          clear hc hbk hlen
          generalize (MemData.at1 l k).pos = x0 at *
          generalize (MemData.at1 l k).ad = x1 at *
          generalize (MemData.at1 l k).n = x2 at *
          generalize (MemData.at1 l k).cp = x3 at *
          go_wp2_with (go_at_call 55; refine (hP.out _).mono ?_; rintro e w3 ⟨rfl, v3, k3, a3⟩; have k3' : Hid (WS w.heap.size (wi w) (.slice none 0 0) w3 v3 (uv (l.length : Int) ++ catP F k ++ F k)) := ⟨k3, (hws'.out.alloc _).wa.trans a3⟩; clear k3 a3)
          go_roundw
          case rel => exact ⟨k + 1, v3, by omega, by go_num, by simp only [catP]; rw [← List.append_assoc]; exact k3'.out⟩
          case measure => simp [intOf]; omega
      · obtain rfl : k = l.length := by omega
        obtain ⟨gg, cc, NN, rfl, hA, hB⟩ := hE.out _ _ hws'.out
        have hA' : Hid (WS p wr v wr v bs) := hA
        have hB' : Hid (∀ u2 v2 c, WS p wr v u2 v2 (bs ++ [c]) → u2.cell? ⟨w.heap.size, 0, none⟩ = some (.slice (some ⟨gg, 0, none⟩) NN cc) ∧ Calls Tryz.prog 101 #[.pointer (some ⟨p, 0, none⟩), .agg #[.slice (some ⟨gg, 0, none⟩) NN cc]] u2 (Wrote p w v (bs ++ ([c] ++ (uv ((uv (l.length : Int) ++ catP F l.length).length : Int) ++ (uv (l.length : Int) ++ catP F l.length)))))) := hB
        clear hA hB hE hbk
        go_wp2_with (go_at_call 39; refine (hA'.out.put1 _ id rfl _ _ (by first | rfl | simp) (by omega)).mono ?_; rintro e w4 ⟨rfl, v4, k4⟩; obtain ⟨cW, hC⟩ := hB'.out _ _ _ k4; have hC' : Hid (Calls Tryz.prog 101 #[.pointer (some ⟨p, 0, none⟩), .agg #[.slice (some ⟨gg, 0, none⟩) NN cc]] w4 (Wrote p w v (bs ++ ([id] ++ (uv ((uv (l.length : Int) ++ catP F l.length).length : Int) ++ (uv (l.length : Int) ++ catP F l.length)))))) := hC; clear hC hB' k4)
        go_wp2_with (go_at_call 101; refine hC'.out.mono ?_; rintro e w5 ⟨rfl, v5, k5, a5⟩)
        go_end0
        exact ⟨rfl, v5, k5, a5⟩
end Go.Proofs.YtffngjgjhialnaaGreatDoor.WrSec
