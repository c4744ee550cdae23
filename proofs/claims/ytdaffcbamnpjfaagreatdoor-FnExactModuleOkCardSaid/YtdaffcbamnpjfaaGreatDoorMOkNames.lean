/-
  Names of exports that differ, as the program asks it. (Written by my modok2.py.)
-/
import Derived.Test.YtdaffcbamnpjfaaGreatDoorMOkImpl
namespace Go.Proofs.YtdaffcbamnpjfaaGreatDoor.MOkNames
open Go.RowKit PlainOps NameCalls PlainNum NumCalls InsCalls InsImpl PlainShape InsMem PlainAll EveryIns ShapeCalls FormCalls FormEvery ModMem FormImpl PlainValid ValidCtx ValidMod Piles ValidIns ValidStep ValidWalk ValidHeights ValidFace ValidMax MOkImpl
set_option maxRecDepth 20000 in
set_option maxHeartbeats 16000000 in
theorem namesDiffer (w : World) (a : Option Addr) (cap : Nat) (l : List MemExport.E) (h : MemExport.Rd w a l) (hn : l.length ≤ 1048576) (hc : l.length ≤ cap) :
    Calls Tryz.prog 50 #[.slice a l.length cap] w fun e w' => e = .returned (.bool (allP (dif l) l.length 0)) ∧ Below w.heap.size w w' := by
  obtain ⟨R, hR⟩ : ∃ R, allP (dif l) l.length 0 = R := ⟨_, rfl⟩
  have hF : Hid (allP (dif l) l.length 0 = R) := hR
  rw [hR]
  have h' : Hid (MemExport.Rd w a l) := h
  clear hR h
  go_enter Tryz.func50, Tryz.ntmps50
  go_wp2_with fail
  go_loopw [9] (fun vk wr => ∃ (k f : Nat), k + f = l.length ∧ vk = .int .i64 k ∧ allP (dif l) f k = R ∧ Below w.heap.size w wr) (fun vk _ => l.length - (intOf vk).toNat)
  case atStart => exact ⟨0, l.length, by omega, rfl, hF.out, Below.refl _ _⟩
  case round =>
    obtain ⟨k, f, hk, rfl, hall, hbel⟩ := hrel
    have hall' : Hid (allP (dif l) f k = R) := hall
    have hbel' : Hid (Below w.heap.size w wr) := hbel
    have hsz := hbel.size
    clear hall hF
    generalize wr = wo at *
    by_cases hlt : k < l.length
    · have hlt' : (k : Int) < (l.length : Int) := by omega
      have hkc : (k : Int) ≤ (cap : Int) := by omega
      obtain ⟨f, rfl⟩ : ∃ j, f = j + 1 := ⟨f - 1, by omega⟩
      rcases h'.out with h0 | ⟨b, off, ha, hcc⟩
      · omega
      · have hcs : Hid (∀ (u : World), Below w.heap.size w u → ∀ j, j < l.length → u.cell? ⟨b, off + j * 3, none⟩ = some (.string (MemExport.f0At l j)) ∧ u.cell? ⟨b, off + j * 3 + 1, none⟩ = some (.int .i64 (MemExport.f1At l j)) ∧ u.cell? ⟨b, off + j * 3 + 2, none⟩ = some (.int .i64 (MemExport.f2At l j))) := fun u hu j hj => by
          obtain ⟨y0, y1, y2⟩ := hcc j hj
          have hb : b < w.heap.size := World.block_lt_of_cell? w _ y0
          exact ⟨by rw [hu.cell hb]; exact y0, by rw [hu.cell hb]; exact y1, by rw [hu.cell hb]; exact y2⟩
        obtain ⟨c0, c1, c2⟩ := hcs.out _ hbel k hlt
        have hno : Hid (dif l k = false → R = false) := fun e => by rw [← hall'.out]; exact allP_no e
        have hyes : Hid (dif l k = true → allP (dif l) f (k + 1) = R) := fun e => by rw [← hall'.out]; exact (allP_yes e).symm
        have hdf : Hid (allP (fun j => !decide (MemExport.f0At l k = MemExport.f0At l j)) k 0 = dif l k) := rfl
        subst ha
        clear hcc hbel hall'
        generalize dif l k = O at *
        generalize (MemExport.f1At l k) = x1 at *
        generalize (MemExport.f2At l k) = x2 at *
        generalize hx0 : MemExport.f0At l k = x0 at *
        clear hx0
        have x1' : Hid (Below w.heap.size w (wo.alloc (.cells #[.string x0, .int .i64 x1, .int .i64 x2] 84))) := hbel'.out.alloc hsz _
        go_wp2_with fail
        go_loopw [18] (fun vj wi => ∃ (j f' : Nat), j + f' = k ∧ vj = .int .i64 j ∧ allP (fun j => !decide (x0 = MemExport.f0At l j)) f' j = O ∧ Below (wo.heap.size + 1) (wo.alloc (.cells #[.string x0, .int .i64 x1, .int .i64 x2] 84)) wi) (fun vj _ => k - (intOf vj).toNat)
        case atStart => exact ⟨0, k, by omega, rfl, hdf.out, Below.refl _ _⟩
        case round =>
          obtain ⟨j, f', hj, rfl, hin, hbi⟩ := hrel
          have hin' : Hid (allP (fun j => !decide (x0 = MemExport.f0At l j)) f' j = O) := hin
          have hbi' : Hid (Below (wo.heap.size + 1) (wo.alloc (.cells #[.string x0, .int .i64 x1, .int .i64 x2] 84)) wr) := hbi
          have hbw : Hid (Below w.heap.size w wr) := x1'.out.trans (hbi.mono (by omega))
          have e0 := hbi.cell (p := ⟨wo.heap.size, 0, none⟩) (by show wo.heap.size < _; omega)
          have hszi := hbi.size
          simp only [World.size_alloc] at hszi
          have hlt0 : wo.heap.size < wr.heap.size := by omega
          have e0' := e0.trans (show (wo.alloc (.cells #[.string x0, .int .i64 x1, .int .i64 x2] 84)).cell? ⟨wo.heap.size, 0, none⟩ = some (.string x0) by simp)
          clear hin hbi e0
          by_cases hlj : j < k
          · have hlj' : (j : Int) < (k : Int) := by omega
            obtain ⟨f', rfl⟩ : ∃ i, f' = i + 1 := ⟨f' - 1, by omega⟩
            obtain ⟨d0, d1, d2⟩ := hcs.out _ hbw.out j (by omega)
            have hnj : Hid (x0 = MemExport.f0At l j → O = false) := fun e => by rw [← hin'.out]; exact allP_no (by simp [e])
            have hyj : Hid (¬ x0 = MemExport.f0At l j → allP (fun j => !decide (x0 = MemExport.f0At l j)) f' (j + 1) = O) := fun e => by rw [← hin'.out]; exact (allP_yes (by simp [e])).symm
            generalize (MemExport.f0At l j) = y0 at *
            generalize (MemExport.f1At l j) = y1 at *
            generalize (MemExport.f2At l j) = y2 at *
            by_cases he : x0 = y0
            · subst he
              have eO : Hid (R = false) := hno.out (hnj.out rfl)
              clear hnj hyj
              go_wp2_with fail
              go_ret
              exact ⟨by rw [eO.out]; rfl, hbw.out.alloc (by have := hbw.out.size; omega) _⟩
            · have nn := str_ne he
              have eO := hyj.out he
              have eO' : Hid (allP (fun j => !decide (x0 = MemExport.f0At l j)) f' (j + 1) = O) := eO
              clear hnj hyj he eO
              go_wp2_with fail
              go_roundw
              case rel => exact ⟨j + 1, f', by omega, by go_num, eO'.out, hbi'.out.alloc (by omega) _⟩
              case measure => simp [intOf]; omega
          · obtain rfl : j = k := by omega
            obtain rfl : f' = 0 := by omega
            have eO : Hid (allP (dif l) f (j + 1) = R) := hyes.out hin'.out.symm
            go_wp2_with fail
            go_roundw
            case rel => exact ⟨j + 1, f, by omega, by go_num, eO.out, hbw.out⟩
            case measure => simp [intOf]; omega
    · obtain rfl : k = l.length := by omega
      obtain rfl : f = 0 := by omega
      clear hbel
      go_wp2_with fail
      go_ret
      exact ⟨by rw [← hall'.out]; rfl, hbel'.out⟩
end Go.Proofs.YtdaffcbamnpjfaaGreatDoor.MOkNames
