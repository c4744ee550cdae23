/-
  A text appended to bytes of one's own: they lie in the old row or in a new one.
-/
import Derived.Test.YtffngjgjhialnaaGreatDoorImplApp
import Derived.Test.YtffngjgjhialnaaGreatDoorPutName
namespace Go.Proofs.YtffngjgjhialnaaGreatDoor.StrApp
open Go.RowKit Go.Shelf PlainNum PlainLeb NumCalls ByteMem PutU ImplPut ImplApp PutName
theorem str_lies {w w' : World} {t u ty : TypeId} {i : TypeInfo} {B n : Nat} {v v' : Value} {xs : List Value} {s : ByteArray} (ht : Tryz.prog.underlying t = some (.slice 5)) (hu : Tryz.prog.underlying u = some .string) (hi : Tryz.prog.info? 5 = some i) (hz : i.zero = some (.int .u8 0)) (hsize : i.size = 1) (hby : i.bytes = 1)
    (hown : w.ownsRow B 5 1 v n xs) (hn : n + s.size ≤ 140737488355328) (hr : (Builtin.append_ #[t, u] ty #[v, .string s]).run Tryz.prog w = .ok v' w') : Lies w.heap.size v.ownBlock v' := by
  rcases hown.2 with ⟨rfl, rfl⟩ | ⟨g, cap, cur, rfl, hbg, hg, hnc, hcm, hcs, htake⟩
  · obtain ⟨v2, w2, h2, ho, _, _⟩ := Lib.run_append_own_string (P := Tryz.prog) w w.heap.size t u ty 5 i ht hu hi hz hsize hby (.slice none 0 0) 0 [] (World.ownsRow_nil _ _ _ _) s (by unfold maxLen; omega) (by omega) (Nat.le_refl _)
    rw [hr] at h2
    injection h2 with e1 e2
    subst e1 e2
    exact .inr fun k hk => (World.ownsRow.lt ho k hk).1
  · have hcs' : cur.size = cap := by simpa using hcs
    have hxl : xs.length = n := by simpa using hown.1
    by_cases hroom : n + s.size ≤ cap
    · have h2 := Lib.run_append_room_string (P := Tryz.prog) w t u ty 5 i ht hu hi hsize g n cap cur hg s hroom (by omega)
      rw [hr] at h2
      injection h2 with e1 e2
      subst e1
      exact .inl rfl
    · have h2 := Lib.run_append_grow_string (P := Tryz.prog) w t u ty 5 i (.int .u8 0) ht hu hi hz ⟨g, 0, none⟩ n cap xs (by rw [hsize]; simpa using hxl) (hown.cells (g := g) rfl) s (by omega) (by omega) (by rw [hby]; exact growslice_fits (by omega) (by omega))
      rw [hr] at h2
      injection h2 with e1 e2
      subst e1
      exact .inr fun k hk => by simp [Value.ownBlock] at hk; omega
theorem wp_str_at {ops : Array Oper} {rest : List Oper} {o : Oper} {a : Act} {Q : Exit → Act → World → Prop} {w : World} (hgd : o.guard = none) (sl x : Operand) (t u : TypeId) (ho : o.op = .call { callee := .builtin .append, args := #[sl, x], argTypes := #[t, u] })
    (B : Nat) (i : TypeInfo) (ht : Tryz.prog.underlying t = some (.slice 5)) (hu : Tryz.prog.underlying u = some .string) (hi : Tryz.prog.info? 5 = some i) (hz : i.zero = some (.int .u8 0)) (hsize : i.size = 1) (hby : i.bytes = 1)
    (v : Value) (n : Nat) (xs : List Value) (hs : a.eval sl = v) (hown : w.ownsRow B 5 1 v n xs) (s : ByteArray) (hx : a.eval x = .string s) (hn : n + s.size ≤ 140737488355328) (hB : B ≤ w.heap.size)
    (h : ∀ v' w', w'.ownsRow B 5 1 v' (n + s.size) (xs ++ Lib.strCells s) → w.grownBy w' v.ownBlock → Lies w.heap.size v.ownBlock v' → wpList Tryz.prog ops Q rest (a.put o.dst v') w') :
    wpList Tryz.prog ops Q (o :: rest) a w := by
  refine wpList_plain hgd fun K hK => ?_
  obtain ⟨v', w', hr, h2, h3, _⟩ := Lib.run_append_own_string (P := Tryz.prog) w B t u o.type 5 i ht hu hi hz hsize hby v n xs hown s (by unfold maxLen; omega) hn hB
  have h5 := str_lies ht hu hi hz hsize hby hown hn hr
  unfold Oper.wp execOp
  simp only [ho, resolve, invoke, builtin, Sem.run_bind, Sem.run_pure, Result.andThen_ok, List.map_toArray, List.map_cons, List.map_nil, hs, hx, hr]
  exact hK _ _ (h v' w' h2 h3 h5)
set_option maxRecDepth 100000 in
set_option maxHeartbeats 2000000 in
theorem appendNameA (a : Option Addr) (cap B : Nat) (bs : List UInt8) (s : ByteArray) (w : World) (ho : PutU.Own B w (.slice a bs.length cap) bs) (hB : B ≤ w.heap.size) (hl : bs.length ≤ 67000000) (hs : s.size ≤ 1048576) :
    Calls Tryz.prog 131 #[.slice a bs.length cap, .string s] w fun e w' => ∃ v, e = .returned v ∧ PutU.Own B w' v (bs ++ Lib.uvarint s.size ++ s.data.toList) ∧ App w w' (.slice a bs.length cap) v := by
  obtain ⟨i0, hi, hz0, hz1, hz2⟩ := info_parts info5
  have hp := ImplApp.appendU a cap B bs (s.size : Int) w ho hB (by omega)
  rw [show ((s.size : Int) % 4294967296).toNat = s.size by omega] at hp
  have hul := Lib.uvarint_length64 (x := s.size) (by omega)
  have lR : (bs ++ Lib.uvarint s.size).length ≤ 67000020 := by rw [List.length_append]; omega
  generalize bs ++ Lib.uvarint s.size = R at *
  generalize bs.length = N at *
  go_enter Tryz.func131, Tryz.ntmps131
  go_wp2_with (first | (go_at_call 130; refine hp.mono ?_; rintro e w1 ⟨v1, rfl, o1, a1⟩) | (at_builtin; refine wp_str_at rfl _ _ 31 9 rfl B i0 Tryz.underlying31 Tryz.underlying9 hi hz0 hz1 hz2 _ _ _ rfl o1 s rfl (by omega) (Nat.le_trans hB a1.grow.size) ?_))
  intro v2 w2 hown hgrow hlies
  go_wp2_with fail
  go_ret
  exact ⟨v2, rfl, own_str hown, a1.trans ⟨hgrow, hlies⟩⟩
end Go.Proofs.YtffngjgjhialnaaGreatDoor.StrApp
