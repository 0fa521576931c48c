/- Least. -/
import Derived.Test.YtmbdglhihakkjaaQc
set_option linter.unusedVariables false
set_option linter.unusedSimpArgs false
namespace Go.Proofs.Ytmbdglhihakkjaa
open Go.RowKit
set_option linter.unusedVariables false
set_option linter.unusedSimpArgs false
theorem LO.store2 {k B : Nat} {W : World} {D : Int} {a : Option Addr} {n c A : Nat} {P : LP} {x u : Value} {T : TypeId} (h : LO k B W D a n c P) (hA : W.heap[A]? = some (Obj.cells #[x, u] T)) (hT : T ≠ 61) (y z : Value) : LO k B ((W.setCell ⟨A, 0, none⟩ y).setCell ⟨A, 1, none⟩ z) D a n c P :=
  (h.set y hA hT).set z (heap_setCell_same _ _ 0 _ T y hA) hT
theorem LO.base {k B B' : Nat} {W : World} {D : Int} {a : Option Addr} {n c : Nat} {P : LP} (h : LO k B W D a n c P) (hB : B' ≤ B) : LO k B' W D a n c P := ⟨h.1, h.2.1, owns_mono h.2.2 hB⟩
theorem LO.up {k k' B : Nat} {W : World} {D : Int} {a : Option Addr} {n c : Nat} {P : LP} (h : LO k B W D a n c P) (hk : k ≤ k') (hk' : k' ≤ 1000000) : LO k' B W D a n c P := ⟨h.1, ⟨by have := h.2.1.1; omega, hk'⟩, h.2.2⟩
set_option maxHeartbeats 2000000 in
set_option maxRecDepth 100000 in
theorem least_m {w : World} {D0 : Int} {a0 : Option Addr} {n0 c0 : Nat} {P0 : LP} {D1 : Int} {a1 : Option Addr} {n1 c1 : Nat} {P1 : LP} (h0 : LA 100 w D0 a0 n0 c0 P0) (h1 : LA 100 w D1 a1 n1 c1 P1)  : Calls Try.prog 36 #[.agg #[.int .i64 D0, .slice a0 n0 c0], .agg #[.int .i64 D1, .slice a1 n1 c1]] w (LM 1000 w (lsD D0 D1) (lsP D0 P0 D1 P1)) := by
  obtain ⟨W0, e0⟩ : ∃ W0, W0 = (((w.alloc (Obj.cells #[.int .i64 D0, .slice a0 n0 c0] 29)).alloc (Obj.cells #[.int .i64 D1, .slice a1 n1 c1] 29)).alloc (Obj.cells #[.int .i64 0, .slice none 0 0] 29)) := ⟨_, rfl⟩
  have hB : Below w.heap.size w W0 := by rw [e0]; exact ((((Below.refl w.heap.size w).alloc (by omega) _).alloc (by simp <;> omega) _).alloc (by simp <;> omega) _)
  have hk0 : W0.heap[w.heap.size]? = some (Obj.cells #[.int .i64 D0, .slice a0 n0 c0] 29) := by
    rw [e0]
    rw [Below.heap_alloc _ _ _ (by simp <;> omega)]
    rw [Below.heap_alloc _ _ _ (by simp <;> omega)]
    have := heap_alloc_new w (Obj.cells #[.int .i64 D0, .slice a0 n0 c0] 29); simpa using this
  have hk1 : W0.heap[w.heap.size + 1]? = some (Obj.cells #[.int .i64 D1, .slice a1 n1 c1] 29) := by
    rw [e0]
    rw [Below.heap_alloc _ _ _ (by simp <;> omega)]
    have := heap_alloc_new (w.alloc (Obj.cells #[.int .i64 D0, .slice a0 n0 c0] 29)) (Obj.cells #[.int .i64 D1, .slice a1 n1 c1] 29); simpa using this
  have hk2 : W0.heap[w.heap.size + 2]? = some (Obj.cells #[.int .i64 0, .slice none 0 0] 29) := by
    rw [e0]
    have := heap_alloc_new ((w.alloc (Obj.cells #[.int .i64 D0, .slice a0 n0 c0] 29)).alloc (Obj.cells #[.int .i64 D1, .slice a1 n1 c1] 29)) (Obj.cells #[.int .i64 0, .slice none 0 0] 29); simpa using this
  have HS := Lib.hid (fun (wx : World) (hx : Below W0.heap.size W0 wx) => (by
      have hw : Below w.heap.size w wx := hB.trans (hx.mono hB.size)
      have r0 := (hx.block _ (Array.getElem?_eq_some_iff.1 hk0).1).trans hk0
      have r1 := (hx.block _ (Array.getElem?_eq_some_iff.1 hk1).1).trans hk1
      have r2 := (hx.block _ (Array.getElem?_eq_some_iff.1 hk2).1).trans hk2
      exact ⟨hw, by rw [cell_of_row _ _ 0 _ 29 (0, 0) r0]; rfl, by rw [cell_of_row _ _ 1 _ 29 (0, 0) r0]; rfl, by rw [cell_of_row _ _ 0 _ 29 (0, 0) r1]; rfl, by rw [cell_of_row _ _ 1 _ 29 (0, 0) r1]; rfl, h0.below hw, h1.below hw⟩ : Below w.heap.size w wx ∧ wx.cell? ⟨w.heap.size, 0, none⟩ = some (.int .i64 D0) ∧ wx.cell? ⟨w.heap.size, 1, none⟩ = some (.slice a0 n0 c0) ∧ wx.cell? ⟨w.heap.size + 1, 0, none⟩ = some (.int .i64 D1) ∧ wx.cell? ⟨w.heap.size + 1, 1, none⟩ = some (.slice a1 n1 c1) ∧ LA 100 wx D0 a0 n0 c0 P0 ∧ LA 100 wx D1 a1 n1 c1 P1))
  have HRES := Lib.hid (fun (wx : World) (hx : Below W0.heap.size W0 wx) => ((hx.block _ (Array.getElem?_eq_some_iff.1 hk2).1).trans hk2 : wx.heap[w.heap.size + 2]? = some (Obj.cells #[.int .i64 0, .slice none 0 0] 29)))
  clear h0 h1 hB hk0 hk1 hk2
  go_enter Try.func36, Try.ntmps36
  go_upto_region 1 with fail
  rw [← e0]
  clear e0
  have hHeld := Below.refl W0.heap.size W0
  refine region_AU (Z := fun j => j == 6) (S := fun w' => Below W0.heap.size W0 w') (by kernel_rfl) (hHeld.drew) (fun hHeld => ?_)
  refine AUS_take (by kernel_rfl) rfl (i := 0) (oi := _) (v := ?vw1) rfl (by kernel_rfl) (by kernel_rfl) (by kernel_rfl) (fun _ _ _ h => h) (Or.inl ⟨by rfl, ?hz1⟩) hHeld ?rst1
  case hz1 => (intro wS hSw; obtain ⟨_, f0, f1, f2, f3, _, _⟩ := HS.out wS hSw; clear hSw; go_simp; try with_reducible rfl)
  simp only [Act.put, List.getElem_toArray, List.getElem_cons_zero, List.getElem_cons_succ, List.setIfInBounds_toArray, List.set_cons_zero, List.set_cons_succ]
  refine AUS_take (by kernel_rfl) rfl (i := 2) (oi := _) (v := ?vw2) rfl (by kernel_rfl) (by kernel_rfl) (by kernel_rfl) (fun _ _ _ h => h) (Or.inl ⟨by rfl, ?hz2⟩) hHeld ?rst2
  case hz2 => (intro wS hSw; obtain ⟨_, f0, f1, f2, f3, _, _⟩ := HS.out wS hSw; clear hSw; go_simp; try with_reducible rfl)
  simp only [Act.put, List.getElem_toArray, List.getElem_cons_zero, List.getElem_cons_succ, List.setIfInBounds_toArray, List.set_cons_zero, List.set_cons_succ]
  have HH := Lib.hid hHeld
  obtain ⟨hbw, _, _, _, _, g0, g1⟩ := HS.out _ hHeld
  refine AU_one (i := 1) (o := _) (by kernel_rfl) rfl (fun K hK => ?_)
  have CC := Lib.hid (raise_m g0 (by omega))
  clear hHeld hbw g0 g1
  go_simp
  refine CC.out.mono ?_
  clear CC
  rintro e wz1 ⟨a2, n2, c2, rfl, l2, hb⟩
  have hHeld := HH.out.trans (hb.mono HH.out.size)
  clear HH hb
  refine hK.out _ _ (fun _ => hHeld) ?_
  clear hK K
  try simp only [Act.put, List.getElem_toArray, List.getElem_cons_zero, List.getElem_cons_succ, List.setIfInBounds_toArray, List.set_cons_zero, List.set_cons_succ]
  have HH := Lib.hid hHeld
  obtain ⟨hbw, _, _, _, _, g0, g1⟩ := HS.out _ hHeld
  refine AU_one (i := 3) (o := _) (by kernel_rfl) rfl (fun K hK => ?_)
  have CC := Lib.hid (raise_m g1 (by omega))
  clear hHeld hbw g0 g1
  go_simp
  refine CC.out.mono ?_
  clear CC
  rintro e wz2 ⟨a3, n3, c3, rfl, l3, hb⟩
  have hHeld := HH.out.trans (hb.mono HH.out.size)
  replace l2 := l2.below hb
  clear HH hb
  refine hK.out _ _ (fun _ => hHeld) ?_
  clear hK K
  try simp only [Act.put, List.getElem_toArray, List.getElem_cons_zero, List.getElem_cons_succ, List.setIfInBounds_toArray, List.set_cons_zero, List.set_cons_succ]
  have HH := Lib.hid hHeld
  obtain ⟨hbw, _, _, _, _, g0, g1⟩ := HS.out _ hHeld
  refine AU_one (i := 4) (o := _) (by kernel_rfl) rfl (fun K hK => ?_)
  have CC := Lib.hid (join_m l2.la l3.la (by omega) (by omega))
  clear hHeld hbw g0 g1
  go_simp
  refine CC.out.mono ?_
  clear CC
  rintro e wz3 ⟨a4, n4, c4, rfl, l4, hb⟩
  have hHeld := HH.out.trans (hb.mono HH.out.size)
  replace l2 := l2.below hb
  replace l3 := l3.below hb
  clear HH hb
  refine hK.out _ _ (fun _ => hHeld) ?_
  clear hK K
  try simp only [Act.put, List.getElem_toArray, List.getElem_cons_zero, List.getElem_cons_succ, List.setIfInBounds_toArray, List.set_cons_zero, List.set_cons_succ]
  have HQ := Lib.hid (HS.out _ hHeld).1.size
  have HH := Lib.hid hHeld
  obtain ⟨hbw, _, _, _, _, g0, g1⟩ := HS.out _ hHeld
  refine AU_one (i := 5) (o := _) (by kernel_rfl) rfl (fun K hK => ?_)
  have CC := Lib.hid (lower_m l4.la (by omega))
  clear hHeld hbw g0 g1
  go_simp
  refine CC.out.mono ?_
  clear CC
  rintro e wz4 ⟨a5, n5, c5, rfl, l5, hb⟩
  have hHeld := HH.out.trans (hb.mono HH.out.size)
  replace l2 := l2.below hb
  replace l3 := l3.below hb
  replace l4 := l4.below hb
  clear HH hb
  refine hK.out _ _ (fun _ => hHeld) ?_
  clear hK K
  try simp only [Act.put, List.getElem_toArray, List.getElem_cons_zero, List.getElem_cons_succ, List.setIfInBounds_toArray, List.set_cons_zero, List.set_cons_succ]
  have HH := Lib.hid hHeld
  have HL := Lib.hid l5
  have hr := HRES.out _ hHeld
  obtain ⟨s0, s1, s2, s3, s4, _⟩ := old2 _ _ 29 _ _ (.int .i64 (Lab.turn 5 0 (max (Lab.turn 0 5 D0) (Lab.turn 0 5 D1)))) (.slice a5 n5 c5) hr
  have S4 := Lib.hid s4
  have HR := Lib.hid hr
  refine AU_one (i := 6) (o := _) (by kernel_rfl) rfl (fun K hK => ?_)
  clear hHeld hr s4 l2 l3 l4 l5
  go_simp
  refine hK.out _ _ (fun h => by cases h) ?_
  clear hK K
  try simp only [Act.put, List.getElem_toArray, List.getElem_cons_zero, List.getElem_cons_succ, List.setIfInBounds_toArray, List.set_cons_zero, List.set_cons_succ]
  refine AU_done (by kernel_rfl) ?_ _
  simp only [OnlyN]
  have HE := Lib.hid ((HS.out _ HH.out).1)
  have HB := Lib.hid (show LM 1000 w (lsD D0 D1) (lsP D0 P0 D1 P1) (.returned (.agg #[.int .i64 (Lab.turn 5 0 (max (Lab.turn 0 5 D0) (Lab.turn 0 5 D1))), .slice a5 n5 c5])) _ from ⟨_, _, _, rfl, ((HL.out.base HQ.out).up (by omega) (by omega)).store2 HR.out (by decide) (.int .i64 (Lab.turn 5 0 (max (Lab.turn 0 5 D0) (Lab.turn 0 5 D1)))) (.slice a5 n5 c5), (HE.out.setCell (p := ⟨w.heap.size + 1 + 1, 0, none⟩) (by simp <;> omega) _).setCell (p := ⟨w.heap.size + 1 + 1, 1, none⟩) (by simp <;> omega) _⟩)
  go_wp2_with fail
  refine bodyPost_ret (results_cell_row (by rfl) _ _ (w.heap.size + 1 + 1) 29 _ (0, 0) _ (by rfl) S4.out Try.underlying29 rfl info24) rfl HB.out
set_option maxHeartbeats 2000000 in
set_option maxRecDepth 100000 in
theorem rleast_m {w : World} {D0 : Int} {a0 : Option Addr} {n0 c0 : Nat} {P0 : LP} {D1 : Int} {a1 : Option Addr} {n1 c1 : Nat} {P1 : LP} (h0 : LA 100 w D0 a0 n0 c0 P0) (h1 : LA 100 w D1 a1 n1 c1 P1)  : Calls Try.prog 37 #[.agg #[.int .i64 D0, .slice a0 n0 c0], .agg #[.int .i64 D1, .slice a1 n1 c1]] w (LM 1000 w (lsD D0 D1) (lsP D0 P0 D1 P1)) := by
  obtain ⟨W0, e0⟩ : ∃ W0, W0 = (((w.alloc (Obj.cells #[.int .i64 D0, .slice a0 n0 c0] 29)).alloc (Obj.cells #[.int .i64 D1, .slice a1 n1 c1] 29)).alloc (Obj.cells #[.int .i64 0, .slice none 0 0] 29)) := ⟨_, rfl⟩
  have hB : Below w.heap.size w W0 := by rw [e0]; exact ((((Below.refl w.heap.size w).alloc (by omega) _).alloc (by simp <;> omega) _).alloc (by simp <;> omega) _)
  have hk0 : W0.heap[w.heap.size]? = some (Obj.cells #[.int .i64 D0, .slice a0 n0 c0] 29) := by
    rw [e0]
    rw [Below.heap_alloc _ _ _ (by simp <;> omega)]
    rw [Below.heap_alloc _ _ _ (by simp <;> omega)]
    have := heap_alloc_new w (Obj.cells #[.int .i64 D0, .slice a0 n0 c0] 29); simpa using this
  have hk1 : W0.heap[w.heap.size + 1]? = some (Obj.cells #[.int .i64 D1, .slice a1 n1 c1] 29) := by
    rw [e0]
    rw [Below.heap_alloc _ _ _ (by simp <;> omega)]
    have := heap_alloc_new (w.alloc (Obj.cells #[.int .i64 D0, .slice a0 n0 c0] 29)) (Obj.cells #[.int .i64 D1, .slice a1 n1 c1] 29); simpa using this
  have hk2 : W0.heap[w.heap.size + 2]? = some (Obj.cells #[.int .i64 0, .slice none 0 0] 29) := by
    rw [e0]
    have := heap_alloc_new ((w.alloc (Obj.cells #[.int .i64 D0, .slice a0 n0 c0] 29)).alloc (Obj.cells #[.int .i64 D1, .slice a1 n1 c1] 29)) (Obj.cells #[.int .i64 0, .slice none 0 0] 29); simpa using this
  have HS := Lib.hid (fun (wx : World) (hx : Below W0.heap.size W0 wx) => (by
      have hw : Below w.heap.size w wx := hB.trans (hx.mono hB.size)
      have r0 := (hx.block _ (Array.getElem?_eq_some_iff.1 hk0).1).trans hk0
      have r1 := (hx.block _ (Array.getElem?_eq_some_iff.1 hk1).1).trans hk1
      have r2 := (hx.block _ (Array.getElem?_eq_some_iff.1 hk2).1).trans hk2
      exact ⟨hw, by rw [cell_of_row _ _ 0 _ 29 (0, 0) r0]; rfl, by rw [cell_of_row _ _ 1 _ 29 (0, 0) r0]; rfl, by rw [cell_of_row _ _ 0 _ 29 (0, 0) r1]; rfl, by rw [cell_of_row _ _ 1 _ 29 (0, 0) r1]; rfl, h0.below hw, h1.below hw⟩ : Below w.heap.size w wx ∧ wx.cell? ⟨w.heap.size, 0, none⟩ = some (.int .i64 D0) ∧ wx.cell? ⟨w.heap.size, 1, none⟩ = some (.slice a0 n0 c0) ∧ wx.cell? ⟨w.heap.size + 1, 0, none⟩ = some (.int .i64 D1) ∧ wx.cell? ⟨w.heap.size + 1, 1, none⟩ = some (.slice a1 n1 c1) ∧ LA 100 wx D0 a0 n0 c0 P0 ∧ LA 100 wx D1 a1 n1 c1 P1))
  have HRES := Lib.hid (fun (wx : World) (hx : Below W0.heap.size W0 wx) => ((hx.block _ (Array.getElem?_eq_some_iff.1 hk2).1).trans hk2 : wx.heap[w.heap.size + 2]? = some (Obj.cells #[.int .i64 0, .slice none 0 0] 29)))
  clear h0 h1 hB hk0 hk1 hk2
  go_enter Try.func37, Try.ntmps37
  go_upto_region 1 with fail
  rw [← e0]
  clear e0
  have hHeld := Below.refl W0.heap.size W0
  refine region_AU (Z := fun j => j == 6) (S := fun w' => Below W0.heap.size W0 w') (by kernel_rfl) (hHeld.drew) (fun hHeld => ?_)
  refine AUS_take (by kernel_rfl) rfl (i := 0) (oi := _) (v := ?vw1) rfl (by kernel_rfl) (by kernel_rfl) (by kernel_rfl) (fun _ _ _ h => h) (Or.inl ⟨by rfl, ?hz1⟩) hHeld ?rst1
  case hz1 => (intro wS hSw; obtain ⟨_, f0, f1, f2, f3, _, _⟩ := HS.out wS hSw; clear hSw; go_simp; try with_reducible rfl)
  simp only [Act.put, List.getElem_toArray, List.getElem_cons_zero, List.getElem_cons_succ, List.setIfInBounds_toArray, List.set_cons_zero, List.set_cons_succ]
  refine AUS_take (by kernel_rfl) rfl (i := 2) (oi := _) (v := ?vw2) rfl (by kernel_rfl) (by kernel_rfl) (by kernel_rfl) (fun _ _ _ h => h) (Or.inl ⟨by rfl, ?hz2⟩) hHeld ?rst2
  case hz2 => (intro wS hSw; obtain ⟨_, f0, f1, f2, f3, _, _⟩ := HS.out wS hSw; clear hSw; go_simp; try with_reducible rfl)
  simp only [Act.put, List.getElem_toArray, List.getElem_cons_zero, List.getElem_cons_succ, List.setIfInBounds_toArray, List.set_cons_zero, List.set_cons_succ]
  have HH := Lib.hid hHeld
  obtain ⟨hbw, _, _, _, _, g0, g1⟩ := HS.out _ hHeld
  refine AU_one (i := 1) (o := _) (by kernel_rfl) rfl (fun K hK => ?_)
  have CC := Lib.hid (rraise_m g0 (by omega))
  clear hHeld hbw g0 g1
  go_simp
  refine CC.out.mono ?_
  clear CC
  rintro e wz1 ⟨a2, n2, c2, rfl, l2, hb⟩
  have hHeld := HH.out.trans (hb.mono HH.out.size)
  clear HH hb
  refine hK.out _ _ (fun _ => hHeld) ?_
  clear hK K
  try simp only [Act.put, List.getElem_toArray, List.getElem_cons_zero, List.getElem_cons_succ, List.setIfInBounds_toArray, List.set_cons_zero, List.set_cons_succ]
  have HH := Lib.hid hHeld
  obtain ⟨hbw, _, _, _, _, g0, g1⟩ := HS.out _ hHeld
  refine AU_one (i := 3) (o := _) (by kernel_rfl) rfl (fun K hK => ?_)
  have CC := Lib.hid (rraise_m g1 (by omega))
  clear hHeld hbw g0 g1
  go_simp
  refine CC.out.mono ?_
  clear CC
  rintro e wz2 ⟨a3, n3, c3, rfl, l3, hb⟩
  have hHeld := HH.out.trans (hb.mono HH.out.size)
  replace l2 := l2.below hb
  clear HH hb
  refine hK.out _ _ (fun _ => hHeld) ?_
  clear hK K
  try simp only [Act.put, List.getElem_toArray, List.getElem_cons_zero, List.getElem_cons_succ, List.setIfInBounds_toArray, List.set_cons_zero, List.set_cons_succ]
  have HH := Lib.hid hHeld
  obtain ⟨hbw, _, _, _, _, g0, g1⟩ := HS.out _ hHeld
  refine AU_one (i := 4) (o := _) (by kernel_rfl) rfl (fun K hK => ?_)
  have CC := Lib.hid (rmerge_m l2.la l3.la (by omega) (by omega))
  clear hHeld hbw g0 g1
  go_simp
  refine CC.out.mono ?_
  clear CC
  rintro e wz3 ⟨a4, n4, c4, rfl, l4, hb⟩
  have hHeld := HH.out.trans (hb.mono HH.out.size)
  replace l2 := l2.below hb
  replace l3 := l3.below hb
  clear HH hb
  refine hK.out _ _ (fun _ => hHeld) ?_
  clear hK K
  try simp only [Act.put, List.getElem_toArray, List.getElem_cons_zero, List.getElem_cons_succ, List.setIfInBounds_toArray, List.set_cons_zero, List.set_cons_succ]
  have HQ := Lib.hid (HS.out _ hHeld).1.size
  have HH := Lib.hid hHeld
  obtain ⟨hbw, _, _, _, _, g0, g1⟩ := HS.out _ hHeld
  refine AU_one (i := 5) (o := _) (by kernel_rfl) rfl (fun K hK => ?_)
  have CC := Lib.hid (rlower_m l4.la (by omega))
  clear hHeld hbw g0 g1
  go_simp
  refine CC.out.mono ?_
  clear CC
  rintro e wz4 ⟨a5, n5, c5, rfl, l5, hb⟩
  have hHeld := HH.out.trans (hb.mono HH.out.size)
  replace l2 := l2.below hb
  replace l3 := l3.below hb
  replace l4 := l4.below hb
  clear HH hb
  refine hK.out _ _ (fun _ => hHeld) ?_
  clear hK K
  try simp only [Act.put, List.getElem_toArray, List.getElem_cons_zero, List.getElem_cons_succ, List.setIfInBounds_toArray, List.set_cons_zero, List.set_cons_succ]
  have HH := Lib.hid hHeld
  have HL := Lib.hid l5
  have hr := HRES.out _ hHeld
  obtain ⟨s0, s1, s2, s3, s4, _⟩ := old2 _ _ 29 _ _ (.int .i64 (Lab.turn 5 0 (max (Lab.turn 0 5 D0) (Lab.turn 0 5 D1)))) (.slice a5 n5 c5) hr
  have S4 := Lib.hid s4
  have HR := Lib.hid hr
  refine AU_one (i := 6) (o := _) (by kernel_rfl) rfl (fun K hK => ?_)
  clear hHeld hr s4 l2 l3 l4 l5
  go_simp
  refine hK.out _ _ (fun h => by cases h) ?_
  clear hK K
  try simp only [Act.put, List.getElem_toArray, List.getElem_cons_zero, List.getElem_cons_succ, List.setIfInBounds_toArray, List.set_cons_zero, List.set_cons_succ]
  refine AU_done (by kernel_rfl) ?_ _
  simp only [OnlyN]
  have HE := Lib.hid ((HS.out _ HH.out).1)
  have HB := Lib.hid (show LM 1000 w (lsD D0 D1) (lsP D0 P0 D1 P1) (.returned (.agg #[.int .i64 (Lab.turn 5 0 (max (Lab.turn 0 5 D0) (Lab.turn 0 5 D1))), .slice a5 n5 c5])) _ from ⟨_, _, _, rfl, ((HL.out.base HQ.out).up (by omega) (by omega)).store2 HR.out (by decide) (.int .i64 (Lab.turn 5 0 (max (Lab.turn 0 5 D0) (Lab.turn 0 5 D1)))) (.slice a5 n5 c5), (HE.out.setCell (p := ⟨w.heap.size + 1 + 1, 0, none⟩) (by simp <;> omega) _).setCell (p := ⟨w.heap.size + 1 + 1, 1, none⟩) (by simp <;> omega) _⟩)
  go_wp2_with fail
  refine bodyPost_ret (results_cell_row (by rfl) _ _ (w.heap.size + 1 + 1) 29 _ (0, 0) _ (by rfl) S4.out Try.underlying29 rfl info24) rfl HB.out
end Go.Proofs.Ytmbdglhihakkjaa
