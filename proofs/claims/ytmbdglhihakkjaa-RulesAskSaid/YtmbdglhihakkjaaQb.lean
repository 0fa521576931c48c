/- rules.Read, Change, Sees and glacisref16's; glacisref16.Self. -/
import Derived.Test.YtmbdglhihakkjaaQa
import Derived.Test.YtmbdglhihakkjaaVq
set_option linter.unusedVariables false
set_option linter.unusedSimpArgs false
namespace Go.Proofs.Ytmbdglhihakkjaa
open Go.RowKit
set_option linter.unusedVariables false
set_option linter.unusedSimpArgs false
set_option maxHeartbeats 2000000 in
set_option maxRecDepth 100000 in
theorem read_m {w : World} {D0 : Int} {a0 : Option Addr} {n0 c0 : Nat} {P0 : LP} {D1 : Int} {a1 : Option Addr} {n1 c1 : Nat} {P1 : LP} (h0 : LA 100 w D0 a0 n0 c0 P0) (h1 : LA 100 w D1 a1 n1 c1 P1)  : Calls Try.prog 13 #[.agg #[.int .i64 D0, .slice a0 n0 c0], .agg #[.int .i64 D1, .slice a1 n1 c1]] w (BB w (rd D0 P0 D1 P1)) := by
  obtain ⟨W0, e0⟩ : ∃ W0, W0 = ((w.alloc (Obj.cells #[.int .i64 D0, .slice a0 n0 c0] 29)).alloc (Obj.cells #[.int .i64 D1, .slice a1 n1 c1] 29)) := ⟨_, rfl⟩
  have hB : Below w.heap.size w W0 := by rw [e0]; exact (((Below.refl w.heap.size w).alloc (by omega) _).alloc (by simp <;> omega) _)
  have hk0 : W0.heap[w.heap.size]? = some (Obj.cells #[.int .i64 D0, .slice a0 n0 c0] 29) := by
    rw [e0]
    rw [Below.heap_alloc _ _ _ (by simp <;> omega)]
    have := heap_alloc_new w (Obj.cells #[.int .i64 D0, .slice a0 n0 c0] 29); simpa using this
  have hk1 : W0.heap[w.heap.size + 1]? = some (Obj.cells #[.int .i64 D1, .slice a1 n1 c1] 29) := by
    rw [e0]
    have := heap_alloc_new (w.alloc (Obj.cells #[.int .i64 D0, .slice a0 n0 c0] 29)) (Obj.cells #[.int .i64 D1, .slice a1 n1 c1] 29); simpa using this
  have HS := Lib.hid (fun (wx : World) (hx : Below W0.heap.size W0 wx) => (by
      have hw : Below w.heap.size w wx := hB.trans (hx.mono hB.size)
      have r0 := (hx.block _ (Array.getElem?_eq_some_iff.1 hk0).1).trans hk0
      have r1 := (hx.block _ (Array.getElem?_eq_some_iff.1 hk1).1).trans hk1
      exact ⟨hw, by rw [cell_of_row _ _ 0 _ 29 (0, 0) r0]; rfl, by rw [cell_of_row _ _ 1 _ 29 (0, 0) r0]; rfl, by rw [cell_of_row _ _ 0 _ 29 (0, 0) r1]; rfl, by rw [cell_of_row _ _ 1 _ 29 (0, 0) r1]; rfl, h0.below hw, h1.below hw⟩ : Below w.heap.size w wx ∧ wx.cell? ⟨w.heap.size, 0, none⟩ = some (.int .i64 D0) ∧ wx.cell? ⟨w.heap.size, 1, none⟩ = some (.slice a0 n0 c0) ∧ wx.cell? ⟨w.heap.size + 1, 0, none⟩ = some (.int .i64 D1) ∧ wx.cell? ⟨w.heap.size + 1, 1, none⟩ = some (.slice a1 n1 c1) ∧ LA 100 wx D0 a0 n0 c0 P0 ∧ LA 100 wx D1 a1 n1 c1 P1))
  clear h0 h1 hB hk0 hk1
  go_enter Try.func13, Try.ntmps13
  go_upto_region 1 with fail
  rw [← e0]
  clear e0
  have hHeld := Below.refl W0.heap.size W0
  refine region_AU (Z := fun j => false) (S := fun w' => Below W0.heap.size W0 w') (by kernel_rfl) (hHeld.drew) (fun hHeld => ?_)
  refine AUS_take (by kernel_rfl) rfl (i := 0) (oi := _) (v := ?vw1) rfl (by kernel_rfl) (by kernel_rfl) (by kernel_rfl) (fun _ _ _ h => h) (Or.inl ⟨by rfl, ?hz1⟩) hHeld ?rst1
  case hz1 => (intro wS hSw; obtain ⟨_, f0, f1, f2, f3, _, _⟩ := HS.out wS hSw; clear hSw; go_simp; try with_reducible rfl)
  simp only [Act.put, List.getElem_toArray, List.getElem_cons_zero, List.getElem_cons_succ, List.setIfInBounds_toArray, List.set_cons_zero, List.set_cons_succ]
  refine AUS_take (by kernel_rfl) rfl (i := 1) (oi := _) (v := ?vw2) rfl (by kernel_rfl) (by kernel_rfl) (by kernel_rfl) (fun _ _ _ h => h) (Or.inl ⟨by rfl, ?hz2⟩) hHeld ?rst2
  case hz2 => (intro wS hSw; obtain ⟨_, f0, f1, f2, f3, _, _⟩ := HS.out wS hSw; clear hSw; go_simp; try with_reducible rfl)
  simp only [Act.put, List.getElem_toArray, List.getElem_cons_zero, List.getElem_cons_succ, List.setIfInBounds_toArray, List.set_cons_zero, List.set_cons_succ]
  have HH := Lib.hid hHeld
  obtain ⟨hbw, _, _, _, _, g0, g1⟩ := HS.out _ hHeld
  refine AU_one (i := 2) (o := _) (by kernel_rfl) rfl (fun K hK => ?_)
  have CC := Lib.hid (raise_m g0 (by omega))
  clear hHeld hbw g0 g1
  go_simp
  refine CC.out.mono ?_
  clear CC
  rintro e wz1 ⟨a2, n2, c2, rfl, l2, hb⟩
  have hHeld := HH.out.trans (hb.mono HH.out.size)
  clear HH hb
  refine hK.out _ _ (fun _ => hHeld) ?_
  clear hK K
  try simp only [Act.put, List.getElem_toArray, List.getElem_cons_zero, List.getElem_cons_succ, List.setIfInBounds_toArray, List.set_cons_zero, List.set_cons_succ]
  have HH := Lib.hid hHeld
  obtain ⟨hbw, _, _, _, _, g0, g1⟩ := HS.out _ hHeld
  refine AU_one (i := 3) (o := _) (by kernel_rfl) rfl (fun K hK => ?_)
  obtain ⟨b2, E2⟩ : ∃ b, Hid (lq D1 P1 (Lab.turn 0 5 D0) (Lab.tn 0 5 D0 P0) = b) := ⟨_, Lib.hid rfl⟩
  have CC := leq_m g1 l2.la (by omega) (by omega)
  rw [E2.out] at CC
  have CC := Lib.hid CC
  clear hHeld hbw g0 g1
  go_simp
  refine CC.out.mono ?_
  clear CC
  rintro e wz2 ⟨rfl, hb⟩
  have hHeld := HH.out.trans (hb.mono HH.out.size)
  replace l2 := l2.below hb
  clear HH hb
  refine hK.out _ _ (fun _ => hHeld) ?_
  clear hK K
  try simp only [Act.put, List.getElem_toArray, List.getElem_cons_zero, List.getElem_cons_succ, List.setIfInBounds_toArray, List.set_cons_zero, List.set_cons_succ]
  refine AUS_take (by kernel_rfl) rfl (i := 4) (oi := _) (v := ?vw3) rfl (by kernel_rfl) (by kernel_rfl) (by kernel_rfl) (fun _ _ _ h => h) (Or.inl ⟨by rfl, ?hz3⟩) hHeld ?rst3
  case hz3 => (intro wS hSw; obtain ⟨_, f0, f1, f2, f3, _, _⟩ := HS.out wS hSw; clear hSw; go_simp; try with_reducible rfl)
  simp only [Act.put, List.getElem_toArray, List.getElem_cons_zero, List.getElem_cons_succ, List.setIfInBounds_toArray, List.set_cons_zero, List.set_cons_succ]
  have HE := Lib.hid hHeld
  clear hHeld
  refine AU_done (by kernel_rfl) ?_ _
  simp only [OnlyN]
  have hHeld := HE.out
  clear HE
  have HE := Lib.hid (HS.out _ hHeld).1
  clear hHeld
  go_wp2_with fail
  go_ret
  exact ⟨by simp [rd, E2.out], HE.out⟩
set_option maxHeartbeats 2000000 in
set_option maxRecDepth 100000 in
theorem change_m {w : World} {D0 : Int} {a0 : Option Addr} {n0 c0 : Nat} {P0 : LP} {D1 : Int} {a1 : Option Addr} {n1 c1 : Nat} {P1 : LP} (h0 : LA 100 w D0 a0 n0 c0 P0) (h1 : LA 100 w D1 a1 n1 c1 P1)  : Calls Try.prog 15 #[.agg #[.int .i64 D0, .slice a0 n0 c0], .agg #[.int .i64 D1, .slice a1 n1 c1]] w (BB w (ch D0 P0 D1 P1)) := by
  obtain ⟨W0, e0⟩ : ∃ W0, W0 = ((w.alloc (Obj.cells #[.int .i64 D0, .slice a0 n0 c0] 29)).alloc (Obj.cells #[.int .i64 D1, .slice a1 n1 c1] 29)) := ⟨_, rfl⟩
  have hB : Below w.heap.size w W0 := by rw [e0]; exact (((Below.refl w.heap.size w).alloc (by omega) _).alloc (by simp <;> omega) _)
  have hk0 : W0.heap[w.heap.size]? = some (Obj.cells #[.int .i64 D0, .slice a0 n0 c0] 29) := by
    rw [e0]
    rw [Below.heap_alloc _ _ _ (by simp <;> omega)]
    have := heap_alloc_new w (Obj.cells #[.int .i64 D0, .slice a0 n0 c0] 29); simpa using this
  have hk1 : W0.heap[w.heap.size + 1]? = some (Obj.cells #[.int .i64 D1, .slice a1 n1 c1] 29) := by
    rw [e0]
    have := heap_alloc_new (w.alloc (Obj.cells #[.int .i64 D0, .slice a0 n0 c0] 29)) (Obj.cells #[.int .i64 D1, .slice a1 n1 c1] 29); simpa using this
  have HS := Lib.hid (fun (wx : World) (hx : Below W0.heap.size W0 wx) => (by
      have hw : Below w.heap.size w wx := hB.trans (hx.mono hB.size)
      have r0 := (hx.block _ (Array.getElem?_eq_some_iff.1 hk0).1).trans hk0
      have r1 := (hx.block _ (Array.getElem?_eq_some_iff.1 hk1).1).trans hk1
      exact ⟨hw, by rw [cell_of_row _ _ 0 _ 29 (0, 0) r0]; rfl, by rw [cell_of_row _ _ 1 _ 29 (0, 0) r0]; rfl, by rw [cell_of_row _ _ 0 _ 29 (0, 0) r1]; rfl, by rw [cell_of_row _ _ 1 _ 29 (0, 0) r1]; rfl, h0.below hw, h1.below hw⟩ : Below w.heap.size w wx ∧ wx.cell? ⟨w.heap.size, 0, none⟩ = some (.int .i64 D0) ∧ wx.cell? ⟨w.heap.size, 1, none⟩ = some (.slice a0 n0 c0) ∧ wx.cell? ⟨w.heap.size + 1, 0, none⟩ = some (.int .i64 D1) ∧ wx.cell? ⟨w.heap.size + 1, 1, none⟩ = some (.slice a1 n1 c1) ∧ LA 100 wx D0 a0 n0 c0 P0 ∧ LA 100 wx D1 a1 n1 c1 P1))
  clear h0 h1 hB hk0 hk1
  go_enter Try.func15, Try.ntmps15
  go_upto_region 1 with fail
  rw [← e0]
  clear e0
  have hHeld := Below.refl W0.heap.size W0
  have HH := Lib.hid hHeld
  obtain ⟨hbw, _, _, _, _, g0, g1⟩ := HS.out _ hHeld
  obtain ⟨b1, E1⟩ : ∃ b, Hid (lq D0 P0 D1 P1 = b) := ⟨_, Lib.hid rfl⟩
  have CC := leq_m g0 g1 (by omega) (by omega)
  rw [E1.out] at CC
  have CC := Lib.hid CC
  clear hHeld hbw g0 g1
  obtain ⟨_, f0, f1, f2, f3, _, _⟩ := HS.out _ HH.out
  go_wp2_with fail
  refine CC.out.mono ?_
  clear CC f0 f1 f2 f3
  rintro e wz1 ⟨rfl, hb⟩
  have hHeld := HH.out.trans (hb.mono HH.out.size)
  clear HH hb
  cases b1
  · skip
    have HE := Lib.hid (HS.out _ hHeld).1
    clear hHeld
    go_wp2_with fail
    go_ret
    exact ⟨by simp [ch, E1.out], HE.out⟩
  · skip
    have HH := Lib.hid hHeld
    obtain ⟨hbw, _, _, _, _, g0, g1⟩ := HS.out _ hHeld
    obtain ⟨b2, E2⟩ : ∃ b, Hid (rd D0 P0 D1 P1 = b) := ⟨_, Lib.hid rfl⟩
    have CC := read_m (g0.mono (by omega)) (g1.mono (by omega))
    rw [E2.out] at CC
    have CC := Lib.hid CC
    clear hHeld hbw g0 g1
    obtain ⟨_, f0, f1, f2, f3, _, _⟩ := HS.out _ HH.out
    go_wp2_with fail
    refine CC.out.mono ?_
    clear CC f0 f1 f2 f3
    rintro e wz2 ⟨rfl, hb⟩
    have hHeld := HH.out.trans (hb.mono HH.out.size)
    clear HH hb
    have HE := Lib.hid (HS.out _ hHeld).1
    clear hHeld
    go_wp2_with fail
    go_ret
    exact ⟨by simp [ch, E1.out, E2.out], HE.out⟩
set_option maxHeartbeats 2000000 in
set_option maxRecDepth 100000 in
theorem sees_m {w : World} {D0 : Int} {a0 : Option Addr} {n0 c0 : Nat} {P0 : LP} {D1 : Int} {a1 : Option Addr} {n1 c1 : Nat} {P1 : LP} (h0 : LA 100 w D0 a0 n0 c0 P0) (h1 : LA 100 w D1 a1 n1 c1 P1)  : Calls Try.prog 25 #[.agg #[.int .i64 D0, .slice a0 n0 c0], .agg #[.int .i64 D1, .slice a1 n1 c1]] w (BB w (rd D0 P0 D1 P1)) := by
  obtain ⟨W0, e0⟩ : ∃ W0, W0 = ((w.alloc (Obj.cells #[.int .i64 D0, .slice a0 n0 c0] 29)).alloc (Obj.cells #[.int .i64 D1, .slice a1 n1 c1] 29)) := ⟨_, rfl⟩
  have hB : Below w.heap.size w W0 := by rw [e0]; exact (((Below.refl w.heap.size w).alloc (by omega) _).alloc (by simp <;> omega) _)
  have hk0 : W0.heap[w.heap.size]? = some (Obj.cells #[.int .i64 D0, .slice a0 n0 c0] 29) := by
    rw [e0]
    rw [Below.heap_alloc _ _ _ (by simp <;> omega)]
    have := heap_alloc_new w (Obj.cells #[.int .i64 D0, .slice a0 n0 c0] 29); simpa using this
  have hk1 : W0.heap[w.heap.size + 1]? = some (Obj.cells #[.int .i64 D1, .slice a1 n1 c1] 29) := by
    rw [e0]
    have := heap_alloc_new (w.alloc (Obj.cells #[.int .i64 D0, .slice a0 n0 c0] 29)) (Obj.cells #[.int .i64 D1, .slice a1 n1 c1] 29); simpa using this
  have HS := Lib.hid (fun (wx : World) (hx : Below W0.heap.size W0 wx) => (by
      have hw : Below w.heap.size w wx := hB.trans (hx.mono hB.size)
      have r0 := (hx.block _ (Array.getElem?_eq_some_iff.1 hk0).1).trans hk0
      have r1 := (hx.block _ (Array.getElem?_eq_some_iff.1 hk1).1).trans hk1
      exact ⟨hw, by rw [cell_of_row _ _ 0 _ 29 (0, 0) r0]; rfl, by rw [cell_of_row _ _ 1 _ 29 (0, 0) r0]; rfl, by rw [cell_of_row _ _ 0 _ 29 (0, 0) r1]; rfl, by rw [cell_of_row _ _ 1 _ 29 (0, 0) r1]; rfl, h0.below hw, h1.below hw⟩ : Below w.heap.size w wx ∧ wx.cell? ⟨w.heap.size, 0, none⟩ = some (.int .i64 D0) ∧ wx.cell? ⟨w.heap.size, 1, none⟩ = some (.slice a0 n0 c0) ∧ wx.cell? ⟨w.heap.size + 1, 0, none⟩ = some (.int .i64 D1) ∧ wx.cell? ⟨w.heap.size + 1, 1, none⟩ = some (.slice a1 n1 c1) ∧ LA 100 wx D0 a0 n0 c0 P0 ∧ LA 100 wx D1 a1 n1 c1 P1))
  clear h0 h1 hB hk0 hk1
  go_enter Try.func25, Try.ntmps25
  go_upto_region 1 with fail
  rw [← e0]
  clear e0
  have hHeld := Below.refl W0.heap.size W0
  have HH := Lib.hid hHeld
  obtain ⟨hbw, _, _, _, _, g0, g1⟩ := HS.out _ hHeld
  obtain ⟨b1, E1⟩ : ∃ b, Hid (rd D0 P0 D1 P1 = b) := ⟨_, Lib.hid rfl⟩
  have CC := read_m (g0.mono (by omega)) (g1.mono (by omega))
  rw [E1.out] at CC
  have CC := Lib.hid CC
  clear hHeld hbw g0 g1
  obtain ⟨_, f0, f1, f2, f3, _, _⟩ := HS.out _ HH.out
  go_wp2_with fail
  refine CC.out.mono ?_
  clear CC f0 f1 f2 f3
  rintro e wz1 ⟨rfl, hb⟩
  have hHeld := HH.out.trans (hb.mono HH.out.size)
  clear HH hb
  have HE := Lib.hid (HS.out _ hHeld).1
  clear hHeld
  go_wp2_with fail
  go_ret
  exact ⟨by simp [E1.out], HE.out⟩
set_option maxHeartbeats 2000000 in
set_option maxRecDepth 100000 in
theorem rread_m {w : World} {D0 : Int} {a0 : Option Addr} {n0 c0 : Nat} {P0 : LP} {D1 : Int} {a1 : Option Addr} {n1 c1 : Nat} {P1 : LP} (h0 : LA 100 w D0 a0 n0 c0 P0) (h1 : LA 100 w D1 a1 n1 c1 P1)  : Calls Try.prog 14 #[.agg #[.int .i64 D0, .slice a0 n0 c0], .agg #[.int .i64 D1, .slice a1 n1 c1]] w (BB w (rd D0 P0 D1 P1)) := by
  obtain ⟨W0, e0⟩ : ∃ W0, W0 = ((w.alloc (Obj.cells #[.int .i64 D0, .slice a0 n0 c0] 29)).alloc (Obj.cells #[.int .i64 D1, .slice a1 n1 c1] 29)) := ⟨_, rfl⟩
  have hB : Below w.heap.size w W0 := by rw [e0]; exact (((Below.refl w.heap.size w).alloc (by omega) _).alloc (by simp <;> omega) _)
  have hk0 : W0.heap[w.heap.size]? = some (Obj.cells #[.int .i64 D0, .slice a0 n0 c0] 29) := by
    rw [e0]
    rw [Below.heap_alloc _ _ _ (by simp <;> omega)]
    have := heap_alloc_new w (Obj.cells #[.int .i64 D0, .slice a0 n0 c0] 29); simpa using this
  have hk1 : W0.heap[w.heap.size + 1]? = some (Obj.cells #[.int .i64 D1, .slice a1 n1 c1] 29) := by
    rw [e0]
    have := heap_alloc_new (w.alloc (Obj.cells #[.int .i64 D0, .slice a0 n0 c0] 29)) (Obj.cells #[.int .i64 D1, .slice a1 n1 c1] 29); simpa using this
  have HS := Lib.hid (fun (wx : World) (hx : Below W0.heap.size W0 wx) => (by
      have hw : Below w.heap.size w wx := hB.trans (hx.mono hB.size)
      have r0 := (hx.block _ (Array.getElem?_eq_some_iff.1 hk0).1).trans hk0
      have r1 := (hx.block _ (Array.getElem?_eq_some_iff.1 hk1).1).trans hk1
      exact ⟨hw, by rw [cell_of_row _ _ 0 _ 29 (0, 0) r0]; rfl, by rw [cell_of_row _ _ 1 _ 29 (0, 0) r0]; rfl, by rw [cell_of_row _ _ 0 _ 29 (0, 0) r1]; rfl, by rw [cell_of_row _ _ 1 _ 29 (0, 0) r1]; rfl, h0.below hw, h1.below hw⟩ : Below w.heap.size w wx ∧ wx.cell? ⟨w.heap.size, 0, none⟩ = some (.int .i64 D0) ∧ wx.cell? ⟨w.heap.size, 1, none⟩ = some (.slice a0 n0 c0) ∧ wx.cell? ⟨w.heap.size + 1, 0, none⟩ = some (.int .i64 D1) ∧ wx.cell? ⟨w.heap.size + 1, 1, none⟩ = some (.slice a1 n1 c1) ∧ LA 100 wx D0 a0 n0 c0 P0 ∧ LA 100 wx D1 a1 n1 c1 P1))
  clear h0 h1 hB hk0 hk1
  go_enter Try.func14, Try.ntmps14
  go_upto_region 1 with fail
  rw [← e0]
  clear e0
  have hHeld := Below.refl W0.heap.size W0
  refine region_AU (Z := fun j => false) (S := fun w' => Below W0.heap.size W0 w') (by kernel_rfl) (hHeld.drew) (fun hHeld => ?_)
  refine AUS_take (by kernel_rfl) rfl (i := 0) (oi := _) (v := ?vw1) rfl (by kernel_rfl) (by kernel_rfl) (by kernel_rfl) (fun _ _ _ h => h) (Or.inl ⟨by rfl, ?hz1⟩) hHeld ?rst1
  case hz1 => (intro wS hSw; obtain ⟨_, f0, f1, f2, f3, _, _⟩ := HS.out wS hSw; clear hSw; go_simp; try with_reducible rfl)
  simp only [Act.put, List.getElem_toArray, List.getElem_cons_zero, List.getElem_cons_succ, List.setIfInBounds_toArray, List.set_cons_zero, List.set_cons_succ]
  refine AUS_take (by kernel_rfl) rfl (i := 1) (oi := _) (v := ?vw2) rfl (by kernel_rfl) (by kernel_rfl) (by kernel_rfl) (fun _ _ _ h => h) (Or.inl ⟨by rfl, ?hz2⟩) hHeld ?rst2
  case hz2 => (intro wS hSw; obtain ⟨_, f0, f1, f2, f3, _, _⟩ := HS.out wS hSw; clear hSw; go_simp; try with_reducible rfl)
  simp only [Act.put, List.getElem_toArray, List.getElem_cons_zero, List.getElem_cons_succ, List.setIfInBounds_toArray, List.set_cons_zero, List.set_cons_succ]
  have HH := Lib.hid hHeld
  obtain ⟨hbw, _, _, _, _, g0, g1⟩ := HS.out _ hHeld
  refine AU_one (i := 2) (o := _) (by kernel_rfl) rfl (fun K hK => ?_)
  have CC := Lib.hid (rraise_m g0 (by omega))
  clear hHeld hbw g0 g1
  go_simp
  refine CC.out.mono ?_
  clear CC
  rintro e wz1 ⟨a2, n2, c2, rfl, l2, hb⟩
  have hHeld := HH.out.trans (hb.mono HH.out.size)
  clear HH hb
  refine hK.out _ _ (fun _ => hHeld) ?_
  clear hK K
  try simp only [Act.put, List.getElem_toArray, List.getElem_cons_zero, List.getElem_cons_succ, List.setIfInBounds_toArray, List.set_cons_zero, List.set_cons_succ]
  have HH := Lib.hid hHeld
  obtain ⟨hbw, _, _, _, _, g0, g1⟩ := HS.out _ hHeld
  refine AU_one (i := 3) (o := _) (by kernel_rfl) rfl (fun K hK => ?_)
  obtain ⟨b2, E2⟩ : ∃ b, Hid (lq D1 P1 (Lab.turn 0 5 D0) (Lab.tn 0 5 D0 P0) = b) := ⟨_, Lib.hid rfl⟩
  have CC := rleq_m g1 l2.la (by omega) (by omega)
  rw [E2.out] at CC
  have CC := Lib.hid CC
  clear hHeld hbw g0 g1
  go_simp
  refine CC.out.mono ?_
  clear CC
  rintro e wz2 ⟨rfl, hb⟩
  have hHeld := HH.out.trans (hb.mono HH.out.size)
  replace l2 := l2.below hb
  clear HH hb
  refine hK.out _ _ (fun _ => hHeld) ?_
  clear hK K
  try simp only [Act.put, List.getElem_toArray, List.getElem_cons_zero, List.getElem_cons_succ, List.setIfInBounds_toArray, List.set_cons_zero, List.set_cons_succ]
  refine AUS_take (by kernel_rfl) rfl (i := 4) (oi := _) (v := ?vw3) rfl (by kernel_rfl) (by kernel_rfl) (by kernel_rfl) (fun _ _ _ h => h) (Or.inl ⟨by rfl, ?hz3⟩) hHeld ?rst3
  case hz3 => (intro wS hSw; obtain ⟨_, f0, f1, f2, f3, _, _⟩ := HS.out wS hSw; clear hSw; go_simp; try with_reducible rfl)
  simp only [Act.put, List.getElem_toArray, List.getElem_cons_zero, List.getElem_cons_succ, List.setIfInBounds_toArray, List.set_cons_zero, List.set_cons_succ]
  have HE := Lib.hid hHeld
  clear hHeld
  refine AU_done (by kernel_rfl) ?_ _
  simp only [OnlyN]
  have hHeld := HE.out
  clear HE
  have HE := Lib.hid (HS.out _ hHeld).1
  clear hHeld
  go_wp2_with fail
  go_ret
  exact ⟨by simp [rd, E2.out], HE.out⟩
set_option maxHeartbeats 2000000 in
set_option maxRecDepth 100000 in
theorem rchange_m {w : World} {D0 : Int} {a0 : Option Addr} {n0 c0 : Nat} {P0 : LP} {D1 : Int} {a1 : Option Addr} {n1 c1 : Nat} {P1 : LP} (h0 : LA 100 w D0 a0 n0 c0 P0) (h1 : LA 100 w D1 a1 n1 c1 P1)  : Calls Try.prog 16 #[.agg #[.int .i64 D0, .slice a0 n0 c0], .agg #[.int .i64 D1, .slice a1 n1 c1]] w (BB w (ch D0 P0 D1 P1)) := by
  obtain ⟨W0, e0⟩ : ∃ W0, W0 = ((w.alloc (Obj.cells #[.int .i64 D0, .slice a0 n0 c0] 29)).alloc (Obj.cells #[.int .i64 D1, .slice a1 n1 c1] 29)) := ⟨_, rfl⟩
  have hB : Below w.heap.size w W0 := by rw [e0]; exact (((Below.refl w.heap.size w).alloc (by omega) _).alloc (by simp <;> omega) _)
  have hk0 : W0.heap[w.heap.size]? = some (Obj.cells #[.int .i64 D0, .slice a0 n0 c0] 29) := by
    rw [e0]
    rw [Below.heap_alloc _ _ _ (by simp <;> omega)]
    have := heap_alloc_new w (Obj.cells #[.int .i64 D0, .slice a0 n0 c0] 29); simpa using this
  have hk1 : W0.heap[w.heap.size + 1]? = some (Obj.cells #[.int .i64 D1, .slice a1 n1 c1] 29) := by
    rw [e0]
    have := heap_alloc_new (w.alloc (Obj.cells #[.int .i64 D0, .slice a0 n0 c0] 29)) (Obj.cells #[.int .i64 D1, .slice a1 n1 c1] 29); simpa using this
  have HS := Lib.hid (fun (wx : World) (hx : Below W0.heap.size W0 wx) => (by
      have hw : Below w.heap.size w wx := hB.trans (hx.mono hB.size)
      have r0 := (hx.block _ (Array.getElem?_eq_some_iff.1 hk0).1).trans hk0
      have r1 := (hx.block _ (Array.getElem?_eq_some_iff.1 hk1).1).trans hk1
      exact ⟨hw, by rw [cell_of_row _ _ 0 _ 29 (0, 0) r0]; rfl, by rw [cell_of_row _ _ 1 _ 29 (0, 0) r0]; rfl, by rw [cell_of_row _ _ 0 _ 29 (0, 0) r1]; rfl, by rw [cell_of_row _ _ 1 _ 29 (0, 0) r1]; rfl, h0.below hw, h1.below hw⟩ : Below w.heap.size w wx ∧ wx.cell? ⟨w.heap.size, 0, none⟩ = some (.int .i64 D0) ∧ wx.cell? ⟨w.heap.size, 1, none⟩ = some (.slice a0 n0 c0) ∧ wx.cell? ⟨w.heap.size + 1, 0, none⟩ = some (.int .i64 D1) ∧ wx.cell? ⟨w.heap.size + 1, 1, none⟩ = some (.slice a1 n1 c1) ∧ LA 100 wx D0 a0 n0 c0 P0 ∧ LA 100 wx D1 a1 n1 c1 P1))
  clear h0 h1 hB hk0 hk1
  go_enter Try.func16, Try.ntmps16
  go_upto_region 1 with fail
  rw [← e0]
  clear e0
  have hHeld := Below.refl W0.heap.size W0
  have HH := Lib.hid hHeld
  obtain ⟨hbw, _, _, _, _, g0, g1⟩ := HS.out _ hHeld
  obtain ⟨b1, E1⟩ : ∃ b, Hid (rd D0 P0 D1 P1 = b) := ⟨_, Lib.hid rfl⟩
  have CC := rread_m (g0.mono (by omega)) (g1.mono (by omega))
  rw [E1.out] at CC
  have CC := Lib.hid CC
  clear hHeld hbw g0 g1
  obtain ⟨_, f0, f1, f2, f3, _, _⟩ := HS.out _ HH.out
  go_wp2_with fail
  refine CC.out.mono ?_
  clear CC f0 f1 f2 f3
  rintro e wz1 ⟨rfl, hb⟩
  have hHeld := HH.out.trans (hb.mono HH.out.size)
  clear HH hb
  cases b1
  · skip
    have HE := Lib.hid (HS.out _ hHeld).1
    clear hHeld
    go_wp2_with fail
    go_ret
    exact ⟨by simp [ch, E1.out], HE.out⟩
  · skip
    have HH := Lib.hid hHeld
    obtain ⟨hbw, _, _, _, _, g0, g1⟩ := HS.out _ hHeld
    obtain ⟨b2, E2⟩ : ∃ b, Hid (lq D0 P0 D1 P1 = b) := ⟨_, Lib.hid rfl⟩
    have CC := rleq_m g0 g1 (by omega) (by omega)
    rw [E2.out] at CC
    have CC := Lib.hid CC
    clear hHeld hbw g0 g1
    obtain ⟨_, f0, f1, f2, f3, _, _⟩ := HS.out _ HH.out
    go_wp2_with fail
    refine CC.out.mono ?_
    clear CC f0 f1 f2 f3
    rintro e wz2 ⟨rfl, hb⟩
    have hHeld := HH.out.trans (hb.mono HH.out.size)
    clear HH hb
    have HE := Lib.hid (HS.out _ hHeld).1
    clear hHeld
    go_wp2_with fail
    go_ret
    exact ⟨by simp [ch, E1.out, E2.out], HE.out⟩
set_option maxHeartbeats 2000000 in
set_option maxRecDepth 100000 in
theorem rsees_m {w : World} {D0 : Int} {a0 : Option Addr} {n0 c0 : Nat} {P0 : LP} {D1 : Int} {a1 : Option Addr} {n1 c1 : Nat} {P1 : LP} (h0 : LA 100 w D0 a0 n0 c0 P0) (h1 : LA 100 w D1 a1 n1 c1 P1)  : Calls Try.prog 26 #[.agg #[.int .i64 D0, .slice a0 n0 c0], .agg #[.int .i64 D1, .slice a1 n1 c1]] w (BB w (rd D0 P0 D1 P1)) := by
  obtain ⟨W0, e0⟩ : ∃ W0, W0 = ((w.alloc (Obj.cells #[.int .i64 D0, .slice a0 n0 c0] 29)).alloc (Obj.cells #[.int .i64 D1, .slice a1 n1 c1] 29)) := ⟨_, rfl⟩
  have hB : Below w.heap.size w W0 := by rw [e0]; exact (((Below.refl w.heap.size w).alloc (by omega) _).alloc (by simp <;> omega) _)
  have hk0 : W0.heap[w.heap.size]? = some (Obj.cells #[.int .i64 D0, .slice a0 n0 c0] 29) := by
    rw [e0]
    rw [Below.heap_alloc _ _ _ (by simp <;> omega)]
    have := heap_alloc_new w (Obj.cells #[.int .i64 D0, .slice a0 n0 c0] 29); simpa using this
  have hk1 : W0.heap[w.heap.size + 1]? = some (Obj.cells #[.int .i64 D1, .slice a1 n1 c1] 29) := by
    rw [e0]
    have := heap_alloc_new (w.alloc (Obj.cells #[.int .i64 D0, .slice a0 n0 c0] 29)) (Obj.cells #[.int .i64 D1, .slice a1 n1 c1] 29); simpa using this
  have HS := Lib.hid (fun (wx : World) (hx : Below W0.heap.size W0 wx) => (by
      have hw : Below w.heap.size w wx := hB.trans (hx.mono hB.size)
      have r0 := (hx.block _ (Array.getElem?_eq_some_iff.1 hk0).1).trans hk0
      have r1 := (hx.block _ (Array.getElem?_eq_some_iff.1 hk1).1).trans hk1
      exact ⟨hw, by rw [cell_of_row _ _ 0 _ 29 (0, 0) r0]; rfl, by rw [cell_of_row _ _ 1 _ 29 (0, 0) r0]; rfl, by rw [cell_of_row _ _ 0 _ 29 (0, 0) r1]; rfl, by rw [cell_of_row _ _ 1 _ 29 (0, 0) r1]; rfl, h0.below hw, h1.below hw⟩ : Below w.heap.size w wx ∧ wx.cell? ⟨w.heap.size, 0, none⟩ = some (.int .i64 D0) ∧ wx.cell? ⟨w.heap.size, 1, none⟩ = some (.slice a0 n0 c0) ∧ wx.cell? ⟨w.heap.size + 1, 0, none⟩ = some (.int .i64 D1) ∧ wx.cell? ⟨w.heap.size + 1, 1, none⟩ = some (.slice a1 n1 c1) ∧ LA 100 wx D0 a0 n0 c0 P0 ∧ LA 100 wx D1 a1 n1 c1 P1))
  clear h0 h1 hB hk0 hk1
  go_enter Try.func26, Try.ntmps26
  go_upto_region 1 with fail
  rw [← e0]
  clear e0
  have hHeld := Below.refl W0.heap.size W0
  have HH := Lib.hid hHeld
  obtain ⟨hbw, _, _, _, _, g0, g1⟩ := HS.out _ hHeld
  obtain ⟨b1, E1⟩ : ∃ b, Hid (rd D0 P0 D1 P1 = b) := ⟨_, Lib.hid rfl⟩
  have CC := rread_m (g0.mono (by omega)) (g1.mono (by omega))
  rw [E1.out] at CC
  have CC := Lib.hid CC
  clear hHeld hbw g0 g1
  obtain ⟨_, f0, f1, f2, f3, _, _⟩ := HS.out _ HH.out
  go_wp2_with fail
  refine CC.out.mono ?_
  clear CC f0 f1 f2 f3
  rintro e wz1 ⟨rfl, hb⟩
  have hHeld := HH.out.trans (hb.mono HH.out.size)
  clear HH hb
  have HE := Lib.hid (HS.out _ hHeld).1
  clear hHeld
  go_wp2_with fail
  go_ret
  exact ⟨by simp [E1.out], HE.out⟩
set_option maxHeartbeats 2000000 in
set_option maxRecDepth 100000 in
theorem rself_m {w : World} {D0 : Int} {a0 : Option Addr} {n0 c0 : Nat} {P0 : LP} {D1 : Int} {a1 : Option Addr} {n1 c1 : Nat} {P1 : LP} {D2 : Int} {a2 : Option Addr} {n2 c2 : Nat} {P2 : LP} (h0 : LA 100 w D0 a0 n0 c0 P0) (h1 : LA 100 w D1 a1 n1 c1 P1) (h2 : LA 100 w D2 a2 n2 c2 P2)  : Calls Try.prog 22 #[.agg #[.int .i64 D0, .slice a0 n0 c0, .int .i64 D1, .slice a1 n1 c1], .agg #[.int .i64 D2, .slice a2 n2 c2]] w (BB w (sf D0 P0 D1 P1 D2 P2)) := by
  obtain ⟨W0, e0⟩ : ∃ W0, W0 = ((w.alloc (Obj.cells #[.int .i64 D0, .slice a0 n0 c0, .int .i64 D1, .slice a1 n1 c1] 33)).alloc (Obj.cells #[.int .i64 D2, .slice a2 n2 c2] 29)) := ⟨_, rfl⟩
  have hB : Below w.heap.size w W0 := by rw [e0]; exact (((Below.refl w.heap.size w).alloc (by omega) _).alloc (by simp <;> omega) _)
  have hk0 : W0.heap[w.heap.size]? = some (Obj.cells #[.int .i64 D0, .slice a0 n0 c0, .int .i64 D1, .slice a1 n1 c1] 33) := by
    rw [e0]
    rw [Below.heap_alloc _ _ _ (by simp <;> omega)]
    have := heap_alloc_new w (Obj.cells #[.int .i64 D0, .slice a0 n0 c0, .int .i64 D1, .slice a1 n1 c1] 33); simpa using this
  have hk1 : W0.heap[w.heap.size + 1]? = some (Obj.cells #[.int .i64 D2, .slice a2 n2 c2] 29) := by
    rw [e0]
    have := heap_alloc_new (w.alloc (Obj.cells #[.int .i64 D0, .slice a0 n0 c0, .int .i64 D1, .slice a1 n1 c1] 33)) (Obj.cells #[.int .i64 D2, .slice a2 n2 c2] 29); simpa using this
  have HS := Lib.hid (fun (wx : World) (hx : Below W0.heap.size W0 wx) => (by
      have hw : Below w.heap.size w wx := hB.trans (hx.mono hB.size)
      have r0 := (hx.block _ (Array.getElem?_eq_some_iff.1 hk0).1).trans hk0
      have r1 := (hx.block _ (Array.getElem?_eq_some_iff.1 hk1).1).trans hk1
      exact ⟨hw, by rw [cell_of_row _ _ 0 _ 33 (0, 0) r0]; rfl, by rw [cell_of_row _ _ 1 _ 33 (0, 0) r0]; rfl, by rw [cell_of_row _ _ 2 _ 33 (0, 0) r0]; rfl, by rw [cell_of_row _ _ 3 _ 33 (0, 0) r0]; rfl, by rw [cell_of_row _ _ 0 _ 29 (0, 0) r1]; rfl, by rw [cell_of_row _ _ 1 _ 29 (0, 0) r1]; rfl, h0.below hw, h1.below hw, h2.below hw⟩ : Below w.heap.size w wx ∧ wx.cell? ⟨w.heap.size, 0, none⟩ = some (.int .i64 D0) ∧ wx.cell? ⟨w.heap.size, 1, none⟩ = some (.slice a0 n0 c0) ∧ wx.cell? ⟨w.heap.size, 2, none⟩ = some (.int .i64 D1) ∧ wx.cell? ⟨w.heap.size, 3, none⟩ = some (.slice a1 n1 c1) ∧ wx.cell? ⟨w.heap.size + 1, 0, none⟩ = some (.int .i64 D2) ∧ wx.cell? ⟨w.heap.size + 1, 1, none⟩ = some (.slice a2 n2 c2) ∧ LA 100 wx D0 a0 n0 c0 P0 ∧ LA 100 wx D1 a1 n1 c1 P1 ∧ LA 100 wx D2 a2 n2 c2 P2))
  clear h0 h1 h2 hB hk0 hk1
  go_enter Try.func22, Try.ntmps22
  go_upto_region 1 with fail
  rw [← e0]
  clear e0
  have hHeld := Below.refl W0.heap.size W0
  have HH := Lib.hid hHeld
  obtain ⟨hbw, _, _, _, _, _, _, g0, g1, g2⟩ := HS.out _ hHeld
  obtain ⟨b1, E1⟩ : ∃ b, Hid (lq D0 P0 D2 P2 = b) := ⟨_, Lib.hid rfl⟩
  have CC := rleq_m g0 g2 (by omega) (by omega)
  rw [E1.out] at CC
  have CC := Lib.hid CC
  clear hHeld hbw g0 g1 g2
  obtain ⟨_, f0, f1, f2, f3, f4, f5, _, _, _⟩ := HS.out _ HH.out
  go_wp2_with fail
  refine CC.out.mono ?_
  clear CC f0 f1 f2 f3 f4 f5
  rintro e wz1 ⟨rfl, hb⟩
  have hHeld := HH.out.trans (hb.mono HH.out.size)
  clear HH hb
  cases b1
  · skip
    have HE := Lib.hid (HS.out _ hHeld).1
    clear hHeld
    go_wp2_with fail
    go_ret
    exact ⟨by simp [sf, E1.out], HE.out⟩
  · skip
    have HH := Lib.hid hHeld
    obtain ⟨hbw, _, _, _, _, _, _, g0, g1, g2⟩ := HS.out _ hHeld
    obtain ⟨b2, E2⟩ : ∃ b, Hid (lq D2 P2 D1 P1 = b) := ⟨_, Lib.hid rfl⟩
    have CC := rleq_m g2 g1 (by omega) (by omega)
    rw [E2.out] at CC
    have CC := Lib.hid CC
    clear hHeld hbw g0 g1 g2
    obtain ⟨_, f0, f1, f2, f3, f4, f5, _, _, _⟩ := HS.out _ HH.out
    go_wp2_with fail
    refine CC.out.mono ?_
    clear CC f0 f1 f2 f3 f4 f5
    rintro e wz2 ⟨rfl, hb⟩
    have hHeld := HH.out.trans (hb.mono HH.out.size)
    clear HH hb
    have HE := Lib.hid (HS.out _ hHeld).1
    clear hHeld
    go_wp2_with fail
    go_ret
    exact ⟨by simp [sf, E1.out, E2.out], HE.out⟩
end Go.Proofs.Ytmbdglhihakkjaa
