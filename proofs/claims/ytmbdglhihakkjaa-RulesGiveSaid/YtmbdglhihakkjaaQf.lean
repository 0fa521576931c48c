/- Enter. -/
import Derived.Test.YtmbdglhihakkjaaQe
set_option linter.unusedVariables false
set_option linter.unusedSimpArgs false
namespace Go.Proofs.Ytmbdglhihakkjaa
open Go.RowKit
set_option linter.unusedVariables false
set_option linter.unusedSimpArgs false
set_option maxHeartbeats 2000000 in
set_option maxRecDepth 100000 in
theorem enter_m {w : World} {D0 : Int} {a0 : Option Addr} {n0 c0 : Nat} {P0 : LP} {D1 : Int} {a1 : Option Addr} {n1 c1 : Nat} {P1 : LP} {D2 : Int} {a2 : Option Addr} {n2 c2 : Nat} {P2 : LP} {D3 : Int} {a3 : Option Addr} {n3 c3 : Nat} {P3 : LP} {D4 : Int} {a4 : Option Addr} {n4 c4 : Nat} {P4 : LP} {D5 : Int} {a5 : Option Addr} {n5 c5 : Nat} {P5 : LP} {D6 : Int} {a6 : Option Addr} {n6 c6 : Nat} {P6 : LP} (h0 : LA 100 w D0 a0 n0 c0 P0) (h1 : LA 100 w D1 a1 n1 c1 P1) (h2 : LA 100 w D2 a2 n2 c2 P2) (h3 : LA 100 w D3 a3 n3 c3 P3) (h4 : LA 100 w D4 a4 n4 c4 P4) (h5 : LA 100 w D5 a5 n5 c5 P5) (h6 : LA 100 w D6 a6 n6 c6 P6)  : Calls Try.prog 33 #[.agg #[.int .i64 D0, .slice a0 n0 c0, .int .i64 D1, .slice a1 n1 c1], .agg #[.int .i64 D2, .slice a2 n2 c2], .agg #[.int .i64 D3, .slice a3 n3 c3, .int .i64 D4, .slice a4 n4 c4], .agg #[.int .i64 D5, .slice a5 n5 c5, .int .i64 D6, .slice a6 n6 c6]] w (BB w (en D0 P0 D1 P1 D2 P2 D3 P3 D4 P4 D5 P5 D6 P6)) := by
  obtain ⟨W0, e0⟩ : ∃ W0, W0 = ((((w.alloc (Obj.cells #[.int .i64 D0, .slice a0 n0 c0, .int .i64 D1, .slice a1 n1 c1] 32)).alloc (Obj.cells #[.int .i64 D2, .slice a2 n2 c2] 29)).alloc (Obj.cells #[.int .i64 D3, .slice a3 n3 c3, .int .i64 D4, .slice a4 n4 c4] 32)).alloc (Obj.cells #[.int .i64 D5, .slice a5 n5 c5, .int .i64 D6, .slice a6 n6 c6] 32)) := ⟨_, rfl⟩
  have hB : Below w.heap.size w W0 := by rw [e0]; exact (((((Below.refl w.heap.size w).alloc (by omega) _).alloc (by simp <;> omega) _).alloc (by simp <;> omega) _).alloc (by simp <;> omega) _)
  have hk0 : W0.heap[w.heap.size]? = some (Obj.cells #[.int .i64 D0, .slice a0 n0 c0, .int .i64 D1, .slice a1 n1 c1] 32) := by
    rw [e0]
    rw [Below.heap_alloc _ _ _ (by simp <;> omega)]
    rw [Below.heap_alloc _ _ _ (by simp <;> omega)]
    rw [Below.heap_alloc _ _ _ (by simp <;> omega)]
    have := heap_alloc_new w (Obj.cells #[.int .i64 D0, .slice a0 n0 c0, .int .i64 D1, .slice a1 n1 c1] 32); simpa using this
  have hk1 : W0.heap[w.heap.size + 1]? = some (Obj.cells #[.int .i64 D2, .slice a2 n2 c2] 29) := by
    rw [e0]
    rw [Below.heap_alloc _ _ _ (by simp <;> omega)]
    rw [Below.heap_alloc _ _ _ (by simp <;> omega)]
    have := heap_alloc_new (w.alloc (Obj.cells #[.int .i64 D0, .slice a0 n0 c0, .int .i64 D1, .slice a1 n1 c1] 32)) (Obj.cells #[.int .i64 D2, .slice a2 n2 c2] 29); simpa using this
  have hk2 : W0.heap[w.heap.size + 2]? = some (Obj.cells #[.int .i64 D3, .slice a3 n3 c3, .int .i64 D4, .slice a4 n4 c4] 32) := by
    rw [e0]
    rw [Below.heap_alloc _ _ _ (by simp <;> omega)]
    have := heap_alloc_new ((w.alloc (Obj.cells #[.int .i64 D0, .slice a0 n0 c0, .int .i64 D1, .slice a1 n1 c1] 32)).alloc (Obj.cells #[.int .i64 D2, .slice a2 n2 c2] 29)) (Obj.cells #[.int .i64 D3, .slice a3 n3 c3, .int .i64 D4, .slice a4 n4 c4] 32); simpa using this
  have hk3 : W0.heap[w.heap.size + 3]? = some (Obj.cells #[.int .i64 D5, .slice a5 n5 c5, .int .i64 D6, .slice a6 n6 c6] 32) := by
    rw [e0]
    have := heap_alloc_new (((w.alloc (Obj.cells #[.int .i64 D0, .slice a0 n0 c0, .int .i64 D1, .slice a1 n1 c1] 32)).alloc (Obj.cells #[.int .i64 D2, .slice a2 n2 c2] 29)).alloc (Obj.cells #[.int .i64 D3, .slice a3 n3 c3, .int .i64 D4, .slice a4 n4 c4] 32)) (Obj.cells #[.int .i64 D5, .slice a5 n5 c5, .int .i64 D6, .slice a6 n6 c6] 32); simpa using this
  have HS := Lib.hid (fun (wx : World) (hx : Below W0.heap.size W0 wx) => (by
      have hw : Below w.heap.size w wx := hB.trans (hx.mono hB.size)
      have r0 := (hx.block _ (Array.getElem?_eq_some_iff.1 hk0).1).trans hk0
      have r1 := (hx.block _ (Array.getElem?_eq_some_iff.1 hk1).1).trans hk1
      have r2 := (hx.block _ (Array.getElem?_eq_some_iff.1 hk2).1).trans hk2
      have r3 := (hx.block _ (Array.getElem?_eq_some_iff.1 hk3).1).trans hk3
      exact ⟨hw, by rw [cell_of_row _ _ 0 _ 32 (0, 0) r0]; rfl, by rw [cell_of_row _ _ 1 _ 32 (0, 0) r0]; rfl, by rw [cell_of_row _ _ 2 _ 32 (0, 0) r0]; rfl, by rw [cell_of_row _ _ 3 _ 32 (0, 0) r0]; rfl, by rw [cell_of_row _ _ 0 _ 29 (0, 0) r1]; rfl, by rw [cell_of_row _ _ 1 _ 29 (0, 0) r1]; rfl, by rw [cell_of_row _ _ 0 _ 32 (0, 0) r2]; rfl, by rw [cell_of_row _ _ 1 _ 32 (0, 0) r2]; rfl, by rw [cell_of_row _ _ 2 _ 32 (0, 0) r2]; rfl, by rw [cell_of_row _ _ 3 _ 32 (0, 0) r2]; rfl, by rw [cell_of_row _ _ 0 _ 32 (0, 0) r3]; rfl, by rw [cell_of_row _ _ 1 _ 32 (0, 0) r3]; rfl, by rw [cell_of_row _ _ 2 _ 32 (0, 0) r3]; rfl, by rw [cell_of_row _ _ 3 _ 32 (0, 0) r3]; rfl, h0.below hw, h1.below hw, h2.below hw, h3.below hw, h4.below hw, h5.below hw, h6.below hw⟩ : Below w.heap.size w wx ∧ wx.cell? ⟨w.heap.size, 0, none⟩ = some (.int .i64 D0) ∧ wx.cell? ⟨w.heap.size, 1, none⟩ = some (.slice a0 n0 c0) ∧ wx.cell? ⟨w.heap.size, 2, none⟩ = some (.int .i64 D1) ∧ wx.cell? ⟨w.heap.size, 3, none⟩ = some (.slice a1 n1 c1) ∧ wx.cell? ⟨w.heap.size + 1, 0, none⟩ = some (.int .i64 D2) ∧ wx.cell? ⟨w.heap.size + 1, 1, none⟩ = some (.slice a2 n2 c2) ∧ wx.cell? ⟨w.heap.size + 2, 0, none⟩ = some (.int .i64 D3) ∧ wx.cell? ⟨w.heap.size + 2, 1, none⟩ = some (.slice a3 n3 c3) ∧ wx.cell? ⟨w.heap.size + 2, 2, none⟩ = some (.int .i64 D4) ∧ wx.cell? ⟨w.heap.size + 2, 3, none⟩ = some (.slice a4 n4 c4) ∧ wx.cell? ⟨w.heap.size + 3, 0, none⟩ = some (.int .i64 D5) ∧ wx.cell? ⟨w.heap.size + 3, 1, none⟩ = some (.slice a5 n5 c5) ∧ wx.cell? ⟨w.heap.size + 3, 2, none⟩ = some (.int .i64 D6) ∧ wx.cell? ⟨w.heap.size + 3, 3, none⟩ = some (.slice a6 n6 c6) ∧ LA 100 wx D0 a0 n0 c0 P0 ∧ LA 100 wx D1 a1 n1 c1 P1 ∧ LA 100 wx D2 a2 n2 c2 P2 ∧ LA 100 wx D3 a3 n3 c3 P3 ∧ LA 100 wx D4 a4 n4 c4 P4 ∧ LA 100 wx D5 a5 n5 c5 P5 ∧ LA 100 wx D6 a6 n6 c6 P6))
  clear h0 h1 h2 h3 h4 h5 h6 hB hk0 hk1 hk2 hk3
  go_enter Try.func33, Try.ntmps33
  go_upto_region 1 with fail
  rw [← e0]
  clear e0
  have hHeld := Below.refl W0.heap.size W0
  refine region_AU (Z := fun j => false) (S := fun w' => Below W0.heap.size W0 w') (by kernel_rfl) (hHeld.drew) (fun hHeld => ?_)
  refine AUS_take (by kernel_rfl) rfl (i := 0) (oi := _) (v := ?vw1) rfl (by kernel_rfl) (by kernel_rfl) (by kernel_rfl) (fun _ _ _ h => h) (Or.inl ⟨by rfl, ?hz1⟩) hHeld ?rst1
  case hz1 => (intro wS hSw; obtain ⟨_, f0, f1, f2, f3, f4, f5, f6, f7, f8, f9, f10, f11, f12, f13, _, _, _, _, _, _, _⟩ := HS.out wS hSw; clear hSw; go_simp; try with_reducible rfl)
  simp only [Act.put, List.getElem_toArray, List.getElem_cons_zero, List.getElem_cons_succ, List.setIfInBounds_toArray, List.set_cons_zero, List.set_cons_succ]
  refine AUS_take (by kernel_rfl) rfl (i := 1) (oi := _) (v := ?vw2) rfl (by kernel_rfl) (by kernel_rfl) (by kernel_rfl) (fun _ _ _ h => h) (Or.inl ⟨by rfl, ?hz2⟩) hHeld ?rst2
  case hz2 => (intro wS hSw; obtain ⟨_, f0, f1, f2, f3, f4, f5, f6, f7, f8, f9, f10, f11, f12, f13, _, _, _, _, _, _, _⟩ := HS.out wS hSw; clear hSw; go_simp; try with_reducible rfl)
  simp only [Act.put, List.getElem_toArray, List.getElem_cons_zero, List.getElem_cons_succ, List.setIfInBounds_toArray, List.set_cons_zero, List.set_cons_succ]
  refine AUS_take (by kernel_rfl) rfl (i := 2) (oi := _) (v := ?vw3) rfl (by kernel_rfl) (by kernel_rfl) (by kernel_rfl) (fun _ _ _ h => h) (Or.inl ⟨by rfl, ?hz3⟩) hHeld ?rst3
  case hz3 => (intro wS hSw; obtain ⟨_, f0, f1, f2, f3, f4, f5, f6, f7, f8, f9, f10, f11, f12, f13, _, _, _, _, _, _, _⟩ := HS.out wS hSw; clear hSw; go_simp; try with_reducible rfl)
  simp only [Act.put, List.getElem_toArray, List.getElem_cons_zero, List.getElem_cons_succ, List.setIfInBounds_toArray, List.set_cons_zero, List.set_cons_succ]
  refine AUS_take (by kernel_rfl) rfl (i := 3) (oi := _) (v := ?vw4) rfl (by kernel_rfl) (by kernel_rfl) (by kernel_rfl) (fun _ _ _ h => h) (Or.inl ⟨by rfl, ?hz4⟩) hHeld ?rst4
  case hz4 => (intro wS hSw; obtain ⟨_, f0, f1, f2, f3, f4, f5, f6, f7, f8, f9, f10, f11, f12, f13, _, _, _, _, _, _, _⟩ := HS.out wS hSw; clear hSw; go_simp; try with_reducible rfl)
  simp only [Act.put, List.getElem_toArray, List.getElem_cons_zero, List.getElem_cons_succ, List.setIfInBounds_toArray, List.set_cons_zero, List.set_cons_succ]
  have HH := Lib.hid hHeld
  obtain ⟨hbw, _, _, _, _, _, _, _, _, _, _, _, _, _, _, g0, g1, g2, g3, g4, g5, g6⟩ := HS.out _ hHeld
  refine AU_one (i := 4) (o := _) (by kernel_rfl) rfl (fun K hK => ?_)
  obtain ⟨b1, E1⟩ : ∃ b, Hid (lq D0 P0 D4 P4 = b) := ⟨_, Lib.hid rfl⟩
  have CC := leq_m g0 g4 (by omega) (by omega)
  rw [E1.out] at CC
  have CC := Lib.hid CC
  clear hHeld hbw g0 g1 g2 g3 g4 g5 g6
  go_simp
  refine CC.out.mono ?_
  clear CC
  rintro e wz1 ⟨rfl, hb⟩
  have hHeld := HH.out.trans (hb.mono HH.out.size)
  clear HH hb
  refine hK.out _ _ (fun _ => hHeld) ?_
  clear hK K
  try simp only [Act.put, List.getElem_toArray, List.getElem_cons_zero, List.getElem_cons_succ, List.setIfInBounds_toArray, List.set_cons_zero, List.set_cons_succ]
  cases b1
  · skip
    refine AUS_take (by kernel_rfl) rfl (i := 5) (oi := _) (v := ?vw5) rfl (by kernel_rfl) (by kernel_rfl) (by kernel_rfl) (fun _ _ _ h => h) (Or.inl ⟨by rfl, ?hz5⟩) hHeld ?rst5
    case hz5 => (intro wS hSw; obtain ⟨_, f0, f1, f2, f3, f4, f5, f6, f7, f8, f9, f10, f11, f12, f13, _, _, _, _, _, _, _⟩ := HS.out wS hSw; clear hSw; go_simp; try with_reducible rfl)
    simp only [Act.put, List.getElem_toArray, List.getElem_cons_zero, List.getElem_cons_succ, List.setIfInBounds_toArray, List.set_cons_zero, List.set_cons_succ]
    refine AUS_take (by kernel_rfl) rfl (i := 6) (oi := _) (v := undef) rfl (by kernel_rfl) (by kernel_rfl) (by kernel_rfl) (fun _ _ _ h => h) (Or.inr ⟨by rfl, rfl⟩) hHeld ?rst6
    try simp only [Act.put, List.getElem_toArray, List.getElem_cons_zero, List.getElem_cons_succ, List.setIfInBounds_toArray, List.set_cons_zero, List.set_cons_succ]
    refine AUS_take (by kernel_rfl) rfl (i := 7) (oi := _) (v := undef) rfl (by kernel_rfl) (by kernel_rfl) (by kernel_rfl) (fun _ _ _ h => h) (Or.inr ⟨by rfl, rfl⟩) hHeld ?rst7
    try simp only [Act.put, List.getElem_toArray, List.getElem_cons_zero, List.getElem_cons_succ, List.setIfInBounds_toArray, List.set_cons_zero, List.set_cons_succ]
    refine AUS_take (by kernel_rfl) rfl (i := 8) (oi := _) (v := undef) rfl (by kernel_rfl) (by kernel_rfl) (by kernel_rfl) (fun _ _ _ h => h) (Or.inr ⟨by rfl, rfl⟩) hHeld ?rst8
    try simp only [Act.put, List.getElem_toArray, List.getElem_cons_zero, List.getElem_cons_succ, List.setIfInBounds_toArray, List.set_cons_zero, List.set_cons_succ]
    refine AUS_take (by kernel_rfl) rfl (i := 9) (oi := _) (v := undef) rfl (by kernel_rfl) (by kernel_rfl) (by kernel_rfl) (fun _ _ _ h => h) (Or.inr ⟨by rfl, rfl⟩) hHeld ?rst9
    try simp only [Act.put, List.getElem_toArray, List.getElem_cons_zero, List.getElem_cons_succ, List.setIfInBounds_toArray, List.set_cons_zero, List.set_cons_succ]
    refine AUS_take (by kernel_rfl) rfl (i := 10) (oi := _) (v := undef) rfl (by kernel_rfl) (by kernel_rfl) (by kernel_rfl) (fun _ _ _ h => h) (Or.inr ⟨by rfl, rfl⟩) hHeld ?rst10
    try simp only [Act.put, List.getElem_toArray, List.getElem_cons_zero, List.getElem_cons_succ, List.setIfInBounds_toArray, List.set_cons_zero, List.set_cons_succ]
    refine AUS_take (by kernel_rfl) rfl (i := 11) (oi := _) (v := undef) rfl (by kernel_rfl) (by kernel_rfl) (by kernel_rfl) (fun _ _ _ h => h) (Or.inr ⟨by rfl, rfl⟩) hHeld ?rst11
    try simp only [Act.put, List.getElem_toArray, List.getElem_cons_zero, List.getElem_cons_succ, List.setIfInBounds_toArray, List.set_cons_zero, List.set_cons_succ]
    refine AUS_take (by kernel_rfl) rfl (i := 12) (oi := _) (v := undef) rfl (by kernel_rfl) (by kernel_rfl) (by kernel_rfl) (fun _ _ _ h => h) (Or.inr ⟨by rfl, rfl⟩) hHeld ?rst12
    try simp only [Act.put, List.getElem_toArray, List.getElem_cons_zero, List.getElem_cons_succ, List.setIfInBounds_toArray, List.set_cons_zero, List.set_cons_succ]
    refine AUS_take (by kernel_rfl) rfl (i := 13) (oi := _) (v := undef) rfl (by kernel_rfl) (by kernel_rfl) (by kernel_rfl) (fun _ _ _ h => h) (Or.inr ⟨by rfl, rfl⟩) hHeld ?rst13
    try simp only [Act.put, List.getElem_toArray, List.getElem_cons_zero, List.getElem_cons_succ, List.setIfInBounds_toArray, List.set_cons_zero, List.set_cons_succ]
    refine AUS_take (by kernel_rfl) rfl (i := 14) (oi := _) (v := undef) rfl (by kernel_rfl) (by kernel_rfl) (by kernel_rfl) (fun _ _ _ h => h) (Or.inr ⟨by rfl, rfl⟩) hHeld ?rst14
    try simp only [Act.put, List.getElem_toArray, List.getElem_cons_zero, List.getElem_cons_succ, List.setIfInBounds_toArray, List.set_cons_zero, List.set_cons_succ]
    refine AUS_take (by kernel_rfl) rfl (i := 15) (oi := _) (v := undef) rfl (by kernel_rfl) (by kernel_rfl) (by kernel_rfl) (fun _ _ _ h => h) (Or.inr ⟨by rfl, rfl⟩) hHeld ?rst15
    try simp only [Act.put, List.getElem_toArray, List.getElem_cons_zero, List.getElem_cons_succ, List.setIfInBounds_toArray, List.set_cons_zero, List.set_cons_succ]
    refine AUS_take (by kernel_rfl) rfl (i := 16) (oi := _) (v := undef) rfl (by kernel_rfl) (by kernel_rfl) (by kernel_rfl) (fun _ _ _ h => h) (Or.inr ⟨by rfl, rfl⟩) hHeld ?rst16
    try simp only [Act.put, List.getElem_toArray, List.getElem_cons_zero, List.getElem_cons_succ, List.setIfInBounds_toArray, List.set_cons_zero, List.set_cons_succ]
    refine AUS_take (by kernel_rfl) rfl (i := 17) (oi := _) (v := undef) rfl (by kernel_rfl) (by kernel_rfl) (by kernel_rfl) (fun _ _ _ h => h) (Or.inr ⟨by rfl, rfl⟩) hHeld ?rst17
    try simp only [Act.put, List.getElem_toArray, List.getElem_cons_zero, List.getElem_cons_succ, List.setIfInBounds_toArray, List.set_cons_zero, List.set_cons_succ]
    refine AUS_take (by kernel_rfl) rfl (i := 18) (oi := _) (v := undef) rfl (by kernel_rfl) (by kernel_rfl) (by kernel_rfl) (fun _ _ _ h => h) (Or.inr ⟨by rfl, rfl⟩) hHeld ?rst18
    try simp only [Act.put, List.getElem_toArray, List.getElem_cons_zero, List.getElem_cons_succ, List.setIfInBounds_toArray, List.set_cons_zero, List.set_cons_succ]
    refine AUS_take (by kernel_rfl) rfl (i := 19) (oi := _) (v := undef) rfl (by kernel_rfl) (by kernel_rfl) (by kernel_rfl) (fun _ _ _ h => h) (Or.inr ⟨by rfl, rfl⟩) hHeld ?rst19
    try simp only [Act.put, List.getElem_toArray, List.getElem_cons_zero, List.getElem_cons_succ, List.setIfInBounds_toArray, List.set_cons_zero, List.set_cons_succ]
    refine AUS_take (by kernel_rfl) rfl (i := 20) (oi := _) (v := undef) rfl (by kernel_rfl) (by kernel_rfl) (by kernel_rfl) (fun _ _ _ h => h) (Or.inr ⟨by rfl, rfl⟩) hHeld ?rst20
    try simp only [Act.put, List.getElem_toArray, List.getElem_cons_zero, List.getElem_cons_succ, List.setIfInBounds_toArray, List.set_cons_zero, List.set_cons_succ]
    refine AUS_take (by kernel_rfl) rfl (i := 21) (oi := _) (v := undef) rfl (by kernel_rfl) (by kernel_rfl) (by kernel_rfl) (fun _ _ _ h => h) (Or.inr ⟨by rfl, rfl⟩) hHeld ?rst21
    try simp only [Act.put, List.getElem_toArray, List.getElem_cons_zero, List.getElem_cons_succ, List.setIfInBounds_toArray, List.set_cons_zero, List.set_cons_succ]
    refine AUS_take (by kernel_rfl) rfl (i := 22) (oi := _) (v := ?vw22) rfl (by kernel_rfl) (by kernel_rfl) (by kernel_rfl) (fun _ _ _ h => h) (Or.inl ⟨by rfl, ?hz22⟩) hHeld ?rst22
    case hz22 => (intro wS hSw; obtain ⟨_, f0, f1, f2, f3, f4, f5, f6, f7, f8, f9, f10, f11, f12, f13, _, _, _, _, _, _, _⟩ := HS.out wS hSw; clear hSw; go_simp; try with_reducible rfl)
    simp only [Act.put, List.getElem_toArray, List.getElem_cons_zero, List.getElem_cons_succ, List.setIfInBounds_toArray, List.set_cons_zero, List.set_cons_succ]
    refine AUS_take (by kernel_rfl) rfl (i := 23) (oi := _) (v := ?vw23) rfl (by kernel_rfl) (by kernel_rfl) (by kernel_rfl) (fun _ _ _ h => h) (Or.inl ⟨by rfl, ?hz23⟩) hHeld ?rst23
    case hz23 => (intro wS hSw; obtain ⟨_, f0, f1, f2, f3, f4, f5, f6, f7, f8, f9, f10, f11, f12, f13, _, _, _, _, _, _, _⟩ := HS.out wS hSw; clear hSw; go_simp; try with_reducible rfl)
    simp only [Act.put, List.getElem_toArray, List.getElem_cons_zero, List.getElem_cons_succ, List.setIfInBounds_toArray, List.set_cons_zero, List.set_cons_succ]
    refine AUS_take (by kernel_rfl) rfl (i := 24) (oi := _) (v := undef) rfl (by kernel_rfl) (by kernel_rfl) (by kernel_rfl) (fun _ _ _ h => h) (Or.inr ⟨by rfl, rfl⟩) hHeld ?rst24
    try simp only [Act.put, List.getElem_toArray, List.getElem_cons_zero, List.getElem_cons_succ, List.setIfInBounds_toArray, List.set_cons_zero, List.set_cons_succ]
    refine AUS_take (by kernel_rfl) rfl (i := 25) (oi := _) (v := undef) rfl (by kernel_rfl) (by kernel_rfl) (by kernel_rfl) (fun _ _ _ h => h) (Or.inr ⟨by rfl, rfl⟩) hHeld ?rst25
    try simp only [Act.put, List.getElem_toArray, List.getElem_cons_zero, List.getElem_cons_succ, List.setIfInBounds_toArray, List.set_cons_zero, List.set_cons_succ]
    refine AUS_take (by kernel_rfl) rfl (i := 26) (oi := _) (v := undef) rfl (by kernel_rfl) (by kernel_rfl) (by kernel_rfl) (fun _ _ _ h => h) (Or.inr ⟨by rfl, rfl⟩) hHeld ?rst26
    try simp only [Act.put, List.getElem_toArray, List.getElem_cons_zero, List.getElem_cons_succ, List.setIfInBounds_toArray, List.set_cons_zero, List.set_cons_succ]
    refine AUS_take (by kernel_rfl) rfl (i := 27) (oi := _) (v := undef) rfl (by kernel_rfl) (by kernel_rfl) (by kernel_rfl) (fun _ _ _ h => h) (Or.inr ⟨by rfl, rfl⟩) hHeld ?rst27
    try simp only [Act.put, List.getElem_toArray, List.getElem_cons_zero, List.getElem_cons_succ, List.setIfInBounds_toArray, List.set_cons_zero, List.set_cons_succ]
    refine AUS_take (by kernel_rfl) rfl (i := 28) (oi := _) (v := undef) rfl (by kernel_rfl) (by kernel_rfl) (by kernel_rfl) (fun _ _ _ h => h) (Or.inr ⟨by rfl, rfl⟩) hHeld ?rst28
    try simp only [Act.put, List.getElem_toArray, List.getElem_cons_zero, List.getElem_cons_succ, List.setIfInBounds_toArray, List.set_cons_zero, List.set_cons_succ]
    refine AUS_take (by kernel_rfl) rfl (i := 29) (oi := _) (v := ?vw29) rfl (by kernel_rfl) (by kernel_rfl) (by kernel_rfl) (fun _ _ _ h => h) (Or.inl ⟨by rfl, ?hz29⟩) hHeld ?rst29
    case hz29 => (intro wS hSw; obtain ⟨_, f0, f1, f2, f3, f4, f5, f6, f7, f8, f9, f10, f11, f12, f13, _, _, _, _, _, _, _⟩ := HS.out wS hSw; clear hSw; go_simp; try with_reducible rfl)
    simp only [Act.put, List.getElem_toArray, List.getElem_cons_zero, List.getElem_cons_succ, List.setIfInBounds_toArray, List.set_cons_zero, List.set_cons_succ]
    refine AUS_take (by kernel_rfl) rfl (i := 30) (oi := _) (v := ?vw30) rfl (by kernel_rfl) (by kernel_rfl) (by kernel_rfl) (fun _ _ _ h => h) (Or.inl ⟨by rfl, ?hz30⟩) hHeld ?rst30
    case hz30 => (intro wS hSw; obtain ⟨_, f0, f1, f2, f3, f4, f5, f6, f7, f8, f9, f10, f11, f12, f13, _, _, _, _, _, _, _⟩ := HS.out wS hSw; clear hSw; go_simp; try with_reducible rfl)
    simp only [Act.put, List.getElem_toArray, List.getElem_cons_zero, List.getElem_cons_succ, List.setIfInBounds_toArray, List.set_cons_zero, List.set_cons_succ]
    have HE := Lib.hid hHeld
    clear hHeld
    refine AU_done (by kernel_rfl) ?_ _
    simp only [OnlyN]
    have hHeld := HE.out
    clear HE
    have HE := Lib.hid (HS.out _ hHeld).1
    clear hHeld
    go_wp2_with fail
    go_ret
    exact ⟨by simp [en, E1.out], HE.out⟩
  · skip
    refine AUS_take (by kernel_rfl) rfl (i := 5) (oi := _) (v := ?vw31) rfl (by kernel_rfl) (by kernel_rfl) (by kernel_rfl) (fun _ _ _ h => h) (Or.inl ⟨by rfl, ?hz31⟩) hHeld ?rst31
    case hz31 => (intro wS hSw; obtain ⟨_, f0, f1, f2, f3, f4, f5, f6, f7, f8, f9, f10, f11, f12, f13, _, _, _, _, _, _, _⟩ := HS.out wS hSw; clear hSw; go_simp; try with_reducible rfl)
    simp only [Act.put, List.getElem_toArray, List.getElem_cons_zero, List.getElem_cons_succ, List.setIfInBounds_toArray, List.set_cons_zero, List.set_cons_succ]
    refine AUS_take (by kernel_rfl) rfl (i := 6) (oi := _) (v := ?vw32) rfl (by kernel_rfl) (by kernel_rfl) (by kernel_rfl) (fun _ _ _ h => h) (Or.inl ⟨by rfl, ?hz32⟩) hHeld ?rst32
    case hz32 => (intro wS hSw; obtain ⟨_, f0, f1, f2, f3, f4, f5, f6, f7, f8, f9, f10, f11, f12, f13, _, _, _, _, _, _, _⟩ := HS.out wS hSw; clear hSw; go_simp; try with_reducible rfl)
    simp only [Act.put, List.getElem_toArray, List.getElem_cons_zero, List.getElem_cons_succ, List.setIfInBounds_toArray, List.set_cons_zero, List.set_cons_succ]
    refine AUS_take (by kernel_rfl) rfl (i := 7) (oi := _) (v := ?vw33) rfl (by kernel_rfl) (by kernel_rfl) (by kernel_rfl) (fun _ _ _ h => h) (Or.inl ⟨by rfl, ?hz33⟩) hHeld ?rst33
    case hz33 => (intro wS hSw; obtain ⟨_, f0, f1, f2, f3, f4, f5, f6, f7, f8, f9, f10, f11, f12, f13, _, _, _, _, _, _, _⟩ := HS.out wS hSw; clear hSw; go_simp; try with_reducible rfl)
    simp only [Act.put, List.getElem_toArray, List.getElem_cons_zero, List.getElem_cons_succ, List.setIfInBounds_toArray, List.set_cons_zero, List.set_cons_succ]
    refine AUS_take (by kernel_rfl) rfl (i := 8) (oi := _) (v := ?vw34) rfl (by kernel_rfl) (by kernel_rfl) (by kernel_rfl) (fun _ _ _ h => h) (Or.inl ⟨by rfl, ?hz34⟩) hHeld ?rst34
    case hz34 => (intro wS hSw; obtain ⟨_, f0, f1, f2, f3, f4, f5, f6, f7, f8, f9, f10, f11, f12, f13, _, _, _, _, _, _, _⟩ := HS.out wS hSw; clear hSw; go_simp; try with_reducible rfl)
    simp only [Act.put, List.getElem_toArray, List.getElem_cons_zero, List.getElem_cons_succ, List.setIfInBounds_toArray, List.set_cons_zero, List.set_cons_succ]
    refine AUS_take (by kernel_rfl) rfl (i := 9) (oi := _) (v := ?vw35) rfl (by kernel_rfl) (by kernel_rfl) (by kernel_rfl) (fun _ _ _ h => h) (Or.inl ⟨by rfl, ?hz35⟩) hHeld ?rst35
    case hz35 => (intro wS hSw; obtain ⟨_, f0, f1, f2, f3, f4, f5, f6, f7, f8, f9, f10, f11, f12, f13, _, _, _, _, _, _, _⟩ := HS.out wS hSw; clear hSw; go_simp; try with_reducible rfl)
    simp only [Act.put, List.getElem_toArray, List.getElem_cons_zero, List.getElem_cons_succ, List.setIfInBounds_toArray, List.set_cons_zero, List.set_cons_succ]
    refine AUS_take (by kernel_rfl) rfl (i := 11) (oi := _) (v := ?vw36) rfl (by kernel_rfl) (by kernel_rfl) (by kernel_rfl) (fun _ _ _ h => h) (Or.inl ⟨by rfl, ?hz36⟩) hHeld ?rst36
    case hz36 => (intro wS hSw; obtain ⟨_, f0, f1, f2, f3, f4, f5, f6, f7, f8, f9, f10, f11, f12, f13, _, _, _, _, _, _, _⟩ := HS.out wS hSw; clear hSw; go_simp; try with_reducible rfl)
    simp only [Act.put, List.getElem_toArray, List.getElem_cons_zero, List.getElem_cons_succ, List.setIfInBounds_toArray, List.set_cons_zero, List.set_cons_succ]
    refine AUS_take (by kernel_rfl) rfl (i := 12) (oi := _) (v := ?vw37) rfl (by kernel_rfl) (by kernel_rfl) (by kernel_rfl) (fun _ _ _ h => h) (Or.inl ⟨by rfl, ?hz37⟩) hHeld ?rst37
    case hz37 => (intro wS hSw; obtain ⟨_, f0, f1, f2, f3, f4, f5, f6, f7, f8, f9, f10, f11, f12, f13, _, _, _, _, _, _, _⟩ := HS.out wS hSw; clear hSw; go_simp; try with_reducible rfl)
    simp only [Act.put, List.getElem_toArray, List.getElem_cons_zero, List.getElem_cons_succ, List.setIfInBounds_toArray, List.set_cons_zero, List.set_cons_succ]
    refine AUS_take (by kernel_rfl) rfl (i := 13) (oi := _) (v := ?vw38) rfl (by kernel_rfl) (by kernel_rfl) (by kernel_rfl) (fun _ _ _ h => h) (Or.inl ⟨by rfl, ?hz38⟩) hHeld ?rst38
    case hz38 => (intro wS hSw; obtain ⟨_, f0, f1, f2, f3, f4, f5, f6, f7, f8, f9, f10, f11, f12, f13, _, _, _, _, _, _, _⟩ := HS.out wS hSw; clear hSw; go_simp; try with_reducible rfl)
    simp only [Act.put, List.getElem_toArray, List.getElem_cons_zero, List.getElem_cons_succ, List.setIfInBounds_toArray, List.set_cons_zero, List.set_cons_succ]
    refine AUS_take (by kernel_rfl) rfl (i := 14) (oi := _) (v := ?vw39) rfl (by kernel_rfl) (by kernel_rfl) (by kernel_rfl) (fun _ _ _ h => h) (Or.inl ⟨by rfl, ?hz39⟩) hHeld ?rst39
    case hz39 => (intro wS hSw; obtain ⟨_, f0, f1, f2, f3, f4, f5, f6, f7, f8, f9, f10, f11, f12, f13, _, _, _, _, _, _, _⟩ := HS.out wS hSw; clear hSw; go_simp; try with_reducible rfl)
    simp only [Act.put, List.getElem_toArray, List.getElem_cons_zero, List.getElem_cons_succ, List.setIfInBounds_toArray, List.set_cons_zero, List.set_cons_succ]
    refine AUS_take (by kernel_rfl) rfl (i := 15) (oi := _) (v := ?vw40) rfl (by kernel_rfl) (by kernel_rfl) (by kernel_rfl) (fun _ _ _ h => h) (Or.inl ⟨by rfl, ?hz40⟩) hHeld ?rst40
    case hz40 => (intro wS hSw; obtain ⟨_, f0, f1, f2, f3, f4, f5, f6, f7, f8, f9, f10, f11, f12, f13, _, _, _, _, _, _, _⟩ := HS.out wS hSw; clear hSw; go_simp; try with_reducible rfl)
    simp only [Act.put, List.getElem_toArray, List.getElem_cons_zero, List.getElem_cons_succ, List.setIfInBounds_toArray, List.set_cons_zero, List.set_cons_succ]
    refine AUS_take (by kernel_rfl) rfl (i := 16) (oi := _) (v := ?vw41) rfl (by kernel_rfl) (by kernel_rfl) (by kernel_rfl) (fun _ _ _ h => h) (Or.inl ⟨by rfl, ?hz41⟩) hHeld ?rst41
    case hz41 => (intro wS hSw; obtain ⟨_, f0, f1, f2, f3, f4, f5, f6, f7, f8, f9, f10, f11, f12, f13, _, _, _, _, _, _, _⟩ := HS.out wS hSw; clear hSw; go_simp; try with_reducible rfl)
    simp only [Act.put, List.getElem_toArray, List.getElem_cons_zero, List.getElem_cons_succ, List.setIfInBounds_toArray, List.set_cons_zero, List.set_cons_succ]
    refine AUS_take (by kernel_rfl) rfl (i := 17) (oi := _) (v := ?vw42) rfl (by kernel_rfl) (by kernel_rfl) (by kernel_rfl) (fun _ _ _ h => h) (Or.inl ⟨by rfl, ?hz42⟩) hHeld ?rst42
    case hz42 => (intro wS hSw; obtain ⟨_, f0, f1, f2, f3, f4, f5, f6, f7, f8, f9, f10, f11, f12, f13, _, _, _, _, _, _, _⟩ := HS.out wS hSw; clear hSw; go_simp; try with_reducible rfl)
    simp only [Act.put, List.getElem_toArray, List.getElem_cons_zero, List.getElem_cons_succ, List.setIfInBounds_toArray, List.set_cons_zero, List.set_cons_succ]
    refine AUS_take (by kernel_rfl) rfl (i := 18) (oi := _) (v := ?vw43) rfl (by kernel_rfl) (by kernel_rfl) (by kernel_rfl) (fun _ _ _ h => h) (Or.inl ⟨by rfl, ?hz43⟩) hHeld ?rst43
    case hz43 => (intro wS hSw; obtain ⟨_, f0, f1, f2, f3, f4, f5, f6, f7, f8, f9, f10, f11, f12, f13, _, _, _, _, _, _, _⟩ := HS.out wS hSw; clear hSw; go_simp; try with_reducible rfl)
    simp only [Act.put, List.getElem_toArray, List.getElem_cons_zero, List.getElem_cons_succ, List.setIfInBounds_toArray, List.set_cons_zero, List.set_cons_succ]
    have HH := Lib.hid hHeld
    obtain ⟨hbw, _, _, _, _, _, _, _, _, _, _, _, _, _, _, g0, g1, g2, g3, g4, g5, g6⟩ := HS.out _ hHeld
    refine AU_one (i := 10) (o := _) (by kernel_rfl) rfl (fun K hK => ?_)
    have CC := Lib.hid (least_m (g0.mono (by omega)) (g3.mono (by omega)))
    clear hHeld hbw g0 g1 g2 g3 g4 g5 g6
    go_simp
    refine CC.out.mono ?_
    clear CC
    rintro e wz2 ⟨a7, n7, c7, rfl, l7, hb⟩
    have hHeld := HH.out.trans (hb.mono HH.out.size)
    clear HH hb
    refine hK.out _ _ (fun _ => hHeld) ?_
    clear hK K
    try simp only [Act.put, List.getElem_toArray, List.getElem_cons_zero, List.getElem_cons_succ, List.setIfInBounds_toArray, List.set_cons_zero, List.set_cons_succ]
    have HH := Lib.hid hHeld
    obtain ⟨hbw, _, _, _, _, _, _, _, _, _, _, _, _, _, _, g0, g1, g2, g3, g4, g5, g6⟩ := HS.out _ hHeld
    refine AU_one (i := 19) (o := _) (by kernel_rfl) rfl (fun K hK => ?_)
    have CC := Lib.hid (join_m g1 g4 (by omega) (by omega))
    clear hHeld hbw g0 g1 g2 g3 g4 g5 g6
    go_simp
    refine CC.out.mono ?_
    clear CC
    rintro e wz3 ⟨a8, n8, c8, rfl, l8, hb⟩
    have hHeld := HH.out.trans (hb.mono HH.out.size)
    replace l7 := l7.below hb
    clear HH hb
    refine hK.out _ _ (fun _ => hHeld) ?_
    clear hK K
    try simp only [Act.put, List.getElem_toArray, List.getElem_cons_zero, List.getElem_cons_succ, List.setIfInBounds_toArray, List.set_cons_zero, List.set_cons_succ]
    have HH := Lib.hid hHeld
    obtain ⟨hbw, _, _, _, _, _, _, _, _, _, _, _, _, _, _, g0, g1, g2, g3, g4, g5, g6⟩ := HS.out _ hHeld
    obtain ⟨b4, E4⟩ : ∃ b, Hid ((lq (lsD D0 D3) (lsP D0 P0 D3 P3) D5 P5 && lq D5 P5 D6 P6 && lq D6 P6 (max D1 D4) (Lab.jn D1 P1 D4 P4)) = b) := ⟨_, Lib.hid rfl⟩
    have CC := rise4 l7.la g5 g6 l8.la (by omega) (by omega) (by omega) (by omega)
    rw [E4.out] at CC
    have CC := Lib.hid CC
    clear hHeld hbw g0 g1 g2 g3 g4 g5 g6
    refine AU_one (i := 20) (o := _) (by kernel_rfl) rfl (fun K hK => ?_)
    go_simp
    refine hK.out _ _ (fun _ => HH.out.alloc HH.out.size _) ?_
    clear hK K
    try simp only [Act.put, List.getElem_toArray, List.getElem_cons_zero, List.getElem_cons_succ, List.setIfInBounds_toArray, List.set_cons_zero, List.set_cons_succ]
    refine AU_one (i := 21) (o := _) (by kernel_rfl) rfl (fun K hK => ?_)
    go_simp
    refine CC.out.mono ?_
    clear CC
    rintro e wz4 ⟨rfl, hb⟩
    have hHeld := HH.out.trans (hb.mono HH.out.size)
    replace l7 := l7.below hb
    replace l8 := l8.below hb
    clear HH hb
    refine hK.out _ _ (fun _ => hHeld) ?_
    clear hK K
    try simp only [Act.put, List.getElem_toArray, List.getElem_cons_zero, List.getElem_cons_succ, List.setIfInBounds_toArray, List.set_cons_zero, List.set_cons_succ]
    cases b4
    · skip
      refine AUS_take (by kernel_rfl) rfl (i := 22) (oi := _) (v := ?vw44) rfl (by kernel_rfl) (by kernel_rfl) (by kernel_rfl) (fun _ _ _ h => h) (Or.inl ⟨by rfl, ?hz44⟩) hHeld ?rst44
      case hz44 => (intro wS hSw; obtain ⟨_, f0, f1, f2, f3, f4, f5, f6, f7, f8, f9, f10, f11, f12, f13, _, _, _, _, _, _, _⟩ := HS.out wS hSw; clear hSw; go_simp; try with_reducible rfl)
      simp only [Act.put, List.getElem_toArray, List.getElem_cons_zero, List.getElem_cons_succ, List.setIfInBounds_toArray, List.set_cons_zero, List.set_cons_succ]
      refine AUS_take (by kernel_rfl) rfl (i := 23) (oi := _) (v := ?vw45) rfl (by kernel_rfl) (by kernel_rfl) (by kernel_rfl) (fun _ _ _ h => h) (Or.inl ⟨by rfl, ?hz45⟩) hHeld ?rst45
      case hz45 => (intro wS hSw; obtain ⟨_, f0, f1, f2, f3, f4, f5, f6, f7, f8, f9, f10, f11, f12, f13, _, _, _, _, _, _, _⟩ := HS.out wS hSw; clear hSw; go_simp; try with_reducible rfl)
      simp only [Act.put, List.getElem_toArray, List.getElem_cons_zero, List.getElem_cons_succ, List.setIfInBounds_toArray, List.set_cons_zero, List.set_cons_succ]
      refine AUS_take (by kernel_rfl) rfl (i := 24) (oi := _) (v := undef) rfl (by kernel_rfl) (by kernel_rfl) (by kernel_rfl) (fun _ _ _ h => h) (Or.inr ⟨by rfl, rfl⟩) hHeld ?rst46
      try simp only [Act.put, List.getElem_toArray, List.getElem_cons_zero, List.getElem_cons_succ, List.setIfInBounds_toArray, List.set_cons_zero, List.set_cons_succ]
      refine AUS_take (by kernel_rfl) rfl (i := 25) (oi := _) (v := undef) rfl (by kernel_rfl) (by kernel_rfl) (by kernel_rfl) (fun _ _ _ h => h) (Or.inr ⟨by rfl, rfl⟩) hHeld ?rst47
      try simp only [Act.put, List.getElem_toArray, List.getElem_cons_zero, List.getElem_cons_succ, List.setIfInBounds_toArray, List.set_cons_zero, List.set_cons_succ]
      refine AUS_take (by kernel_rfl) rfl (i := 26) (oi := _) (v := undef) rfl (by kernel_rfl) (by kernel_rfl) (by kernel_rfl) (fun _ _ _ h => h) (Or.inr ⟨by rfl, rfl⟩) hHeld ?rst48
      try simp only [Act.put, List.getElem_toArray, List.getElem_cons_zero, List.getElem_cons_succ, List.setIfInBounds_toArray, List.set_cons_zero, List.set_cons_succ]
      refine AUS_take (by kernel_rfl) rfl (i := 27) (oi := _) (v := undef) rfl (by kernel_rfl) (by kernel_rfl) (by kernel_rfl) (fun _ _ _ h => h) (Or.inr ⟨by rfl, rfl⟩) hHeld ?rst49
      try simp only [Act.put, List.getElem_toArray, List.getElem_cons_zero, List.getElem_cons_succ, List.setIfInBounds_toArray, List.set_cons_zero, List.set_cons_succ]
      refine AUS_take (by kernel_rfl) rfl (i := 28) (oi := _) (v := undef) rfl (by kernel_rfl) (by kernel_rfl) (by kernel_rfl) (fun _ _ _ h => h) (Or.inr ⟨by rfl, rfl⟩) hHeld ?rst50
      try simp only [Act.put, List.getElem_toArray, List.getElem_cons_zero, List.getElem_cons_succ, List.setIfInBounds_toArray, List.set_cons_zero, List.set_cons_succ]
      refine AUS_take (by kernel_rfl) rfl (i := 29) (oi := _) (v := ?vw51) rfl (by kernel_rfl) (by kernel_rfl) (by kernel_rfl) (fun _ _ _ h => h) (Or.inl ⟨by rfl, ?hz51⟩) hHeld ?rst51
      case hz51 => (intro wS hSw; obtain ⟨_, f0, f1, f2, f3, f4, f5, f6, f7, f8, f9, f10, f11, f12, f13, _, _, _, _, _, _, _⟩ := HS.out wS hSw; clear hSw; go_simp; try with_reducible rfl)
      simp only [Act.put, List.getElem_toArray, List.getElem_cons_zero, List.getElem_cons_succ, List.setIfInBounds_toArray, List.set_cons_zero, List.set_cons_succ]
      refine AUS_take (by kernel_rfl) rfl (i := 30) (oi := _) (v := ?vw52) rfl (by kernel_rfl) (by kernel_rfl) (by kernel_rfl) (fun _ _ _ h => h) (Or.inl ⟨by rfl, ?hz52⟩) hHeld ?rst52
      case hz52 => (intro wS hSw; obtain ⟨_, f0, f1, f2, f3, f4, f5, f6, f7, f8, f9, f10, f11, f12, f13, _, _, _, _, _, _, _⟩ := HS.out wS hSw; clear hSw; go_simp; try with_reducible rfl)
      simp only [Act.put, List.getElem_toArray, List.getElem_cons_zero, List.getElem_cons_succ, List.setIfInBounds_toArray, List.set_cons_zero, List.set_cons_succ]
      have HE := Lib.hid hHeld
      clear hHeld
      refine AU_done (by kernel_rfl) ?_ _
      simp only [OnlyN]
      have hHeld := HE.out
      clear HE
      have HE := Lib.hid (HS.out _ hHeld).1
      clear hHeld
      go_wp2_with fail
      go_ret
      exact ⟨by simp [en, E1.out, E4.out], HE.out⟩
    · skip
      refine AUS_take (by kernel_rfl) rfl (i := 22) (oi := _) (v := ?vw53) rfl (by kernel_rfl) (by kernel_rfl) (by kernel_rfl) (fun _ _ _ h => h) (Or.inl ⟨by rfl, ?hz53⟩) hHeld ?rst53
      case hz53 => (intro wS hSw; obtain ⟨_, f0, f1, f2, f3, f4, f5, f6, f7, f8, f9, f10, f11, f12, f13, _, _, _, _, _, _, _⟩ := HS.out wS hSw; clear hSw; go_simp; try with_reducible rfl)
      simp only [Act.put, List.getElem_toArray, List.getElem_cons_zero, List.getElem_cons_succ, List.setIfInBounds_toArray, List.set_cons_zero, List.set_cons_succ]
      refine AUS_take (by kernel_rfl) rfl (i := 23) (oi := _) (v := ?vw54) rfl (by kernel_rfl) (by kernel_rfl) (by kernel_rfl) (fun _ _ _ h => h) (Or.inl ⟨by rfl, ?hz54⟩) hHeld ?rst54
      case hz54 => (intro wS hSw; obtain ⟨_, f0, f1, f2, f3, f4, f5, f6, f7, f8, f9, f10, f11, f12, f13, _, _, _, _, _, _, _⟩ := HS.out wS hSw; clear hSw; go_simp; try with_reducible rfl)
      simp only [Act.put, List.getElem_toArray, List.getElem_cons_zero, List.getElem_cons_succ, List.setIfInBounds_toArray, List.set_cons_zero, List.set_cons_succ]
      refine AUS_take (by kernel_rfl) rfl (i := 24) (oi := _) (v := ?vw55) rfl (by kernel_rfl) (by kernel_rfl) (by kernel_rfl) (fun _ _ _ h => h) (Or.inl ⟨by rfl, ?hz55⟩) hHeld ?rst55
      case hz55 => (intro wS hSw; obtain ⟨_, f0, f1, f2, f3, f4, f5, f6, f7, f8, f9, f10, f11, f12, f13, _, _, _, _, _, _, _⟩ := HS.out wS hSw; clear hSw; go_simp; try with_reducible rfl)
      simp only [Act.put, List.getElem_toArray, List.getElem_cons_zero, List.getElem_cons_succ, List.setIfInBounds_toArray, List.set_cons_zero, List.set_cons_succ]
      refine AUS_take (by kernel_rfl) rfl (i := 25) (oi := _) (v := ?vw56) rfl (by kernel_rfl) (by kernel_rfl) (by kernel_rfl) (fun _ _ _ h => h) (Or.inl ⟨by rfl, ?hz56⟩) hHeld ?rst56
      case hz56 => (intro wS hSw; obtain ⟨_, f0, f1, f2, f3, f4, f5, f6, f7, f8, f9, f10, f11, f12, f13, _, _, _, _, _, _, _⟩ := HS.out wS hSw; clear hSw; go_simp; try with_reducible rfl)
      simp only [Act.put, List.getElem_toArray, List.getElem_cons_zero, List.getElem_cons_succ, List.setIfInBounds_toArray, List.set_cons_zero, List.set_cons_succ]
      refine AUS_take (by kernel_rfl) rfl (i := 26) (oi := _) (v := ?vw57) rfl (by kernel_rfl) (by kernel_rfl) (by kernel_rfl) (fun _ _ _ h => h) (Or.inl ⟨by rfl, ?hz57⟩) hHeld ?rst57
      case hz57 => (intro wS hSw; obtain ⟨_, f0, f1, f2, f3, f4, f5, f6, f7, f8, f9, f10, f11, f12, f13, _, _, _, _, _, _, _⟩ := HS.out wS hSw; clear hSw; go_simp; try with_reducible rfl)
      simp only [Act.put, List.getElem_toArray, List.getElem_cons_zero, List.getElem_cons_succ, List.setIfInBounds_toArray, List.set_cons_zero, List.set_cons_succ]
      have HH := Lib.hid hHeld
      obtain ⟨hbw, _, _, _, _, _, _, _, _, _, _, _, _, _, _, g0, g1, g2, g3, g4, g5, g6⟩ := HS.out _ hHeld
      refine AU_one (i := 27) (o := _) (by kernel_rfl) rfl (fun K hK => ?_)
      have CC := Lib.hid (rest_m g5 (by omega))
      clear hHeld hbw g0 g1 g2 g3 g4 g5 g6
      go_simp
      refine CC.out.mono ?_
      clear CC
      rintro e wz5 ⟨a9, n9, c9, rfl, l9, hb⟩
      have hHeld := HH.out.trans (hb.mono HH.out.size)
      replace l7 := l7.below hb
      replace l8 := l8.below hb
      clear HH hb
      refine hK.out _ _ (fun _ => hHeld) ?_
      clear hK K
      try simp only [Act.put, List.getElem_toArray, List.getElem_cons_zero, List.getElem_cons_succ, List.setIfInBounds_toArray, List.set_cons_zero, List.set_cons_succ]
      have HH := Lib.hid hHeld
      obtain ⟨hbw, _, _, _, _, _, _, _, _, _, _, _, _, _, _, g0, g1, g2, g3, g4, g5, g6⟩ := HS.out _ hHeld
      refine AU_one (i := 28) (o := _) (by kernel_rfl) rfl (fun K hK => ?_)
      obtain ⟨b6, E6⟩ : ∃ b, Hid (lq D2 P2 (Lab.turn 0 2 D5) (Lab.tn 0 2 D5 P5) = b) := ⟨_, Lib.hid rfl⟩
      have CC := leq_m g2 l9.la (by omega) (by omega)
      rw [E6.out] at CC
      have CC := Lib.hid CC
      clear hHeld hbw g0 g1 g2 g3 g4 g5 g6
      go_simp
      refine CC.out.mono ?_
      clear CC
      rintro e wz6 ⟨rfl, hb⟩
      have hHeld := HH.out.trans (hb.mono HH.out.size)
      replace l7 := l7.below hb
      replace l8 := l8.below hb
      replace l9 := l9.below hb
      clear HH hb
      refine hK.out _ _ (fun _ => hHeld) ?_
      clear hK K
      try simp only [Act.put, List.getElem_toArray, List.getElem_cons_zero, List.getElem_cons_succ, List.setIfInBounds_toArray, List.set_cons_zero, List.set_cons_succ]
      refine AUS_take (by kernel_rfl) rfl (i := 29) (oi := _) (v := ?vw58) rfl (by kernel_rfl) (by kernel_rfl) (by kernel_rfl) (fun _ _ _ h => h) (Or.inl ⟨by rfl, ?hz58⟩) hHeld ?rst58
      case hz58 => (intro wS hSw; obtain ⟨_, f0, f1, f2, f3, f4, f5, f6, f7, f8, f9, f10, f11, f12, f13, _, _, _, _, _, _, _⟩ := HS.out wS hSw; clear hSw; go_simp; try with_reducible rfl)
      simp only [Act.put, List.getElem_toArray, List.getElem_cons_zero, List.getElem_cons_succ, List.setIfInBounds_toArray, List.set_cons_zero, List.set_cons_succ]
      refine AUS_take (by kernel_rfl) rfl (i := 30) (oi := _) (v := ?vw59) rfl (by kernel_rfl) (by kernel_rfl) (by kernel_rfl) (fun _ _ _ h => h) (Or.inl ⟨by rfl, ?hz59⟩) hHeld ?rst59
      case hz59 => (intro wS hSw; obtain ⟨_, f0, f1, f2, f3, f4, f5, f6, f7, f8, f9, f10, f11, f12, f13, _, _, _, _, _, _, _⟩ := HS.out wS hSw; clear hSw; go_simp; try with_reducible rfl)
      simp only [Act.put, List.getElem_toArray, List.getElem_cons_zero, List.getElem_cons_succ, List.setIfInBounds_toArray, List.set_cons_zero, List.set_cons_succ]
      have HE := Lib.hid hHeld
      clear hHeld
      refine AU_done (by kernel_rfl) ?_ _
      simp only [OnlyN]
      have hHeld := HE.out
      clear HE
      have HE := Lib.hid (HS.out _ hHeld).1
      clear hHeld
      go_wp2_with fail
      go_ret
      exact ⟨by simp [en, E1.out, E4.out, E6.out], HE.out⟩
set_option maxHeartbeats 2000000 in
set_option maxRecDepth 100000 in
theorem renter_m {w : World} {D0 : Int} {a0 : Option Addr} {n0 c0 : Nat} {P0 : LP} {D1 : Int} {a1 : Option Addr} {n1 c1 : Nat} {P1 : LP} {D2 : Int} {a2 : Option Addr} {n2 c2 : Nat} {P2 : LP} {D3 : Int} {a3 : Option Addr} {n3 c3 : Nat} {P3 : LP} {D4 : Int} {a4 : Option Addr} {n4 c4 : Nat} {P4 : LP} {D5 : Int} {a5 : Option Addr} {n5 c5 : Nat} {P5 : LP} {D6 : Int} {a6 : Option Addr} {n6 c6 : Nat} {P6 : LP} (h0 : LA 100 w D0 a0 n0 c0 P0) (h1 : LA 100 w D1 a1 n1 c1 P1) (h2 : LA 100 w D2 a2 n2 c2 P2) (h3 : LA 100 w D3 a3 n3 c3 P3) (h4 : LA 100 w D4 a4 n4 c4 P4) (h5 : LA 100 w D5 a5 n5 c5 P5) (h6 : LA 100 w D6 a6 n6 c6 P6)  : Calls Try.prog 34 #[.agg #[.int .i64 D0, .slice a0 n0 c0, .int .i64 D1, .slice a1 n1 c1], .agg #[.int .i64 D2, .slice a2 n2 c2], .agg #[.int .i64 D3, .slice a3 n3 c3, .int .i64 D4, .slice a4 n4 c4], .agg #[.int .i64 D5, .slice a5 n5 c5, .int .i64 D6, .slice a6 n6 c6]] w (BB w (en D0 P0 D1 P1 D2 P2 D3 P3 D4 P4 D5 P5 D6 P6)) := by
  obtain ⟨W0, e0⟩ : ∃ W0, W0 = ((((w.alloc (Obj.cells #[.int .i64 D0, .slice a0 n0 c0, .int .i64 D1, .slice a1 n1 c1] 33)).alloc (Obj.cells #[.int .i64 D2, .slice a2 n2 c2] 29)).alloc (Obj.cells #[.int .i64 D3, .slice a3 n3 c3, .int .i64 D4, .slice a4 n4 c4] 33)).alloc (Obj.cells #[.int .i64 D5, .slice a5 n5 c5, .int .i64 D6, .slice a6 n6 c6] 33)) := ⟨_, rfl⟩
  have hB : Below w.heap.size w W0 := by rw [e0]; exact (((((Below.refl w.heap.size w).alloc (by omega) _).alloc (by simp <;> omega) _).alloc (by simp <;> omega) _).alloc (by simp <;> omega) _)
  have hk0 : W0.heap[w.heap.size]? = some (Obj.cells #[.int .i64 D0, .slice a0 n0 c0, .int .i64 D1, .slice a1 n1 c1] 33) := by
    rw [e0]
    rw [Below.heap_alloc _ _ _ (by simp <;> omega)]
    rw [Below.heap_alloc _ _ _ (by simp <;> omega)]
    rw [Below.heap_alloc _ _ _ (by simp <;> omega)]
    have := heap_alloc_new w (Obj.cells #[.int .i64 D0, .slice a0 n0 c0, .int .i64 D1, .slice a1 n1 c1] 33); simpa using this
  have hk1 : W0.heap[w.heap.size + 1]? = some (Obj.cells #[.int .i64 D2, .slice a2 n2 c2] 29) := by
    rw [e0]
    rw [Below.heap_alloc _ _ _ (by simp <;> omega)]
    rw [Below.heap_alloc _ _ _ (by simp <;> omega)]
    have := heap_alloc_new (w.alloc (Obj.cells #[.int .i64 D0, .slice a0 n0 c0, .int .i64 D1, .slice a1 n1 c1] 33)) (Obj.cells #[.int .i64 D2, .slice a2 n2 c2] 29); simpa using this
  have hk2 : W0.heap[w.heap.size + 2]? = some (Obj.cells #[.int .i64 D3, .slice a3 n3 c3, .int .i64 D4, .slice a4 n4 c4] 33) := by
    rw [e0]
    rw [Below.heap_alloc _ _ _ (by simp <;> omega)]
    have := heap_alloc_new ((w.alloc (Obj.cells #[.int .i64 D0, .slice a0 n0 c0, .int .i64 D1, .slice a1 n1 c1] 33)).alloc (Obj.cells #[.int .i64 D2, .slice a2 n2 c2] 29)) (Obj.cells #[.int .i64 D3, .slice a3 n3 c3, .int .i64 D4, .slice a4 n4 c4] 33); simpa using this
  have hk3 : W0.heap[w.heap.size + 3]? = some (Obj.cells #[.int .i64 D5, .slice a5 n5 c5, .int .i64 D6, .slice a6 n6 c6] 33) := by
    rw [e0]
    have := heap_alloc_new (((w.alloc (Obj.cells #[.int .i64 D0, .slice a0 n0 c0, .int .i64 D1, .slice a1 n1 c1] 33)).alloc (Obj.cells #[.int .i64 D2, .slice a2 n2 c2] 29)).alloc (Obj.cells #[.int .i64 D3, .slice a3 n3 c3, .int .i64 D4, .slice a4 n4 c4] 33)) (Obj.cells #[.int .i64 D5, .slice a5 n5 c5, .int .i64 D6, .slice a6 n6 c6] 33); simpa using this
  have HS := Lib.hid (fun (wx : World) (hx : Below W0.heap.size W0 wx) => (by
      have hw : Below w.heap.size w wx := hB.trans (hx.mono hB.size)
      have r0 := (hx.block _ (Array.getElem?_eq_some_iff.1 hk0).1).trans hk0
      have r1 := (hx.block _ (Array.getElem?_eq_some_iff.1 hk1).1).trans hk1
      have r2 := (hx.block _ (Array.getElem?_eq_some_iff.1 hk2).1).trans hk2
      have r3 := (hx.block _ (Array.getElem?_eq_some_iff.1 hk3).1).trans hk3
      exact ⟨hw, by rw [cell_of_row _ _ 0 _ 33 (0, 0) r0]; rfl, by rw [cell_of_row _ _ 1 _ 33 (0, 0) r0]; rfl, by rw [cell_of_row _ _ 2 _ 33 (0, 0) r0]; rfl, by rw [cell_of_row _ _ 3 _ 33 (0, 0) r0]; rfl, by rw [cell_of_row _ _ 0 _ 29 (0, 0) r1]; rfl, by rw [cell_of_row _ _ 1 _ 29 (0, 0) r1]; rfl, by rw [cell_of_row _ _ 0 _ 33 (0, 0) r2]; rfl, by rw [cell_of_row _ _ 1 _ 33 (0, 0) r2]; rfl, by rw [cell_of_row _ _ 2 _ 33 (0, 0) r2]; rfl, by rw [cell_of_row _ _ 3 _ 33 (0, 0) r2]; rfl, by rw [cell_of_row _ _ 0 _ 33 (0, 0) r3]; rfl, by rw [cell_of_row _ _ 1 _ 33 (0, 0) r3]; rfl, by rw [cell_of_row _ _ 2 _ 33 (0, 0) r3]; rfl, by rw [cell_of_row _ _ 3 _ 33 (0, 0) r3]; rfl, h0.below hw, h1.below hw, h2.below hw, h3.below hw, h4.below hw, h5.below hw, h6.below hw⟩ : Below w.heap.size w wx ∧ wx.cell? ⟨w.heap.size, 0, none⟩ = some (.int .i64 D0) ∧ wx.cell? ⟨w.heap.size, 1, none⟩ = some (.slice a0 n0 c0) ∧ wx.cell? ⟨w.heap.size, 2, none⟩ = some (.int .i64 D1) ∧ wx.cell? ⟨w.heap.size, 3, none⟩ = some (.slice a1 n1 c1) ∧ wx.cell? ⟨w.heap.size + 1, 0, none⟩ = some (.int .i64 D2) ∧ wx.cell? ⟨w.heap.size + 1, 1, none⟩ = some (.slice a2 n2 c2) ∧ wx.cell? ⟨w.heap.size + 2, 0, none⟩ = some (.int .i64 D3) ∧ wx.cell? ⟨w.heap.size + 2, 1, none⟩ = some (.slice a3 n3 c3) ∧ wx.cell? ⟨w.heap.size + 2, 2, none⟩ = some (.int .i64 D4) ∧ wx.cell? ⟨w.heap.size + 2, 3, none⟩ = some (.slice a4 n4 c4) ∧ wx.cell? ⟨w.heap.size + 3, 0, none⟩ = some (.int .i64 D5) ∧ wx.cell? ⟨w.heap.size + 3, 1, none⟩ = some (.slice a5 n5 c5) ∧ wx.cell? ⟨w.heap.size + 3, 2, none⟩ = some (.int .i64 D6) ∧ wx.cell? ⟨w.heap.size + 3, 3, none⟩ = some (.slice a6 n6 c6) ∧ LA 100 wx D0 a0 n0 c0 P0 ∧ LA 100 wx D1 a1 n1 c1 P1 ∧ LA 100 wx D2 a2 n2 c2 P2 ∧ LA 100 wx D3 a3 n3 c3 P3 ∧ LA 100 wx D4 a4 n4 c4 P4 ∧ LA 100 wx D5 a5 n5 c5 P5 ∧ LA 100 wx D6 a6 n6 c6 P6))
  clear h0 h1 h2 h3 h4 h5 h6 hB hk0 hk1 hk2 hk3
  go_enter Try.func34, Try.ntmps34
  go_upto_region 1 with fail
  rw [← e0]
  clear e0
  have hHeld := Below.refl W0.heap.size W0
  refine region_AU (Z := fun j => false) (S := fun w' => Below W0.heap.size W0 w') (by kernel_rfl) (hHeld.drew) (fun hHeld => ?_)
  refine AUS_take (by kernel_rfl) rfl (i := 0) (oi := _) (v := ?vw1) rfl (by kernel_rfl) (by kernel_rfl) (by kernel_rfl) (fun _ _ _ h => h) (Or.inl ⟨by rfl, ?hz1⟩) hHeld ?rst1
  case hz1 => (intro wS hSw; obtain ⟨_, f0, f1, f2, f3, f4, f5, f6, f7, f8, f9, f10, f11, f12, f13, _, _, _, _, _, _, _⟩ := HS.out wS hSw; clear hSw; go_simp; try with_reducible rfl)
  simp only [Act.put, List.getElem_toArray, List.getElem_cons_zero, List.getElem_cons_succ, List.setIfInBounds_toArray, List.set_cons_zero, List.set_cons_succ]
  refine AUS_take (by kernel_rfl) rfl (i := 1) (oi := _) (v := ?vw2) rfl (by kernel_rfl) (by kernel_rfl) (by kernel_rfl) (fun _ _ _ h => h) (Or.inl ⟨by rfl, ?hz2⟩) hHeld ?rst2
  case hz2 => (intro wS hSw; obtain ⟨_, f0, f1, f2, f3, f4, f5, f6, f7, f8, f9, f10, f11, f12, f13, _, _, _, _, _, _, _⟩ := HS.out wS hSw; clear hSw; go_simp; try with_reducible rfl)
  simp only [Act.put, List.getElem_toArray, List.getElem_cons_zero, List.getElem_cons_succ, List.setIfInBounds_toArray, List.set_cons_zero, List.set_cons_succ]
  refine AUS_take (by kernel_rfl) rfl (i := 2) (oi := _) (v := ?vw3) rfl (by kernel_rfl) (by kernel_rfl) (by kernel_rfl) (fun _ _ _ h => h) (Or.inl ⟨by rfl, ?hz3⟩) hHeld ?rst3
  case hz3 => (intro wS hSw; obtain ⟨_, f0, f1, f2, f3, f4, f5, f6, f7, f8, f9, f10, f11, f12, f13, _, _, _, _, _, _, _⟩ := HS.out wS hSw; clear hSw; go_simp; try with_reducible rfl)
  simp only [Act.put, List.getElem_toArray, List.getElem_cons_zero, List.getElem_cons_succ, List.setIfInBounds_toArray, List.set_cons_zero, List.set_cons_succ]
  refine AUS_take (by kernel_rfl) rfl (i := 3) (oi := _) (v := ?vw4) rfl (by kernel_rfl) (by kernel_rfl) (by kernel_rfl) (fun _ _ _ h => h) (Or.inl ⟨by rfl, ?hz4⟩) hHeld ?rst4
  case hz4 => (intro wS hSw; obtain ⟨_, f0, f1, f2, f3, f4, f5, f6, f7, f8, f9, f10, f11, f12, f13, _, _, _, _, _, _, _⟩ := HS.out wS hSw; clear hSw; go_simp; try with_reducible rfl)
  simp only [Act.put, List.getElem_toArray, List.getElem_cons_zero, List.getElem_cons_succ, List.setIfInBounds_toArray, List.set_cons_zero, List.set_cons_succ]
  have HH := Lib.hid hHeld
  obtain ⟨hbw, _, _, _, _, _, _, _, _, _, _, _, _, _, _, g0, g1, g2, g3, g4, g5, g6⟩ := HS.out _ hHeld
  refine AU_one (i := 4) (o := _) (by kernel_rfl) rfl (fun K hK => ?_)
  obtain ⟨b1, E1⟩ : ∃ b, Hid (lq D0 P0 D4 P4 = b) := ⟨_, Lib.hid rfl⟩
  have CC := rleq_m g0 g4 (by omega) (by omega)
  rw [E1.out] at CC
  have CC := Lib.hid CC
  clear hHeld hbw g0 g1 g2 g3 g4 g5 g6
  go_simp
  refine CC.out.mono ?_
  clear CC
  rintro e wz1 ⟨rfl, hb⟩
  have hHeld := HH.out.trans (hb.mono HH.out.size)
  clear HH hb
  refine hK.out _ _ (fun _ => hHeld) ?_
  clear hK K
  try simp only [Act.put, List.getElem_toArray, List.getElem_cons_zero, List.getElem_cons_succ, List.setIfInBounds_toArray, List.set_cons_zero, List.set_cons_succ]
  cases b1
  · skip
    refine AUS_take (by kernel_rfl) rfl (i := 5) (oi := _) (v := ?vw5) rfl (by kernel_rfl) (by kernel_rfl) (by kernel_rfl) (fun _ _ _ h => h) (Or.inl ⟨by rfl, ?hz5⟩) hHeld ?rst5
    case hz5 => (intro wS hSw; obtain ⟨_, f0, f1, f2, f3, f4, f5, f6, f7, f8, f9, f10, f11, f12, f13, _, _, _, _, _, _, _⟩ := HS.out wS hSw; clear hSw; go_simp; try with_reducible rfl)
    simp only [Act.put, List.getElem_toArray, List.getElem_cons_zero, List.getElem_cons_succ, List.setIfInBounds_toArray, List.set_cons_zero, List.set_cons_succ]
    refine AUS_take (by kernel_rfl) rfl (i := 6) (oi := _) (v := undef) rfl (by kernel_rfl) (by kernel_rfl) (by kernel_rfl) (fun _ _ _ h => h) (Or.inr ⟨by rfl, rfl⟩) hHeld ?rst6
    try simp only [Act.put, List.getElem_toArray, List.getElem_cons_zero, List.getElem_cons_succ, List.setIfInBounds_toArray, List.set_cons_zero, List.set_cons_succ]
    refine AUS_take (by kernel_rfl) rfl (i := 7) (oi := _) (v := undef) rfl (by kernel_rfl) (by kernel_rfl) (by kernel_rfl) (fun _ _ _ h => h) (Or.inr ⟨by rfl, rfl⟩) hHeld ?rst7
    try simp only [Act.put, List.getElem_toArray, List.getElem_cons_zero, List.getElem_cons_succ, List.setIfInBounds_toArray, List.set_cons_zero, List.set_cons_succ]
    refine AUS_take (by kernel_rfl) rfl (i := 8) (oi := _) (v := undef) rfl (by kernel_rfl) (by kernel_rfl) (by kernel_rfl) (fun _ _ _ h => h) (Or.inr ⟨by rfl, rfl⟩) hHeld ?rst8
    try simp only [Act.put, List.getElem_toArray, List.getElem_cons_zero, List.getElem_cons_succ, List.setIfInBounds_toArray, List.set_cons_zero, List.set_cons_succ]
    refine AUS_take (by kernel_rfl) rfl (i := 9) (oi := _) (v := undef) rfl (by kernel_rfl) (by kernel_rfl) (by kernel_rfl) (fun _ _ _ h => h) (Or.inr ⟨by rfl, rfl⟩) hHeld ?rst9
    try simp only [Act.put, List.getElem_toArray, List.getElem_cons_zero, List.getElem_cons_succ, List.setIfInBounds_toArray, List.set_cons_zero, List.set_cons_succ]
    refine AUS_take (by kernel_rfl) rfl (i := 10) (oi := _) (v := undef) rfl (by kernel_rfl) (by kernel_rfl) (by kernel_rfl) (fun _ _ _ h => h) (Or.inr ⟨by rfl, rfl⟩) hHeld ?rst10
    try simp only [Act.put, List.getElem_toArray, List.getElem_cons_zero, List.getElem_cons_succ, List.setIfInBounds_toArray, List.set_cons_zero, List.set_cons_succ]
    refine AUS_take (by kernel_rfl) rfl (i := 11) (oi := _) (v := undef) rfl (by kernel_rfl) (by kernel_rfl) (by kernel_rfl) (fun _ _ _ h => h) (Or.inr ⟨by rfl, rfl⟩) hHeld ?rst11
    try simp only [Act.put, List.getElem_toArray, List.getElem_cons_zero, List.getElem_cons_succ, List.setIfInBounds_toArray, List.set_cons_zero, List.set_cons_succ]
    refine AUS_take (by kernel_rfl) rfl (i := 12) (oi := _) (v := undef) rfl (by kernel_rfl) (by kernel_rfl) (by kernel_rfl) (fun _ _ _ h => h) (Or.inr ⟨by rfl, rfl⟩) hHeld ?rst12
    try simp only [Act.put, List.getElem_toArray, List.getElem_cons_zero, List.getElem_cons_succ, List.setIfInBounds_toArray, List.set_cons_zero, List.set_cons_succ]
    refine AUS_take (by kernel_rfl) rfl (i := 13) (oi := _) (v := undef) rfl (by kernel_rfl) (by kernel_rfl) (by kernel_rfl) (fun _ _ _ h => h) (Or.inr ⟨by rfl, rfl⟩) hHeld ?rst13
    try simp only [Act.put, List.getElem_toArray, List.getElem_cons_zero, List.getElem_cons_succ, List.setIfInBounds_toArray, List.set_cons_zero, List.set_cons_succ]
    refine AUS_take (by kernel_rfl) rfl (i := 14) (oi := _) (v := ?vw14) rfl (by kernel_rfl) (by kernel_rfl) (by kernel_rfl) (fun _ _ _ h => h) (Or.inl ⟨by rfl, ?hz14⟩) hHeld ?rst14
    case hz14 => (intro wS hSw; obtain ⟨_, f0, f1, f2, f3, f4, f5, f6, f7, f8, f9, f10, f11, f12, f13, _, _, _, _, _, _, _⟩ := HS.out wS hSw; clear hSw; go_simp; try with_reducible rfl)
    simp only [Act.put, List.getElem_toArray, List.getElem_cons_zero, List.getElem_cons_succ, List.setIfInBounds_toArray, List.set_cons_zero, List.set_cons_succ]
    refine AUS_take (by kernel_rfl) rfl (i := 15) (oi := _) (v := ?vw15) rfl (by kernel_rfl) (by kernel_rfl) (by kernel_rfl) (fun _ _ _ h => h) (Or.inl ⟨by rfl, ?hz15⟩) hHeld ?rst15
    case hz15 => (intro wS hSw; obtain ⟨_, f0, f1, f2, f3, f4, f5, f6, f7, f8, f9, f10, f11, f12, f13, _, _, _, _, _, _, _⟩ := HS.out wS hSw; clear hSw; go_simp; try with_reducible rfl)
    simp only [Act.put, List.getElem_toArray, List.getElem_cons_zero, List.getElem_cons_succ, List.setIfInBounds_toArray, List.set_cons_zero, List.set_cons_succ]
    refine AUS_take (by kernel_rfl) rfl (i := 16) (oi := _) (v := undef) rfl (by kernel_rfl) (by kernel_rfl) (by kernel_rfl) (fun _ _ _ h => h) (Or.inr ⟨by rfl, rfl⟩) hHeld ?rst16
    try simp only [Act.put, List.getElem_toArray, List.getElem_cons_zero, List.getElem_cons_succ, List.setIfInBounds_toArray, List.set_cons_zero, List.set_cons_succ]
    refine AUS_take (by kernel_rfl) rfl (i := 17) (oi := _) (v := undef) rfl (by kernel_rfl) (by kernel_rfl) (by kernel_rfl) (fun _ _ _ h => h) (Or.inr ⟨by rfl, rfl⟩) hHeld ?rst17
    try simp only [Act.put, List.getElem_toArray, List.getElem_cons_zero, List.getElem_cons_succ, List.setIfInBounds_toArray, List.set_cons_zero, List.set_cons_succ]
    refine AUS_take (by kernel_rfl) rfl (i := 18) (oi := _) (v := undef) rfl (by kernel_rfl) (by kernel_rfl) (by kernel_rfl) (fun _ _ _ h => h) (Or.inr ⟨by rfl, rfl⟩) hHeld ?rst18
    try simp only [Act.put, List.getElem_toArray, List.getElem_cons_zero, List.getElem_cons_succ, List.setIfInBounds_toArray, List.set_cons_zero, List.set_cons_succ]
    refine AUS_take (by kernel_rfl) rfl (i := 19) (oi := _) (v := undef) rfl (by kernel_rfl) (by kernel_rfl) (by kernel_rfl) (fun _ _ _ h => h) (Or.inr ⟨by rfl, rfl⟩) hHeld ?rst19
    try simp only [Act.put, List.getElem_toArray, List.getElem_cons_zero, List.getElem_cons_succ, List.setIfInBounds_toArray, List.set_cons_zero, List.set_cons_succ]
    refine AUS_take (by kernel_rfl) rfl (i := 20) (oi := _) (v := undef) rfl (by kernel_rfl) (by kernel_rfl) (by kernel_rfl) (fun _ _ _ h => h) (Or.inr ⟨by rfl, rfl⟩) hHeld ?rst20
    try simp only [Act.put, List.getElem_toArray, List.getElem_cons_zero, List.getElem_cons_succ, List.setIfInBounds_toArray, List.set_cons_zero, List.set_cons_succ]
    refine AUS_take (by kernel_rfl) rfl (i := 21) (oi := _) (v := ?vw21) rfl (by kernel_rfl) (by kernel_rfl) (by kernel_rfl) (fun _ _ _ h => h) (Or.inl ⟨by rfl, ?hz21⟩) hHeld ?rst21
    case hz21 => (intro wS hSw; obtain ⟨_, f0, f1, f2, f3, f4, f5, f6, f7, f8, f9, f10, f11, f12, f13, _, _, _, _, _, _, _⟩ := HS.out wS hSw; clear hSw; go_simp; try with_reducible rfl)
    simp only [Act.put, List.getElem_toArray, List.getElem_cons_zero, List.getElem_cons_succ, List.setIfInBounds_toArray, List.set_cons_zero, List.set_cons_succ]
    refine AUS_take (by kernel_rfl) rfl (i := 22) (oi := _) (v := ?vw22) rfl (by kernel_rfl) (by kernel_rfl) (by kernel_rfl) (fun _ _ _ h => h) (Or.inl ⟨by rfl, ?hz22⟩) hHeld ?rst22
    case hz22 => (intro wS hSw; obtain ⟨_, f0, f1, f2, f3, f4, f5, f6, f7, f8, f9, f10, f11, f12, f13, _, _, _, _, _, _, _⟩ := HS.out wS hSw; clear hSw; go_simp; try with_reducible rfl)
    simp only [Act.put, List.getElem_toArray, List.getElem_cons_zero, List.getElem_cons_succ, List.setIfInBounds_toArray, List.set_cons_zero, List.set_cons_succ]
    refine AUS_take (by kernel_rfl) rfl (i := 23) (oi := _) (v := undef) rfl (by kernel_rfl) (by kernel_rfl) (by kernel_rfl) (fun _ _ _ h => h) (Or.inr ⟨by rfl, rfl⟩) hHeld ?rst23
    try simp only [Act.put, List.getElem_toArray, List.getElem_cons_zero, List.getElem_cons_succ, List.setIfInBounds_toArray, List.set_cons_zero, List.set_cons_succ]
    refine AUS_take (by kernel_rfl) rfl (i := 24) (oi := _) (v := undef) rfl (by kernel_rfl) (by kernel_rfl) (by kernel_rfl) (fun _ _ _ h => h) (Or.inr ⟨by rfl, rfl⟩) hHeld ?rst24
    try simp only [Act.put, List.getElem_toArray, List.getElem_cons_zero, List.getElem_cons_succ, List.setIfInBounds_toArray, List.set_cons_zero, List.set_cons_succ]
    refine AUS_take (by kernel_rfl) rfl (i := 25) (oi := _) (v := undef) rfl (by kernel_rfl) (by kernel_rfl) (by kernel_rfl) (fun _ _ _ h => h) (Or.inr ⟨by rfl, rfl⟩) hHeld ?rst25
    try simp only [Act.put, List.getElem_toArray, List.getElem_cons_zero, List.getElem_cons_succ, List.setIfInBounds_toArray, List.set_cons_zero, List.set_cons_succ]
    refine AUS_take (by kernel_rfl) rfl (i := 26) (oi := _) (v := undef) rfl (by kernel_rfl) (by kernel_rfl) (by kernel_rfl) (fun _ _ _ h => h) (Or.inr ⟨by rfl, rfl⟩) hHeld ?rst26
    try simp only [Act.put, List.getElem_toArray, List.getElem_cons_zero, List.getElem_cons_succ, List.setIfInBounds_toArray, List.set_cons_zero, List.set_cons_succ]
    refine AUS_take (by kernel_rfl) rfl (i := 27) (oi := _) (v := undef) rfl (by kernel_rfl) (by kernel_rfl) (by kernel_rfl) (fun _ _ _ h => h) (Or.inr ⟨by rfl, rfl⟩) hHeld ?rst27
    try simp only [Act.put, List.getElem_toArray, List.getElem_cons_zero, List.getElem_cons_succ, List.setIfInBounds_toArray, List.set_cons_zero, List.set_cons_succ]
    refine AUS_take (by kernel_rfl) rfl (i := 28) (oi := _) (v := undef) rfl (by kernel_rfl) (by kernel_rfl) (by kernel_rfl) (fun _ _ _ h => h) (Or.inr ⟨by rfl, rfl⟩) hHeld ?rst28
    try simp only [Act.put, List.getElem_toArray, List.getElem_cons_zero, List.getElem_cons_succ, List.setIfInBounds_toArray, List.set_cons_zero, List.set_cons_succ]
    refine AUS_take (by kernel_rfl) rfl (i := 29) (oi := _) (v := undef) rfl (by kernel_rfl) (by kernel_rfl) (by kernel_rfl) (fun _ _ _ h => h) (Or.inr ⟨by rfl, rfl⟩) hHeld ?rst29
    try simp only [Act.put, List.getElem_toArray, List.getElem_cons_zero, List.getElem_cons_succ, List.setIfInBounds_toArray, List.set_cons_zero, List.set_cons_succ]
    refine AUS_take (by kernel_rfl) rfl (i := 30) (oi := _) (v := undef) rfl (by kernel_rfl) (by kernel_rfl) (by kernel_rfl) (fun _ _ _ h => h) (Or.inr ⟨by rfl, rfl⟩) hHeld ?rst30
    try simp only [Act.put, List.getElem_toArray, List.getElem_cons_zero, List.getElem_cons_succ, List.setIfInBounds_toArray, List.set_cons_zero, List.set_cons_succ]
    refine AUS_take (by kernel_rfl) rfl (i := 31) (oi := _) (v := ?vw31) rfl (by kernel_rfl) (by kernel_rfl) (by kernel_rfl) (fun _ _ _ h => h) (Or.inl ⟨by rfl, ?hz31⟩) hHeld ?rst31
    case hz31 => (intro wS hSw; obtain ⟨_, f0, f1, f2, f3, f4, f5, f6, f7, f8, f9, f10, f11, f12, f13, _, _, _, _, _, _, _⟩ := HS.out wS hSw; clear hSw; go_simp; try with_reducible rfl)
    simp only [Act.put, List.getElem_toArray, List.getElem_cons_zero, List.getElem_cons_succ, List.setIfInBounds_toArray, List.set_cons_zero, List.set_cons_succ]
    refine AUS_take (by kernel_rfl) rfl (i := 32) (oi := _) (v := ?vw32) rfl (by kernel_rfl) (by kernel_rfl) (by kernel_rfl) (fun _ _ _ h => h) (Or.inl ⟨by rfl, ?hz32⟩) hHeld ?rst32
    case hz32 => (intro wS hSw; obtain ⟨_, f0, f1, f2, f3, f4, f5, f6, f7, f8, f9, f10, f11, f12, f13, _, _, _, _, _, _, _⟩ := HS.out wS hSw; clear hSw; go_simp; try with_reducible rfl)
    simp only [Act.put, List.getElem_toArray, List.getElem_cons_zero, List.getElem_cons_succ, List.setIfInBounds_toArray, List.set_cons_zero, List.set_cons_succ]
    refine AUS_take (by kernel_rfl) rfl (i := 33) (oi := _) (v := undef) rfl (by kernel_rfl) (by kernel_rfl) (by kernel_rfl) (fun _ _ _ h => h) (Or.inr ⟨by rfl, rfl⟩) hHeld ?rst33
    try simp only [Act.put, List.getElem_toArray, List.getElem_cons_zero, List.getElem_cons_succ, List.setIfInBounds_toArray, List.set_cons_zero, List.set_cons_succ]
    refine AUS_take (by kernel_rfl) rfl (i := 34) (oi := _) (v := undef) rfl (by kernel_rfl) (by kernel_rfl) (by kernel_rfl) (fun _ _ _ h => h) (Or.inr ⟨by rfl, rfl⟩) hHeld ?rst34
    try simp only [Act.put, List.getElem_toArray, List.getElem_cons_zero, List.getElem_cons_succ, List.setIfInBounds_toArray, List.set_cons_zero, List.set_cons_succ]
    refine AUS_take (by kernel_rfl) rfl (i := 35) (oi := _) (v := undef) rfl (by kernel_rfl) (by kernel_rfl) (by kernel_rfl) (fun _ _ _ h => h) (Or.inr ⟨by rfl, rfl⟩) hHeld ?rst35
    try simp only [Act.put, List.getElem_toArray, List.getElem_cons_zero, List.getElem_cons_succ, List.setIfInBounds_toArray, List.set_cons_zero, List.set_cons_succ]
    refine AUS_take (by kernel_rfl) rfl (i := 36) (oi := _) (v := undef) rfl (by kernel_rfl) (by kernel_rfl) (by kernel_rfl) (fun _ _ _ h => h) (Or.inr ⟨by rfl, rfl⟩) hHeld ?rst36
    try simp only [Act.put, List.getElem_toArray, List.getElem_cons_zero, List.getElem_cons_succ, List.setIfInBounds_toArray, List.set_cons_zero, List.set_cons_succ]
    refine AUS_take (by kernel_rfl) rfl (i := 37) (oi := _) (v := undef) rfl (by kernel_rfl) (by kernel_rfl) (by kernel_rfl) (fun _ _ _ h => h) (Or.inr ⟨by rfl, rfl⟩) hHeld ?rst37
    try simp only [Act.put, List.getElem_toArray, List.getElem_cons_zero, List.getElem_cons_succ, List.setIfInBounds_toArray, List.set_cons_zero, List.set_cons_succ]
    refine AUS_take (by kernel_rfl) rfl (i := 38) (oi := _) (v := ?vw38) rfl (by kernel_rfl) (by kernel_rfl) (by kernel_rfl) (fun _ _ _ h => h) (Or.inl ⟨by rfl, ?hz38⟩) hHeld ?rst38
    case hz38 => (intro wS hSw; obtain ⟨_, f0, f1, f2, f3, f4, f5, f6, f7, f8, f9, f10, f11, f12, f13, _, _, _, _, _, _, _⟩ := HS.out wS hSw; clear hSw; go_simp; try with_reducible rfl)
    simp only [Act.put, List.getElem_toArray, List.getElem_cons_zero, List.getElem_cons_succ, List.setIfInBounds_toArray, List.set_cons_zero, List.set_cons_succ]
    refine AUS_take (by kernel_rfl) rfl (i := 39) (oi := _) (v := ?vw39) rfl (by kernel_rfl) (by kernel_rfl) (by kernel_rfl) (fun _ _ _ h => h) (Or.inl ⟨by rfl, ?hz39⟩) hHeld ?rst39
    case hz39 => (intro wS hSw; obtain ⟨_, f0, f1, f2, f3, f4, f5, f6, f7, f8, f9, f10, f11, f12, f13, _, _, _, _, _, _, _⟩ := HS.out wS hSw; clear hSw; go_simp; try with_reducible rfl)
    simp only [Act.put, List.getElem_toArray, List.getElem_cons_zero, List.getElem_cons_succ, List.setIfInBounds_toArray, List.set_cons_zero, List.set_cons_succ]
    have HE := Lib.hid hHeld
    clear hHeld
    refine AU_done (by kernel_rfl) ?_ _
    simp only [OnlyN]
    have hHeld := HE.out
    clear HE
    have HE := Lib.hid (HS.out _ hHeld).1
    clear hHeld
    go_wp2_with fail
    go_ret
    exact ⟨by simp [en, E1.out], HE.out⟩
  · skip
    refine AUS_take (by kernel_rfl) rfl (i := 5) (oi := _) (v := ?vw40) rfl (by kernel_rfl) (by kernel_rfl) (by kernel_rfl) (fun _ _ _ h => h) (Or.inl ⟨by rfl, ?hz40⟩) hHeld ?rst40
    case hz40 => (intro wS hSw; obtain ⟨_, f0, f1, f2, f3, f4, f5, f6, f7, f8, f9, f10, f11, f12, f13, _, _, _, _, _, _, _⟩ := HS.out wS hSw; clear hSw; go_simp; try with_reducible rfl)
    simp only [Act.put, List.getElem_toArray, List.getElem_cons_zero, List.getElem_cons_succ, List.setIfInBounds_toArray, List.set_cons_zero, List.set_cons_succ]
    refine AUS_take (by kernel_rfl) rfl (i := 6) (oi := _) (v := ?vw41) rfl (by kernel_rfl) (by kernel_rfl) (by kernel_rfl) (fun _ _ _ h => h) (Or.inl ⟨by rfl, ?hz41⟩) hHeld ?rst41
    case hz41 => (intro wS hSw; obtain ⟨_, f0, f1, f2, f3, f4, f5, f6, f7, f8, f9, f10, f11, f12, f13, _, _, _, _, _, _, _⟩ := HS.out wS hSw; clear hSw; go_simp; try with_reducible rfl)
    simp only [Act.put, List.getElem_toArray, List.getElem_cons_zero, List.getElem_cons_succ, List.setIfInBounds_toArray, List.set_cons_zero, List.set_cons_succ]
    refine AUS_take (by kernel_rfl) rfl (i := 7) (oi := _) (v := ?vw42) rfl (by kernel_rfl) (by kernel_rfl) (by kernel_rfl) (fun _ _ _ h => h) (Or.inl ⟨by rfl, ?hz42⟩) hHeld ?rst42
    case hz42 => (intro wS hSw; obtain ⟨_, f0, f1, f2, f3, f4, f5, f6, f7, f8, f9, f10, f11, f12, f13, _, _, _, _, _, _, _⟩ := HS.out wS hSw; clear hSw; go_simp; try with_reducible rfl)
    simp only [Act.put, List.getElem_toArray, List.getElem_cons_zero, List.getElem_cons_succ, List.setIfInBounds_toArray, List.set_cons_zero, List.set_cons_succ]
    refine AUS_take (by kernel_rfl) rfl (i := 8) (oi := _) (v := ?vw43) rfl (by kernel_rfl) (by kernel_rfl) (by kernel_rfl) (fun _ _ _ h => h) (Or.inl ⟨by rfl, ?hz43⟩) hHeld ?rst43
    case hz43 => (intro wS hSw; obtain ⟨_, f0, f1, f2, f3, f4, f5, f6, f7, f8, f9, f10, f11, f12, f13, _, _, _, _, _, _, _⟩ := HS.out wS hSw; clear hSw; go_simp; try with_reducible rfl)
    simp only [Act.put, List.getElem_toArray, List.getElem_cons_zero, List.getElem_cons_succ, List.setIfInBounds_toArray, List.set_cons_zero, List.set_cons_succ]
    refine AUS_take (by kernel_rfl) rfl (i := 9) (oi := _) (v := ?vw44) rfl (by kernel_rfl) (by kernel_rfl) (by kernel_rfl) (fun _ _ _ h => h) (Or.inl ⟨by rfl, ?hz44⟩) hHeld ?rst44
    case hz44 => (intro wS hSw; obtain ⟨_, f0, f1, f2, f3, f4, f5, f6, f7, f8, f9, f10, f11, f12, f13, _, _, _, _, _, _, _⟩ := HS.out wS hSw; clear hSw; go_simp; try with_reducible rfl)
    simp only [Act.put, List.getElem_toArray, List.getElem_cons_zero, List.getElem_cons_succ, List.setIfInBounds_toArray, List.set_cons_zero, List.set_cons_succ]
    refine AUS_take (by kernel_rfl) rfl (i := 11) (oi := _) (v := ?vw45) rfl (by kernel_rfl) (by kernel_rfl) (by kernel_rfl) (fun _ _ _ h => h) (Or.inl ⟨by rfl, ?hz45⟩) hHeld ?rst45
    case hz45 => (intro wS hSw; obtain ⟨_, f0, f1, f2, f3, f4, f5, f6, f7, f8, f9, f10, f11, f12, f13, _, _, _, _, _, _, _⟩ := HS.out wS hSw; clear hSw; go_simp; try with_reducible rfl)
    simp only [Act.put, List.getElem_toArray, List.getElem_cons_zero, List.getElem_cons_succ, List.setIfInBounds_toArray, List.set_cons_zero, List.set_cons_succ]
    refine AUS_take (by kernel_rfl) rfl (i := 12) (oi := _) (v := ?vw46) rfl (by kernel_rfl) (by kernel_rfl) (by kernel_rfl) (fun _ _ _ h => h) (Or.inl ⟨by rfl, ?hz46⟩) hHeld ?rst46
    case hz46 => (intro wS hSw; obtain ⟨_, f0, f1, f2, f3, f4, f5, f6, f7, f8, f9, f10, f11, f12, f13, _, _, _, _, _, _, _⟩ := HS.out wS hSw; clear hSw; go_simp; try with_reducible rfl)
    simp only [Act.put, List.getElem_toArray, List.getElem_cons_zero, List.getElem_cons_succ, List.setIfInBounds_toArray, List.set_cons_zero, List.set_cons_succ]
    have HH := Lib.hid hHeld
    obtain ⟨hbw, _, _, _, _, _, _, _, _, _, _, _, _, _, _, g0, g1, g2, g3, g4, g5, g6⟩ := HS.out _ hHeld
    refine AU_one (i := 10) (o := _) (by kernel_rfl) rfl (fun K hK => ?_)
    have CC := Lib.hid (rleast_m (g0.mono (by omega)) (g3.mono (by omega)))
    clear hHeld hbw g0 g1 g2 g3 g4 g5 g6
    go_simp
    refine CC.out.mono ?_
    clear CC
    rintro e wz2 ⟨a7, n7, c7, rfl, l7, hb⟩
    have hHeld := HH.out.trans (hb.mono HH.out.size)
    clear HH hb
    refine hK.out _ _ (fun _ => hHeld) ?_
    clear hK K
    try simp only [Act.put, List.getElem_toArray, List.getElem_cons_zero, List.getElem_cons_succ, List.setIfInBounds_toArray, List.set_cons_zero, List.set_cons_succ]
    have HH := Lib.hid hHeld
    obtain ⟨hbw, _, _, _, _, _, _, _, _, _, _, _, _, _, _, g0, g1, g2, g3, g4, g5, g6⟩ := HS.out _ hHeld
    refine AU_one (i := 13) (o := _) (by kernel_rfl) rfl (fun K hK => ?_)
    obtain ⟨b3, E3⟩ : ∃ b, Hid (lq (lsD D0 D3) (lsP D0 P0 D3 P3) D5 P5 = b) := ⟨_, Lib.hid rfl⟩
    have CC := rleq_m l7.la g5 (by omega) (by omega)
    rw [E3.out] at CC
    have CC := Lib.hid CC
    clear hHeld hbw g0 g1 g2 g3 g4 g5 g6
    go_simp
    refine CC.out.mono ?_
    clear CC
    rintro e wz3 ⟨rfl, hb⟩
    have hHeld := HH.out.trans (hb.mono HH.out.size)
    replace l7 := l7.below hb
    clear HH hb
    refine hK.out _ _ (fun _ => hHeld) ?_
    clear hK K
    try simp only [Act.put, List.getElem_toArray, List.getElem_cons_zero, List.getElem_cons_succ, List.setIfInBounds_toArray, List.set_cons_zero, List.set_cons_succ]
    cases b3
    · skip
      refine AUS_take (by kernel_rfl) rfl (i := 14) (oi := _) (v := ?vw47) rfl (by kernel_rfl) (by kernel_rfl) (by kernel_rfl) (fun _ _ _ h => h) (Or.inl ⟨by rfl, ?hz47⟩) hHeld ?rst47
      case hz47 => (intro wS hSw; obtain ⟨_, f0, f1, f2, f3, f4, f5, f6, f7, f8, f9, f10, f11, f12, f13, _, _, _, _, _, _, _⟩ := HS.out wS hSw; clear hSw; go_simp; try with_reducible rfl)
      simp only [Act.put, List.getElem_toArray, List.getElem_cons_zero, List.getElem_cons_succ, List.setIfInBounds_toArray, List.set_cons_zero, List.set_cons_succ]
      refine AUS_take (by kernel_rfl) rfl (i := 15) (oi := _) (v := ?vw48) rfl (by kernel_rfl) (by kernel_rfl) (by kernel_rfl) (fun _ _ _ h => h) (Or.inl ⟨by rfl, ?hz48⟩) hHeld ?rst48
      case hz48 => (intro wS hSw; obtain ⟨_, f0, f1, f2, f3, f4, f5, f6, f7, f8, f9, f10, f11, f12, f13, _, _, _, _, _, _, _⟩ := HS.out wS hSw; clear hSw; go_simp; try with_reducible rfl)
      simp only [Act.put, List.getElem_toArray, List.getElem_cons_zero, List.getElem_cons_succ, List.setIfInBounds_toArray, List.set_cons_zero, List.set_cons_succ]
      refine AUS_take (by kernel_rfl) rfl (i := 16) (oi := _) (v := undef) rfl (by kernel_rfl) (by kernel_rfl) (by kernel_rfl) (fun _ _ _ h => h) (Or.inr ⟨by rfl, rfl⟩) hHeld ?rst49
      try simp only [Act.put, List.getElem_toArray, List.getElem_cons_zero, List.getElem_cons_succ, List.setIfInBounds_toArray, List.set_cons_zero, List.set_cons_succ]
      refine AUS_take (by kernel_rfl) rfl (i := 17) (oi := _) (v := undef) rfl (by kernel_rfl) (by kernel_rfl) (by kernel_rfl) (fun _ _ _ h => h) (Or.inr ⟨by rfl, rfl⟩) hHeld ?rst50
      try simp only [Act.put, List.getElem_toArray, List.getElem_cons_zero, List.getElem_cons_succ, List.setIfInBounds_toArray, List.set_cons_zero, List.set_cons_succ]
      refine AUS_take (by kernel_rfl) rfl (i := 18) (oi := _) (v := undef) rfl (by kernel_rfl) (by kernel_rfl) (by kernel_rfl) (fun _ _ _ h => h) (Or.inr ⟨by rfl, rfl⟩) hHeld ?rst51
      try simp only [Act.put, List.getElem_toArray, List.getElem_cons_zero, List.getElem_cons_succ, List.setIfInBounds_toArray, List.set_cons_zero, List.set_cons_succ]
      refine AUS_take (by kernel_rfl) rfl (i := 19) (oi := _) (v := undef) rfl (by kernel_rfl) (by kernel_rfl) (by kernel_rfl) (fun _ _ _ h => h) (Or.inr ⟨by rfl, rfl⟩) hHeld ?rst52
      try simp only [Act.put, List.getElem_toArray, List.getElem_cons_zero, List.getElem_cons_succ, List.setIfInBounds_toArray, List.set_cons_zero, List.set_cons_succ]
      refine AUS_take (by kernel_rfl) rfl (i := 20) (oi := _) (v := undef) rfl (by kernel_rfl) (by kernel_rfl) (by kernel_rfl) (fun _ _ _ h => h) (Or.inr ⟨by rfl, rfl⟩) hHeld ?rst53
      try simp only [Act.put, List.getElem_toArray, List.getElem_cons_zero, List.getElem_cons_succ, List.setIfInBounds_toArray, List.set_cons_zero, List.set_cons_succ]
      refine AUS_take (by kernel_rfl) rfl (i := 21) (oi := _) (v := ?vw54) rfl (by kernel_rfl) (by kernel_rfl) (by kernel_rfl) (fun _ _ _ h => h) (Or.inl ⟨by rfl, ?hz54⟩) hHeld ?rst54
      case hz54 => (intro wS hSw; obtain ⟨_, f0, f1, f2, f3, f4, f5, f6, f7, f8, f9, f10, f11, f12, f13, _, _, _, _, _, _, _⟩ := HS.out wS hSw; clear hSw; go_simp; try with_reducible rfl)
      simp only [Act.put, List.getElem_toArray, List.getElem_cons_zero, List.getElem_cons_succ, List.setIfInBounds_toArray, List.set_cons_zero, List.set_cons_succ]
      refine AUS_take (by kernel_rfl) rfl (i := 22) (oi := _) (v := ?vw55) rfl (by kernel_rfl) (by kernel_rfl) (by kernel_rfl) (fun _ _ _ h => h) (Or.inl ⟨by rfl, ?hz55⟩) hHeld ?rst55
      case hz55 => (intro wS hSw; obtain ⟨_, f0, f1, f2, f3, f4, f5, f6, f7, f8, f9, f10, f11, f12, f13, _, _, _, _, _, _, _⟩ := HS.out wS hSw; clear hSw; go_simp; try with_reducible rfl)
      simp only [Act.put, List.getElem_toArray, List.getElem_cons_zero, List.getElem_cons_succ, List.setIfInBounds_toArray, List.set_cons_zero, List.set_cons_succ]
      refine AUS_take (by kernel_rfl) rfl (i := 23) (oi := _) (v := undef) rfl (by kernel_rfl) (by kernel_rfl) (by kernel_rfl) (fun _ _ _ h => h) (Or.inr ⟨by rfl, rfl⟩) hHeld ?rst56
      try simp only [Act.put, List.getElem_toArray, List.getElem_cons_zero, List.getElem_cons_succ, List.setIfInBounds_toArray, List.set_cons_zero, List.set_cons_succ]
      refine AUS_take (by kernel_rfl) rfl (i := 24) (oi := _) (v := undef) rfl (by kernel_rfl) (by kernel_rfl) (by kernel_rfl) (fun _ _ _ h => h) (Or.inr ⟨by rfl, rfl⟩) hHeld ?rst57
      try simp only [Act.put, List.getElem_toArray, List.getElem_cons_zero, List.getElem_cons_succ, List.setIfInBounds_toArray, List.set_cons_zero, List.set_cons_succ]
      refine AUS_take (by kernel_rfl) rfl (i := 25) (oi := _) (v := undef) rfl (by kernel_rfl) (by kernel_rfl) (by kernel_rfl) (fun _ _ _ h => h) (Or.inr ⟨by rfl, rfl⟩) hHeld ?rst58
      try simp only [Act.put, List.getElem_toArray, List.getElem_cons_zero, List.getElem_cons_succ, List.setIfInBounds_toArray, List.set_cons_zero, List.set_cons_succ]
      refine AUS_take (by kernel_rfl) rfl (i := 26) (oi := _) (v := undef) rfl (by kernel_rfl) (by kernel_rfl) (by kernel_rfl) (fun _ _ _ h => h) (Or.inr ⟨by rfl, rfl⟩) hHeld ?rst59
      try simp only [Act.put, List.getElem_toArray, List.getElem_cons_zero, List.getElem_cons_succ, List.setIfInBounds_toArray, List.set_cons_zero, List.set_cons_succ]
      refine AUS_take (by kernel_rfl) rfl (i := 27) (oi := _) (v := undef) rfl (by kernel_rfl) (by kernel_rfl) (by kernel_rfl) (fun _ _ _ h => h) (Or.inr ⟨by rfl, rfl⟩) hHeld ?rst60
      try simp only [Act.put, List.getElem_toArray, List.getElem_cons_zero, List.getElem_cons_succ, List.setIfInBounds_toArray, List.set_cons_zero, List.set_cons_succ]
      refine AUS_take (by kernel_rfl) rfl (i := 28) (oi := _) (v := undef) rfl (by kernel_rfl) (by kernel_rfl) (by kernel_rfl) (fun _ _ _ h => h) (Or.inr ⟨by rfl, rfl⟩) hHeld ?rst61
      try simp only [Act.put, List.getElem_toArray, List.getElem_cons_zero, List.getElem_cons_succ, List.setIfInBounds_toArray, List.set_cons_zero, List.set_cons_succ]
      refine AUS_take (by kernel_rfl) rfl (i := 29) (oi := _) (v := undef) rfl (by kernel_rfl) (by kernel_rfl) (by kernel_rfl) (fun _ _ _ h => h) (Or.inr ⟨by rfl, rfl⟩) hHeld ?rst62
      try simp only [Act.put, List.getElem_toArray, List.getElem_cons_zero, List.getElem_cons_succ, List.setIfInBounds_toArray, List.set_cons_zero, List.set_cons_succ]
      refine AUS_take (by kernel_rfl) rfl (i := 30) (oi := _) (v := undef) rfl (by kernel_rfl) (by kernel_rfl) (by kernel_rfl) (fun _ _ _ h => h) (Or.inr ⟨by rfl, rfl⟩) hHeld ?rst63
      try simp only [Act.put, List.getElem_toArray, List.getElem_cons_zero, List.getElem_cons_succ, List.setIfInBounds_toArray, List.set_cons_zero, List.set_cons_succ]
      refine AUS_take (by kernel_rfl) rfl (i := 31) (oi := _) (v := ?vw64) rfl (by kernel_rfl) (by kernel_rfl) (by kernel_rfl) (fun _ _ _ h => h) (Or.inl ⟨by rfl, ?hz64⟩) hHeld ?rst64
      case hz64 => (intro wS hSw; obtain ⟨_, f0, f1, f2, f3, f4, f5, f6, f7, f8, f9, f10, f11, f12, f13, _, _, _, _, _, _, _⟩ := HS.out wS hSw; clear hSw; go_simp; try with_reducible rfl)
      simp only [Act.put, List.getElem_toArray, List.getElem_cons_zero, List.getElem_cons_succ, List.setIfInBounds_toArray, List.set_cons_zero, List.set_cons_succ]
      refine AUS_take (by kernel_rfl) rfl (i := 32) (oi := _) (v := ?vw65) rfl (by kernel_rfl) (by kernel_rfl) (by kernel_rfl) (fun _ _ _ h => h) (Or.inl ⟨by rfl, ?hz65⟩) hHeld ?rst65
      case hz65 => (intro wS hSw; obtain ⟨_, f0, f1, f2, f3, f4, f5, f6, f7, f8, f9, f10, f11, f12, f13, _, _, _, _, _, _, _⟩ := HS.out wS hSw; clear hSw; go_simp; try with_reducible rfl)
      simp only [Act.put, List.getElem_toArray, List.getElem_cons_zero, List.getElem_cons_succ, List.setIfInBounds_toArray, List.set_cons_zero, List.set_cons_succ]
      refine AUS_take (by kernel_rfl) rfl (i := 33) (oi := _) (v := undef) rfl (by kernel_rfl) (by kernel_rfl) (by kernel_rfl) (fun _ _ _ h => h) (Or.inr ⟨by rfl, rfl⟩) hHeld ?rst66
      try simp only [Act.put, List.getElem_toArray, List.getElem_cons_zero, List.getElem_cons_succ, List.setIfInBounds_toArray, List.set_cons_zero, List.set_cons_succ]
      refine AUS_take (by kernel_rfl) rfl (i := 34) (oi := _) (v := undef) rfl (by kernel_rfl) (by kernel_rfl) (by kernel_rfl) (fun _ _ _ h => h) (Or.inr ⟨by rfl, rfl⟩) hHeld ?rst67
      try simp only [Act.put, List.getElem_toArray, List.getElem_cons_zero, List.getElem_cons_succ, List.setIfInBounds_toArray, List.set_cons_zero, List.set_cons_succ]
      refine AUS_take (by kernel_rfl) rfl (i := 35) (oi := _) (v := undef) rfl (by kernel_rfl) (by kernel_rfl) (by kernel_rfl) (fun _ _ _ h => h) (Or.inr ⟨by rfl, rfl⟩) hHeld ?rst68
      try simp only [Act.put, List.getElem_toArray, List.getElem_cons_zero, List.getElem_cons_succ, List.setIfInBounds_toArray, List.set_cons_zero, List.set_cons_succ]
      refine AUS_take (by kernel_rfl) rfl (i := 36) (oi := _) (v := undef) rfl (by kernel_rfl) (by kernel_rfl) (by kernel_rfl) (fun _ _ _ h => h) (Or.inr ⟨by rfl, rfl⟩) hHeld ?rst69
      try simp only [Act.put, List.getElem_toArray, List.getElem_cons_zero, List.getElem_cons_succ, List.setIfInBounds_toArray, List.set_cons_zero, List.set_cons_succ]
      refine AUS_take (by kernel_rfl) rfl (i := 37) (oi := _) (v := undef) rfl (by kernel_rfl) (by kernel_rfl) (by kernel_rfl) (fun _ _ _ h => h) (Or.inr ⟨by rfl, rfl⟩) hHeld ?rst70
      try simp only [Act.put, List.getElem_toArray, List.getElem_cons_zero, List.getElem_cons_succ, List.setIfInBounds_toArray, List.set_cons_zero, List.set_cons_succ]
      refine AUS_take (by kernel_rfl) rfl (i := 38) (oi := _) (v := ?vw71) rfl (by kernel_rfl) (by kernel_rfl) (by kernel_rfl) (fun _ _ _ h => h) (Or.inl ⟨by rfl, ?hz71⟩) hHeld ?rst71
      case hz71 => (intro wS hSw; obtain ⟨_, f0, f1, f2, f3, f4, f5, f6, f7, f8, f9, f10, f11, f12, f13, _, _, _, _, _, _, _⟩ := HS.out wS hSw; clear hSw; go_simp; try with_reducible rfl)
      simp only [Act.put, List.getElem_toArray, List.getElem_cons_zero, List.getElem_cons_succ, List.setIfInBounds_toArray, List.set_cons_zero, List.set_cons_succ]
      refine AUS_take (by kernel_rfl) rfl (i := 39) (oi := _) (v := ?vw72) rfl (by kernel_rfl) (by kernel_rfl) (by kernel_rfl) (fun _ _ _ h => h) (Or.inl ⟨by rfl, ?hz72⟩) hHeld ?rst72
      case hz72 => (intro wS hSw; obtain ⟨_, f0, f1, f2, f3, f4, f5, f6, f7, f8, f9, f10, f11, f12, f13, _, _, _, _, _, _, _⟩ := HS.out wS hSw; clear hSw; go_simp; try with_reducible rfl)
      simp only [Act.put, List.getElem_toArray, List.getElem_cons_zero, List.getElem_cons_succ, List.setIfInBounds_toArray, List.set_cons_zero, List.set_cons_succ]
      have HE := Lib.hid hHeld
      clear hHeld
      refine AU_done (by kernel_rfl) ?_ _
      simp only [OnlyN]
      have hHeld := HE.out
      clear HE
      have HE := Lib.hid (HS.out _ hHeld).1
      clear hHeld
      go_wp2_with fail
      go_ret
      exact ⟨by simp [en, E1.out, E3.out], HE.out⟩
    · skip
      refine AUS_take (by kernel_rfl) rfl (i := 14) (oi := _) (v := ?vw73) rfl (by kernel_rfl) (by kernel_rfl) (by kernel_rfl) (fun _ _ _ h => h) (Or.inl ⟨by rfl, ?hz73⟩) hHeld ?rst73
      case hz73 => (intro wS hSw; obtain ⟨_, f0, f1, f2, f3, f4, f5, f6, f7, f8, f9, f10, f11, f12, f13, _, _, _, _, _, _, _⟩ := HS.out wS hSw; clear hSw; go_simp; try with_reducible rfl)
      simp only [Act.put, List.getElem_toArray, List.getElem_cons_zero, List.getElem_cons_succ, List.setIfInBounds_toArray, List.set_cons_zero, List.set_cons_succ]
      refine AUS_take (by kernel_rfl) rfl (i := 15) (oi := _) (v := ?vw74) rfl (by kernel_rfl) (by kernel_rfl) (by kernel_rfl) (fun _ _ _ h => h) (Or.inl ⟨by rfl, ?hz74⟩) hHeld ?rst74
      case hz74 => (intro wS hSw; obtain ⟨_, f0, f1, f2, f3, f4, f5, f6, f7, f8, f9, f10, f11, f12, f13, _, _, _, _, _, _, _⟩ := HS.out wS hSw; clear hSw; go_simp; try with_reducible rfl)
      simp only [Act.put, List.getElem_toArray, List.getElem_cons_zero, List.getElem_cons_succ, List.setIfInBounds_toArray, List.set_cons_zero, List.set_cons_succ]
      refine AUS_take (by kernel_rfl) rfl (i := 16) (oi := _) (v := ?vw75) rfl (by kernel_rfl) (by kernel_rfl) (by kernel_rfl) (fun _ _ _ h => h) (Or.inl ⟨by rfl, ?hz75⟩) hHeld ?rst75
      case hz75 => (intro wS hSw; obtain ⟨_, f0, f1, f2, f3, f4, f5, f6, f7, f8, f9, f10, f11, f12, f13, _, _, _, _, _, _, _⟩ := HS.out wS hSw; clear hSw; go_simp; try with_reducible rfl)
      simp only [Act.put, List.getElem_toArray, List.getElem_cons_zero, List.getElem_cons_succ, List.setIfInBounds_toArray, List.set_cons_zero, List.set_cons_succ]
      refine AUS_take (by kernel_rfl) rfl (i := 17) (oi := _) (v := ?vw76) rfl (by kernel_rfl) (by kernel_rfl) (by kernel_rfl) (fun _ _ _ h => h) (Or.inl ⟨by rfl, ?hz76⟩) hHeld ?rst76
      case hz76 => (intro wS hSw; obtain ⟨_, f0, f1, f2, f3, f4, f5, f6, f7, f8, f9, f10, f11, f12, f13, _, _, _, _, _, _, _⟩ := HS.out wS hSw; clear hSw; go_simp; try with_reducible rfl)
      simp only [Act.put, List.getElem_toArray, List.getElem_cons_zero, List.getElem_cons_succ, List.setIfInBounds_toArray, List.set_cons_zero, List.set_cons_succ]
      refine AUS_take (by kernel_rfl) rfl (i := 18) (oi := _) (v := ?vw77) rfl (by kernel_rfl) (by kernel_rfl) (by kernel_rfl) (fun _ _ _ h => h) (Or.inl ⟨by rfl, ?hz77⟩) hHeld ?rst77
      case hz77 => (intro wS hSw; obtain ⟨_, f0, f1, f2, f3, f4, f5, f6, f7, f8, f9, f10, f11, f12, f13, _, _, _, _, _, _, _⟩ := HS.out wS hSw; clear hSw; go_simp; try with_reducible rfl)
      simp only [Act.put, List.getElem_toArray, List.getElem_cons_zero, List.getElem_cons_succ, List.setIfInBounds_toArray, List.set_cons_zero, List.set_cons_succ]
      refine AUS_take (by kernel_rfl) rfl (i := 19) (oi := _) (v := ?vw78) rfl (by kernel_rfl) (by kernel_rfl) (by kernel_rfl) (fun _ _ _ h => h) (Or.inl ⟨by rfl, ?hz78⟩) hHeld ?rst78
      case hz78 => (intro wS hSw; obtain ⟨_, f0, f1, f2, f3, f4, f5, f6, f7, f8, f9, f10, f11, f12, f13, _, _, _, _, _, _, _⟩ := HS.out wS hSw; clear hSw; go_simp; try with_reducible rfl)
      simp only [Act.put, List.getElem_toArray, List.getElem_cons_zero, List.getElem_cons_succ, List.setIfInBounds_toArray, List.set_cons_zero, List.set_cons_succ]
      have HH := Lib.hid hHeld
      obtain ⟨hbw, _, _, _, _, _, _, _, _, _, _, _, _, _, _, g0, g1, g2, g3, g4, g5, g6⟩ := HS.out _ hHeld
      refine AU_one (i := 20) (o := _) (by kernel_rfl) rfl (fun K hK => ?_)
      obtain ⟨b4, E4⟩ : ∃ b, Hid (lq D5 P5 D6 P6 = b) := ⟨_, Lib.hid rfl⟩
      have CC := rleq_m g5 g6 (by omega) (by omega)
      rw [E4.out] at CC
      have CC := Lib.hid CC
      clear hHeld hbw g0 g1 g2 g3 g4 g5 g6
      go_simp
      refine CC.out.mono ?_
      clear CC
      rintro e wz4 ⟨rfl, hb⟩
      have hHeld := HH.out.trans (hb.mono HH.out.size)
      replace l7 := l7.below hb
      clear HH hb
      refine hK.out _ _ (fun _ => hHeld) ?_
      clear hK K
      try simp only [Act.put, List.getElem_toArray, List.getElem_cons_zero, List.getElem_cons_succ, List.setIfInBounds_toArray, List.set_cons_zero, List.set_cons_succ]
      cases b4
      · skip
        refine AUS_take (by kernel_rfl) rfl (i := 21) (oi := _) (v := ?vw79) rfl (by kernel_rfl) (by kernel_rfl) (by kernel_rfl) (fun _ _ _ h => h) (Or.inl ⟨by rfl, ?hz79⟩) hHeld ?rst79
        case hz79 => (intro wS hSw; obtain ⟨_, f0, f1, f2, f3, f4, f5, f6, f7, f8, f9, f10, f11, f12, f13, _, _, _, _, _, _, _⟩ := HS.out wS hSw; clear hSw; go_simp; try with_reducible rfl)
        simp only [Act.put, List.getElem_toArray, List.getElem_cons_zero, List.getElem_cons_succ, List.setIfInBounds_toArray, List.set_cons_zero, List.set_cons_succ]
        refine AUS_take (by kernel_rfl) rfl (i := 22) (oi := _) (v := ?vw80) rfl (by kernel_rfl) (by kernel_rfl) (by kernel_rfl) (fun _ _ _ h => h) (Or.inl ⟨by rfl, ?hz80⟩) hHeld ?rst80
        case hz80 => (intro wS hSw; obtain ⟨_, f0, f1, f2, f3, f4, f5, f6, f7, f8, f9, f10, f11, f12, f13, _, _, _, _, _, _, _⟩ := HS.out wS hSw; clear hSw; go_simp; try with_reducible rfl)
        simp only [Act.put, List.getElem_toArray, List.getElem_cons_zero, List.getElem_cons_succ, List.setIfInBounds_toArray, List.set_cons_zero, List.set_cons_succ]
        refine AUS_take (by kernel_rfl) rfl (i := 23) (oi := _) (v := undef) rfl (by kernel_rfl) (by kernel_rfl) (by kernel_rfl) (fun _ _ _ h => h) (Or.inr ⟨by rfl, rfl⟩) hHeld ?rst81
        try simp only [Act.put, List.getElem_toArray, List.getElem_cons_zero, List.getElem_cons_succ, List.setIfInBounds_toArray, List.set_cons_zero, List.set_cons_succ]
        refine AUS_take (by kernel_rfl) rfl (i := 24) (oi := _) (v := undef) rfl (by kernel_rfl) (by kernel_rfl) (by kernel_rfl) (fun _ _ _ h => h) (Or.inr ⟨by rfl, rfl⟩) hHeld ?rst82
        try simp only [Act.put, List.getElem_toArray, List.getElem_cons_zero, List.getElem_cons_succ, List.setIfInBounds_toArray, List.set_cons_zero, List.set_cons_succ]
        refine AUS_take (by kernel_rfl) rfl (i := 25) (oi := _) (v := undef) rfl (by kernel_rfl) (by kernel_rfl) (by kernel_rfl) (fun _ _ _ h => h) (Or.inr ⟨by rfl, rfl⟩) hHeld ?rst83
        try simp only [Act.put, List.getElem_toArray, List.getElem_cons_zero, List.getElem_cons_succ, List.setIfInBounds_toArray, List.set_cons_zero, List.set_cons_succ]
        refine AUS_take (by kernel_rfl) rfl (i := 26) (oi := _) (v := undef) rfl (by kernel_rfl) (by kernel_rfl) (by kernel_rfl) (fun _ _ _ h => h) (Or.inr ⟨by rfl, rfl⟩) hHeld ?rst84
        try simp only [Act.put, List.getElem_toArray, List.getElem_cons_zero, List.getElem_cons_succ, List.setIfInBounds_toArray, List.set_cons_zero, List.set_cons_succ]
        refine AUS_take (by kernel_rfl) rfl (i := 27) (oi := _) (v := undef) rfl (by kernel_rfl) (by kernel_rfl) (by kernel_rfl) (fun _ _ _ h => h) (Or.inr ⟨by rfl, rfl⟩) hHeld ?rst85
        try simp only [Act.put, List.getElem_toArray, List.getElem_cons_zero, List.getElem_cons_succ, List.setIfInBounds_toArray, List.set_cons_zero, List.set_cons_succ]
        refine AUS_take (by kernel_rfl) rfl (i := 28) (oi := _) (v := undef) rfl (by kernel_rfl) (by kernel_rfl) (by kernel_rfl) (fun _ _ _ h => h) (Or.inr ⟨by rfl, rfl⟩) hHeld ?rst86
        try simp only [Act.put, List.getElem_toArray, List.getElem_cons_zero, List.getElem_cons_succ, List.setIfInBounds_toArray, List.set_cons_zero, List.set_cons_succ]
        refine AUS_take (by kernel_rfl) rfl (i := 29) (oi := _) (v := undef) rfl (by kernel_rfl) (by kernel_rfl) (by kernel_rfl) (fun _ _ _ h => h) (Or.inr ⟨by rfl, rfl⟩) hHeld ?rst87
        try simp only [Act.put, List.getElem_toArray, List.getElem_cons_zero, List.getElem_cons_succ, List.setIfInBounds_toArray, List.set_cons_zero, List.set_cons_succ]
        refine AUS_take (by kernel_rfl) rfl (i := 30) (oi := _) (v := undef) rfl (by kernel_rfl) (by kernel_rfl) (by kernel_rfl) (fun _ _ _ h => h) (Or.inr ⟨by rfl, rfl⟩) hHeld ?rst88
        try simp only [Act.put, List.getElem_toArray, List.getElem_cons_zero, List.getElem_cons_succ, List.setIfInBounds_toArray, List.set_cons_zero, List.set_cons_succ]
        refine AUS_take (by kernel_rfl) rfl (i := 31) (oi := _) (v := ?vw89) rfl (by kernel_rfl) (by kernel_rfl) (by kernel_rfl) (fun _ _ _ h => h) (Or.inl ⟨by rfl, ?hz89⟩) hHeld ?rst89
        case hz89 => (intro wS hSw; obtain ⟨_, f0, f1, f2, f3, f4, f5, f6, f7, f8, f9, f10, f11, f12, f13, _, _, _, _, _, _, _⟩ := HS.out wS hSw; clear hSw; go_simp; try with_reducible rfl)
        simp only [Act.put, List.getElem_toArray, List.getElem_cons_zero, List.getElem_cons_succ, List.setIfInBounds_toArray, List.set_cons_zero, List.set_cons_succ]
        refine AUS_take (by kernel_rfl) rfl (i := 32) (oi := _) (v := ?vw90) rfl (by kernel_rfl) (by kernel_rfl) (by kernel_rfl) (fun _ _ _ h => h) (Or.inl ⟨by rfl, ?hz90⟩) hHeld ?rst90
        case hz90 => (intro wS hSw; obtain ⟨_, f0, f1, f2, f3, f4, f5, f6, f7, f8, f9, f10, f11, f12, f13, _, _, _, _, _, _, _⟩ := HS.out wS hSw; clear hSw; go_simp; try with_reducible rfl)
        simp only [Act.put, List.getElem_toArray, List.getElem_cons_zero, List.getElem_cons_succ, List.setIfInBounds_toArray, List.set_cons_zero, List.set_cons_succ]
        refine AUS_take (by kernel_rfl) rfl (i := 33) (oi := _) (v := undef) rfl (by kernel_rfl) (by kernel_rfl) (by kernel_rfl) (fun _ _ _ h => h) (Or.inr ⟨by rfl, rfl⟩) hHeld ?rst91
        try simp only [Act.put, List.getElem_toArray, List.getElem_cons_zero, List.getElem_cons_succ, List.setIfInBounds_toArray, List.set_cons_zero, List.set_cons_succ]
        refine AUS_take (by kernel_rfl) rfl (i := 34) (oi := _) (v := undef) rfl (by kernel_rfl) (by kernel_rfl) (by kernel_rfl) (fun _ _ _ h => h) (Or.inr ⟨by rfl, rfl⟩) hHeld ?rst92
        try simp only [Act.put, List.getElem_toArray, List.getElem_cons_zero, List.getElem_cons_succ, List.setIfInBounds_toArray, List.set_cons_zero, List.set_cons_succ]
        refine AUS_take (by kernel_rfl) rfl (i := 35) (oi := _) (v := undef) rfl (by kernel_rfl) (by kernel_rfl) (by kernel_rfl) (fun _ _ _ h => h) (Or.inr ⟨by rfl, rfl⟩) hHeld ?rst93
        try simp only [Act.put, List.getElem_toArray, List.getElem_cons_zero, List.getElem_cons_succ, List.setIfInBounds_toArray, List.set_cons_zero, List.set_cons_succ]
        refine AUS_take (by kernel_rfl) rfl (i := 36) (oi := _) (v := undef) rfl (by kernel_rfl) (by kernel_rfl) (by kernel_rfl) (fun _ _ _ h => h) (Or.inr ⟨by rfl, rfl⟩) hHeld ?rst94
        try simp only [Act.put, List.getElem_toArray, List.getElem_cons_zero, List.getElem_cons_succ, List.setIfInBounds_toArray, List.set_cons_zero, List.set_cons_succ]
        refine AUS_take (by kernel_rfl) rfl (i := 37) (oi := _) (v := undef) rfl (by kernel_rfl) (by kernel_rfl) (by kernel_rfl) (fun _ _ _ h => h) (Or.inr ⟨by rfl, rfl⟩) hHeld ?rst95
        try simp only [Act.put, List.getElem_toArray, List.getElem_cons_zero, List.getElem_cons_succ, List.setIfInBounds_toArray, List.set_cons_zero, List.set_cons_succ]
        refine AUS_take (by kernel_rfl) rfl (i := 38) (oi := _) (v := ?vw96) rfl (by kernel_rfl) (by kernel_rfl) (by kernel_rfl) (fun _ _ _ h => h) (Or.inl ⟨by rfl, ?hz96⟩) hHeld ?rst96
        case hz96 => (intro wS hSw; obtain ⟨_, f0, f1, f2, f3, f4, f5, f6, f7, f8, f9, f10, f11, f12, f13, _, _, _, _, _, _, _⟩ := HS.out wS hSw; clear hSw; go_simp; try with_reducible rfl)
        simp only [Act.put, List.getElem_toArray, List.getElem_cons_zero, List.getElem_cons_succ, List.setIfInBounds_toArray, List.set_cons_zero, List.set_cons_succ]
        refine AUS_take (by kernel_rfl) rfl (i := 39) (oi := _) (v := ?vw97) rfl (by kernel_rfl) (by kernel_rfl) (by kernel_rfl) (fun _ _ _ h => h) (Or.inl ⟨by rfl, ?hz97⟩) hHeld ?rst97
        case hz97 => (intro wS hSw; obtain ⟨_, f0, f1, f2, f3, f4, f5, f6, f7, f8, f9, f10, f11, f12, f13, _, _, _, _, _, _, _⟩ := HS.out wS hSw; clear hSw; go_simp; try with_reducible rfl)
        simp only [Act.put, List.getElem_toArray, List.getElem_cons_zero, List.getElem_cons_succ, List.setIfInBounds_toArray, List.set_cons_zero, List.set_cons_succ]
        have HE := Lib.hid hHeld
        clear hHeld
        refine AU_done (by kernel_rfl) ?_ _
        simp only [OnlyN]
        have hHeld := HE.out
        clear HE
        have HE := Lib.hid (HS.out _ hHeld).1
        clear hHeld
        go_wp2_with fail
        go_ret
        exact ⟨by simp [en, E1.out, E3.out, E4.out], HE.out⟩
      · skip
        refine AUS_take (by kernel_rfl) rfl (i := 21) (oi := _) (v := ?vw98) rfl (by kernel_rfl) (by kernel_rfl) (by kernel_rfl) (fun _ _ _ h => h) (Or.inl ⟨by rfl, ?hz98⟩) hHeld ?rst98
        case hz98 => (intro wS hSw; obtain ⟨_, f0, f1, f2, f3, f4, f5, f6, f7, f8, f9, f10, f11, f12, f13, _, _, _, _, _, _, _⟩ := HS.out wS hSw; clear hSw; go_simp; try with_reducible rfl)
        simp only [Act.put, List.getElem_toArray, List.getElem_cons_zero, List.getElem_cons_succ, List.setIfInBounds_toArray, List.set_cons_zero, List.set_cons_succ]
        refine AUS_take (by kernel_rfl) rfl (i := 22) (oi := _) (v := ?vw99) rfl (by kernel_rfl) (by kernel_rfl) (by kernel_rfl) (fun _ _ _ h => h) (Or.inl ⟨by rfl, ?hz99⟩) hHeld ?rst99
        case hz99 => (intro wS hSw; obtain ⟨_, f0, f1, f2, f3, f4, f5, f6, f7, f8, f9, f10, f11, f12, f13, _, _, _, _, _, _, _⟩ := HS.out wS hSw; clear hSw; go_simp; try with_reducible rfl)
        simp only [Act.put, List.getElem_toArray, List.getElem_cons_zero, List.getElem_cons_succ, List.setIfInBounds_toArray, List.set_cons_zero, List.set_cons_succ]
        refine AUS_take (by kernel_rfl) rfl (i := 23) (oi := _) (v := ?vw100) rfl (by kernel_rfl) (by kernel_rfl) (by kernel_rfl) (fun _ _ _ h => h) (Or.inl ⟨by rfl, ?hz100⟩) hHeld ?rst100
        case hz100 => (intro wS hSw; obtain ⟨_, f0, f1, f2, f3, f4, f5, f6, f7, f8, f9, f10, f11, f12, f13, _, _, _, _, _, _, _⟩ := HS.out wS hSw; clear hSw; go_simp; try with_reducible rfl)
        simp only [Act.put, List.getElem_toArray, List.getElem_cons_zero, List.getElem_cons_succ, List.setIfInBounds_toArray, List.set_cons_zero, List.set_cons_succ]
        refine AUS_take (by kernel_rfl) rfl (i := 24) (oi := _) (v := ?vw101) rfl (by kernel_rfl) (by kernel_rfl) (by kernel_rfl) (fun _ _ _ h => h) (Or.inl ⟨by rfl, ?hz101⟩) hHeld ?rst101
        case hz101 => (intro wS hSw; obtain ⟨_, f0, f1, f2, f3, f4, f5, f6, f7, f8, f9, f10, f11, f12, f13, _, _, _, _, _, _, _⟩ := HS.out wS hSw; clear hSw; go_simp; try with_reducible rfl)
        simp only [Act.put, List.getElem_toArray, List.getElem_cons_zero, List.getElem_cons_succ, List.setIfInBounds_toArray, List.set_cons_zero, List.set_cons_succ]
        refine AUS_take (by kernel_rfl) rfl (i := 25) (oi := _) (v := ?vw102) rfl (by kernel_rfl) (by kernel_rfl) (by kernel_rfl) (fun _ _ _ h => h) (Or.inl ⟨by rfl, ?hz102⟩) hHeld ?rst102
        case hz102 => (intro wS hSw; obtain ⟨_, f0, f1, f2, f3, f4, f5, f6, f7, f8, f9, f10, f11, f12, f13, _, _, _, _, _, _, _⟩ := HS.out wS hSw; clear hSw; go_simp; try with_reducible rfl)
        simp only [Act.put, List.getElem_toArray, List.getElem_cons_zero, List.getElem_cons_succ, List.setIfInBounds_toArray, List.set_cons_zero, List.set_cons_succ]
        refine AUS_take (by kernel_rfl) rfl (i := 26) (oi := _) (v := ?vw103) rfl (by kernel_rfl) (by kernel_rfl) (by kernel_rfl) (fun _ _ _ h => h) (Or.inl ⟨by rfl, ?hz103⟩) hHeld ?rst103
        case hz103 => (intro wS hSw; obtain ⟨_, f0, f1, f2, f3, f4, f5, f6, f7, f8, f9, f10, f11, f12, f13, _, _, _, _, _, _, _⟩ := HS.out wS hSw; clear hSw; go_simp; try with_reducible rfl)
        simp only [Act.put, List.getElem_toArray, List.getElem_cons_zero, List.getElem_cons_succ, List.setIfInBounds_toArray, List.set_cons_zero, List.set_cons_succ]
        refine AUS_take (by kernel_rfl) rfl (i := 27) (oi := _) (v := ?vw104) rfl (by kernel_rfl) (by kernel_rfl) (by kernel_rfl) (fun _ _ _ h => h) (Or.inl ⟨by rfl, ?hz104⟩) hHeld ?rst104
        case hz104 => (intro wS hSw; obtain ⟨_, f0, f1, f2, f3, f4, f5, f6, f7, f8, f9, f10, f11, f12, f13, _, _, _, _, _, _, _⟩ := HS.out wS hSw; clear hSw; go_simp; try with_reducible rfl)
        simp only [Act.put, List.getElem_toArray, List.getElem_cons_zero, List.getElem_cons_succ, List.setIfInBounds_toArray, List.set_cons_zero, List.set_cons_succ]
        refine AUS_take (by kernel_rfl) rfl (i := 28) (oi := _) (v := ?vw105) rfl (by kernel_rfl) (by kernel_rfl) (by kernel_rfl) (fun _ _ _ h => h) (Or.inl ⟨by rfl, ?hz105⟩) hHeld ?rst105
        case hz105 => (intro wS hSw; obtain ⟨_, f0, f1, f2, f3, f4, f5, f6, f7, f8, f9, f10, f11, f12, f13, _, _, _, _, _, _, _⟩ := HS.out wS hSw; clear hSw; go_simp; try with_reducible rfl)
        simp only [Act.put, List.getElem_toArray, List.getElem_cons_zero, List.getElem_cons_succ, List.setIfInBounds_toArray, List.set_cons_zero, List.set_cons_succ]
        have HH := Lib.hid hHeld
        obtain ⟨hbw, _, _, _, _, _, _, _, _, _, _, _, _, _, _, g0, g1, g2, g3, g4, g5, g6⟩ := HS.out _ hHeld
        refine AU_one (i := 29) (o := _) (by kernel_rfl) rfl (fun K hK => ?_)
        have CC := Lib.hid (rmerge_m g1 g4 (by omega) (by omega))
        clear hHeld hbw g0 g1 g2 g3 g4 g5 g6
        go_simp
        refine CC.out.mono ?_
        clear CC
        rintro e wz5 ⟨a8, n8, c8, rfl, l8, hb⟩
        have hHeld := HH.out.trans (hb.mono HH.out.size)
        replace l7 := l7.below hb
        clear HH hb
        refine hK.out _ _ (fun _ => hHeld) ?_
        clear hK K
        try simp only [Act.put, List.getElem_toArray, List.getElem_cons_zero, List.getElem_cons_succ, List.setIfInBounds_toArray, List.set_cons_zero, List.set_cons_succ]
        have HH := Lib.hid hHeld
        obtain ⟨hbw, _, _, _, _, _, _, _, _, _, _, _, _, _, _, g0, g1, g2, g3, g4, g5, g6⟩ := HS.out _ hHeld
        refine AU_one (i := 30) (o := _) (by kernel_rfl) rfl (fun K hK => ?_)
        obtain ⟨b6, E6⟩ : ∃ b, Hid (lq D6 P6 (max D1 D4) (Lab.jn D1 P1 D4 P4) = b) := ⟨_, Lib.hid rfl⟩
        have CC := rleq_m g6 l8.la (by omega) (by omega)
        rw [E6.out] at CC
        have CC := Lib.hid CC
        clear hHeld hbw g0 g1 g2 g3 g4 g5 g6
        go_simp
        refine CC.out.mono ?_
        clear CC
        rintro e wz6 ⟨rfl, hb⟩
        have hHeld := HH.out.trans (hb.mono HH.out.size)
        replace l7 := l7.below hb
        replace l8 := l8.below hb
        clear HH hb
        refine hK.out _ _ (fun _ => hHeld) ?_
        clear hK K
        try simp only [Act.put, List.getElem_toArray, List.getElem_cons_zero, List.getElem_cons_succ, List.setIfInBounds_toArray, List.set_cons_zero, List.set_cons_succ]
        cases b6
        · skip
          refine AUS_take (by kernel_rfl) rfl (i := 31) (oi := _) (v := ?vw106) rfl (by kernel_rfl) (by kernel_rfl) (by kernel_rfl) (fun _ _ _ h => h) (Or.inl ⟨by rfl, ?hz106⟩) hHeld ?rst106
          case hz106 => (intro wS hSw; obtain ⟨_, f0, f1, f2, f3, f4, f5, f6, f7, f8, f9, f10, f11, f12, f13, _, _, _, _, _, _, _⟩ := HS.out wS hSw; clear hSw; go_simp; try with_reducible rfl)
          simp only [Act.put, List.getElem_toArray, List.getElem_cons_zero, List.getElem_cons_succ, List.setIfInBounds_toArray, List.set_cons_zero, List.set_cons_succ]
          refine AUS_take (by kernel_rfl) rfl (i := 32) (oi := _) (v := ?vw107) rfl (by kernel_rfl) (by kernel_rfl) (by kernel_rfl) (fun _ _ _ h => h) (Or.inl ⟨by rfl, ?hz107⟩) hHeld ?rst107
          case hz107 => (intro wS hSw; obtain ⟨_, f0, f1, f2, f3, f4, f5, f6, f7, f8, f9, f10, f11, f12, f13, _, _, _, _, _, _, _⟩ := HS.out wS hSw; clear hSw; go_simp; try with_reducible rfl)
          simp only [Act.put, List.getElem_toArray, List.getElem_cons_zero, List.getElem_cons_succ, List.setIfInBounds_toArray, List.set_cons_zero, List.set_cons_succ]
          refine AUS_take (by kernel_rfl) rfl (i := 33) (oi := _) (v := undef) rfl (by kernel_rfl) (by kernel_rfl) (by kernel_rfl) (fun _ _ _ h => h) (Or.inr ⟨by rfl, rfl⟩) hHeld ?rst108
          try simp only [Act.put, List.getElem_toArray, List.getElem_cons_zero, List.getElem_cons_succ, List.setIfInBounds_toArray, List.set_cons_zero, List.set_cons_succ]
          refine AUS_take (by kernel_rfl) rfl (i := 34) (oi := _) (v := undef) rfl (by kernel_rfl) (by kernel_rfl) (by kernel_rfl) (fun _ _ _ h => h) (Or.inr ⟨by rfl, rfl⟩) hHeld ?rst109
          try simp only [Act.put, List.getElem_toArray, List.getElem_cons_zero, List.getElem_cons_succ, List.setIfInBounds_toArray, List.set_cons_zero, List.set_cons_succ]
          refine AUS_take (by kernel_rfl) rfl (i := 35) (oi := _) (v := undef) rfl (by kernel_rfl) (by kernel_rfl) (by kernel_rfl) (fun _ _ _ h => h) (Or.inr ⟨by rfl, rfl⟩) hHeld ?rst110
          try simp only [Act.put, List.getElem_toArray, List.getElem_cons_zero, List.getElem_cons_succ, List.setIfInBounds_toArray, List.set_cons_zero, List.set_cons_succ]
          refine AUS_take (by kernel_rfl) rfl (i := 36) (oi := _) (v := undef) rfl (by kernel_rfl) (by kernel_rfl) (by kernel_rfl) (fun _ _ _ h => h) (Or.inr ⟨by rfl, rfl⟩) hHeld ?rst111
          try simp only [Act.put, List.getElem_toArray, List.getElem_cons_zero, List.getElem_cons_succ, List.setIfInBounds_toArray, List.set_cons_zero, List.set_cons_succ]
          refine AUS_take (by kernel_rfl) rfl (i := 37) (oi := _) (v := undef) rfl (by kernel_rfl) (by kernel_rfl) (by kernel_rfl) (fun _ _ _ h => h) (Or.inr ⟨by rfl, rfl⟩) hHeld ?rst112
          try simp only [Act.put, List.getElem_toArray, List.getElem_cons_zero, List.getElem_cons_succ, List.setIfInBounds_toArray, List.set_cons_zero, List.set_cons_succ]
          refine AUS_take (by kernel_rfl) rfl (i := 38) (oi := _) (v := ?vw113) rfl (by kernel_rfl) (by kernel_rfl) (by kernel_rfl) (fun _ _ _ h => h) (Or.inl ⟨by rfl, ?hz113⟩) hHeld ?rst113
          case hz113 => (intro wS hSw; obtain ⟨_, f0, f1, f2, f3, f4, f5, f6, f7, f8, f9, f10, f11, f12, f13, _, _, _, _, _, _, _⟩ := HS.out wS hSw; clear hSw; go_simp; try with_reducible rfl)
          simp only [Act.put, List.getElem_toArray, List.getElem_cons_zero, List.getElem_cons_succ, List.setIfInBounds_toArray, List.set_cons_zero, List.set_cons_succ]
          refine AUS_take (by kernel_rfl) rfl (i := 39) (oi := _) (v := ?vw114) rfl (by kernel_rfl) (by kernel_rfl) (by kernel_rfl) (fun _ _ _ h => h) (Or.inl ⟨by rfl, ?hz114⟩) hHeld ?rst114
          case hz114 => (intro wS hSw; obtain ⟨_, f0, f1, f2, f3, f4, f5, f6, f7, f8, f9, f10, f11, f12, f13, _, _, _, _, _, _, _⟩ := HS.out wS hSw; clear hSw; go_simp; try with_reducible rfl)
          simp only [Act.put, List.getElem_toArray, List.getElem_cons_zero, List.getElem_cons_succ, List.setIfInBounds_toArray, List.set_cons_zero, List.set_cons_succ]
          have HE := Lib.hid hHeld
          clear hHeld
          refine AU_done (by kernel_rfl) ?_ _
          simp only [OnlyN]
          have hHeld := HE.out
          clear HE
          have HE := Lib.hid (HS.out _ hHeld).1
          clear hHeld
          go_wp2_with fail
          go_ret
          exact ⟨by simp [en, E1.out, E3.out, E4.out, E6.out], HE.out⟩
        · skip
          refine AUS_take (by kernel_rfl) rfl (i := 31) (oi := _) (v := ?vw115) rfl (by kernel_rfl) (by kernel_rfl) (by kernel_rfl) (fun _ _ _ h => h) (Or.inl ⟨by rfl, ?hz115⟩) hHeld ?rst115
          case hz115 => (intro wS hSw; obtain ⟨_, f0, f1, f2, f3, f4, f5, f6, f7, f8, f9, f10, f11, f12, f13, _, _, _, _, _, _, _⟩ := HS.out wS hSw; clear hSw; go_simp; try with_reducible rfl)
          simp only [Act.put, List.getElem_toArray, List.getElem_cons_zero, List.getElem_cons_succ, List.setIfInBounds_toArray, List.set_cons_zero, List.set_cons_succ]
          refine AUS_take (by kernel_rfl) rfl (i := 32) (oi := _) (v := ?vw116) rfl (by kernel_rfl) (by kernel_rfl) (by kernel_rfl) (fun _ _ _ h => h) (Or.inl ⟨by rfl, ?hz116⟩) hHeld ?rst116
          case hz116 => (intro wS hSw; obtain ⟨_, f0, f1, f2, f3, f4, f5, f6, f7, f8, f9, f10, f11, f12, f13, _, _, _, _, _, _, _⟩ := HS.out wS hSw; clear hSw; go_simp; try with_reducible rfl)
          simp only [Act.put, List.getElem_toArray, List.getElem_cons_zero, List.getElem_cons_succ, List.setIfInBounds_toArray, List.set_cons_zero, List.set_cons_succ]
          refine AUS_take (by kernel_rfl) rfl (i := 33) (oi := _) (v := ?vw117) rfl (by kernel_rfl) (by kernel_rfl) (by kernel_rfl) (fun _ _ _ h => h) (Or.inl ⟨by rfl, ?hz117⟩) hHeld ?rst117
          case hz117 => (intro wS hSw; obtain ⟨_, f0, f1, f2, f3, f4, f5, f6, f7, f8, f9, f10, f11, f12, f13, _, _, _, _, _, _, _⟩ := HS.out wS hSw; clear hSw; go_simp; try with_reducible rfl)
          simp only [Act.put, List.getElem_toArray, List.getElem_cons_zero, List.getElem_cons_succ, List.setIfInBounds_toArray, List.set_cons_zero, List.set_cons_succ]
          refine AUS_take (by kernel_rfl) rfl (i := 34) (oi := _) (v := ?vw118) rfl (by kernel_rfl) (by kernel_rfl) (by kernel_rfl) (fun _ _ _ h => h) (Or.inl ⟨by rfl, ?hz118⟩) hHeld ?rst118
          case hz118 => (intro wS hSw; obtain ⟨_, f0, f1, f2, f3, f4, f5, f6, f7, f8, f9, f10, f11, f12, f13, _, _, _, _, _, _, _⟩ := HS.out wS hSw; clear hSw; go_simp; try with_reducible rfl)
          simp only [Act.put, List.getElem_toArray, List.getElem_cons_zero, List.getElem_cons_succ, List.setIfInBounds_toArray, List.set_cons_zero, List.set_cons_succ]
          refine AUS_take (by kernel_rfl) rfl (i := 35) (oi := _) (v := ?vw119) rfl (by kernel_rfl) (by kernel_rfl) (by kernel_rfl) (fun _ _ _ h => h) (Or.inl ⟨by rfl, ?hz119⟩) hHeld ?rst119
          case hz119 => (intro wS hSw; obtain ⟨_, f0, f1, f2, f3, f4, f5, f6, f7, f8, f9, f10, f11, f12, f13, _, _, _, _, _, _, _⟩ := HS.out wS hSw; clear hSw; go_simp; try with_reducible rfl)
          simp only [Act.put, List.getElem_toArray, List.getElem_cons_zero, List.getElem_cons_succ, List.setIfInBounds_toArray, List.set_cons_zero, List.set_cons_succ]
          have HH := Lib.hid hHeld
          obtain ⟨hbw, _, _, _, _, _, _, _, _, _, _, _, _, _, _, g0, g1, g2, g3, g4, g5, g6⟩ := HS.out _ hHeld
          refine AU_one (i := 36) (o := _) (by kernel_rfl) rfl (fun K hK => ?_)
          have CC := Lib.hid (rrest_m g5 (by omega))
          clear hHeld hbw g0 g1 g2 g3 g4 g5 g6
          go_simp
          refine CC.out.mono ?_
          clear CC
          rintro e wz7 ⟨a9, n9, c9, rfl, l9, hb⟩
          have hHeld := HH.out.trans (hb.mono HH.out.size)
          replace l7 := l7.below hb
          replace l8 := l8.below hb
          clear HH hb
          refine hK.out _ _ (fun _ => hHeld) ?_
          clear hK K
          try simp only [Act.put, List.getElem_toArray, List.getElem_cons_zero, List.getElem_cons_succ, List.setIfInBounds_toArray, List.set_cons_zero, List.set_cons_succ]
          have HH := Lib.hid hHeld
          obtain ⟨hbw, _, _, _, _, _, _, _, _, _, _, _, _, _, _, g0, g1, g2, g3, g4, g5, g6⟩ := HS.out _ hHeld
          refine AU_one (i := 37) (o := _) (by kernel_rfl) rfl (fun K hK => ?_)
          obtain ⟨b8, E8⟩ : ∃ b, Hid (lq D2 P2 (Lab.turn 0 2 D5) (Lab.tn 0 2 D5 P5) = b) := ⟨_, Lib.hid rfl⟩
          have CC := rleq_m g2 l9.la (by omega) (by omega)
          rw [E8.out] at CC
          have CC := Lib.hid CC
          clear hHeld hbw g0 g1 g2 g3 g4 g5 g6
          go_simp
          refine CC.out.mono ?_
          clear CC
          rintro e wz8 ⟨rfl, hb⟩
          have hHeld := HH.out.trans (hb.mono HH.out.size)
          replace l7 := l7.below hb
          replace l8 := l8.below hb
          replace l9 := l9.below hb
          clear HH hb
          refine hK.out _ _ (fun _ => hHeld) ?_
          clear hK K
          try simp only [Act.put, List.getElem_toArray, List.getElem_cons_zero, List.getElem_cons_succ, List.setIfInBounds_toArray, List.set_cons_zero, List.set_cons_succ]
          refine AUS_take (by kernel_rfl) rfl (i := 38) (oi := _) (v := ?vw120) rfl (by kernel_rfl) (by kernel_rfl) (by kernel_rfl) (fun _ _ _ h => h) (Or.inl ⟨by rfl, ?hz120⟩) hHeld ?rst120
          case hz120 => (intro wS hSw; obtain ⟨_, f0, f1, f2, f3, f4, f5, f6, f7, f8, f9, f10, f11, f12, f13, _, _, _, _, _, _, _⟩ := HS.out wS hSw; clear hSw; go_simp; try with_reducible rfl)
          simp only [Act.put, List.getElem_toArray, List.getElem_cons_zero, List.getElem_cons_succ, List.setIfInBounds_toArray, List.set_cons_zero, List.set_cons_succ]
          refine AUS_take (by kernel_rfl) rfl (i := 39) (oi := _) (v := ?vw121) rfl (by kernel_rfl) (by kernel_rfl) (by kernel_rfl) (fun _ _ _ h => h) (Or.inl ⟨by rfl, ?hz121⟩) hHeld ?rst121
          case hz121 => (intro wS hSw; obtain ⟨_, f0, f1, f2, f3, f4, f5, f6, f7, f8, f9, f10, f11, f12, f13, _, _, _, _, _, _, _⟩ := HS.out wS hSw; clear hSw; go_simp; try with_reducible rfl)
          simp only [Act.put, List.getElem_toArray, List.getElem_cons_zero, List.getElem_cons_succ, List.setIfInBounds_toArray, List.set_cons_zero, List.set_cons_succ]
          have HE := Lib.hid hHeld
          clear hHeld
          refine AU_done (by kernel_rfl) ?_ _
          simp only [OnlyN]
          have hHeld := HE.out
          clear HE
          have HE := Lib.hid (HS.out _ hHeld).1
          clear hHeld
          go_wp2_with fail
          go_ret
          exact ⟨by simp [en, E1.out, E3.out, E4.out, E6.out, E8.out], HE.out⟩
end Go.Proofs.Ytmbdglhihakkjaa
