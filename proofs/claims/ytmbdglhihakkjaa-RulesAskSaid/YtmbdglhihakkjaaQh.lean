/- Clear. -/
import Derived.Test.YtmbdglhihakkjaaQe
import Derived.Test.YtmbdglhihakkjaaQg
set_option linter.unusedVariables false
set_option linter.unusedSimpArgs false
namespace Go.Proofs.Ytmbdglhihakkjaa
open Go.RowKit
set_option linter.unusedVariables false
set_option linter.unusedSimpArgs false
set_option maxHeartbeats 2000000 in
set_option maxRecDepth 100000 in
theorem clear_m {w : World} {D0 : Int} {a0 : Option Addr} {n0 c0 : Nat} {P0 : LP} {D1 : Int} {a1 : Option Addr} {n1 c1 : Nat} {P1 : LP} {D2 : Int} {a2 : Option Addr} {n2 c2 : Nat} {P2 : LP} (h0 : LA 100 w D0 a0 n0 c0 P0) (h1 : LA 100 w D1 a1 n1 c1 P1) (h2 : LA 100 w D2 a2 n2 c2 P2)  : Calls Try.prog 23 #[.agg #[.int .i64 D0, .slice a0 n0 c0, .int .i64 D1, .slice a1 n1 c1], .agg #[.int .i64 D2, .slice a2 n2 c2]] w (BB w (cl D0 P0 D1 P1 D2 P2)) := by
  obtain ⟨W0, e0⟩ : ∃ W0, W0 = ((w.alloc (Obj.cells #[.int .i64 D0, .slice a0 n0 c0, .int .i64 D1, .slice a1 n1 c1] 32)).alloc (Obj.cells #[.int .i64 D2, .slice a2 n2 c2] 29)) := ⟨_, rfl⟩
  have hB : Below w.heap.size w W0 := by rw [e0]; exact (((Below.refl w.heap.size w).alloc (by omega) _).alloc (by simp <;> omega) _)
  have hk0 : W0.heap[w.heap.size]? = some (Obj.cells #[.int .i64 D0, .slice a0 n0 c0, .int .i64 D1, .slice a1 n1 c1] 32) := by
    rw [e0]
    rw [Below.heap_alloc _ _ _ (by simp <;> omega)]
    have := heap_alloc_new w (Obj.cells #[.int .i64 D0, .slice a0 n0 c0, .int .i64 D1, .slice a1 n1 c1] 32); simpa using this
  have hk1 : W0.heap[w.heap.size + 1]? = some (Obj.cells #[.int .i64 D2, .slice a2 n2 c2] 29) := by
    rw [e0]
    have := heap_alloc_new (w.alloc (Obj.cells #[.int .i64 D0, .slice a0 n0 c0, .int .i64 D1, .slice a1 n1 c1] 32)) (Obj.cells #[.int .i64 D2, .slice a2 n2 c2] 29); simpa using this
  have HS := Lib.hid (fun (wx : World) (hx : Below W0.heap.size W0 wx) => (by
      have hw : Below w.heap.size w wx := hB.trans (hx.mono hB.size)
      have r0 := (hx.block _ (Array.getElem?_eq_some_iff.1 hk0).1).trans hk0
      have r1 := (hx.block _ (Array.getElem?_eq_some_iff.1 hk1).1).trans hk1
      exact ⟨hw, by rw [cell_of_row _ _ 0 _ 32 (0, 0) r0]; rfl, by rw [cell_of_row _ _ 1 _ 32 (0, 0) r0]; rfl, by rw [cell_of_row _ _ 2 _ 32 (0, 0) r0]; rfl, by rw [cell_of_row _ _ 3 _ 32 (0, 0) r0]; rfl, by rw [cell_of_row _ _ 0 _ 29 (0, 0) r1]; rfl, by rw [cell_of_row _ _ 1 _ 29 (0, 0) r1]; rfl, h0.below hw, h1.below hw, h2.below hw⟩ : Below w.heap.size w wx ∧ wx.cell? ⟨w.heap.size, 0, none⟩ = some (.int .i64 D0) ∧ wx.cell? ⟨w.heap.size, 1, none⟩ = some (.slice a0 n0 c0) ∧ wx.cell? ⟨w.heap.size, 2, none⟩ = some (.int .i64 D1) ∧ wx.cell? ⟨w.heap.size, 3, none⟩ = some (.slice a1 n1 c1) ∧ wx.cell? ⟨w.heap.size + 1, 0, none⟩ = some (.int .i64 D2) ∧ wx.cell? ⟨w.heap.size + 1, 1, none⟩ = some (.slice a2 n2 c2) ∧ LA 100 wx D0 a0 n0 c0 P0 ∧ LA 100 wx D1 a1 n1 c1 P1 ∧ LA 100 wx D2 a2 n2 c2 P2))
  clear h0 h1 h2 hB hk0 hk1
  go_enter Try.func23, Try.ntmps23
  go_upto_region 1 with fail
  rw [← e0]
  clear e0
  have hHeld := Below.refl W0.heap.size W0
  refine region_AU (Z := fun j => false) (S := fun w' => Below W0.heap.size W0 w') (by kernel_rfl) (hHeld.drew) (fun hHeld => ?_)
  refine AUS_take (by kernel_rfl) rfl (i := 0) (oi := _) (v := ?vw1) rfl (by kernel_rfl) (by kernel_rfl) (by kernel_rfl) (fun _ _ _ h => h) (Or.inl ⟨by rfl, ?hz1⟩) hHeld ?rst1
  case hz1 => (intro wS hSw; obtain ⟨_, f0, f1, f2, f3, f4, f5, _, _, _⟩ := HS.out wS hSw; clear hSw; go_simp; try with_reducible rfl)
  simp only [Act.put, List.getElem_toArray, List.getElem_cons_zero, List.getElem_cons_succ, List.setIfInBounds_toArray, List.set_cons_zero, List.set_cons_succ]
  have HH := Lib.hid hHeld
  obtain ⟨hbw, _, _, _, _, _, _, g0, g1, g2⟩ := HS.out _ hHeld
  refine AU_one (i := 1) (o := _) (by kernel_rfl) rfl (fun K hK => ?_)
  obtain ⟨b1, E1⟩ : ∃ b, Hid (Lab.right D2 P2 = b) := ⟨_, Lib.hid rfl⟩
  have CC := right_m g2
  rw [E1.out] at CC
  have CC := Lib.hid CC
  clear hHeld hbw g0 g1 g2
  go_simp
  refine CC.out.mono ?_
  clear CC
  rintro e wz1 ⟨rfl, hb⟩
  have hHeld := HH.out.trans (hb.mono HH.out.size)
  clear HH hb
  refine hK.out _ _ (fun _ => hHeld) ?_
  clear hK K
  try simp only [Act.put, List.getElem_toArray, List.getElem_cons_zero, List.getElem_cons_succ, List.setIfInBounds_toArray, List.set_cons_zero, List.set_cons_succ]
  cases b1
  · skip
    refine AUS_take (by kernel_rfl) rfl (i := 2) (oi := _) (v := ?vw2) rfl (by kernel_rfl) (by kernel_rfl) (by kernel_rfl) (fun _ _ _ h => h) (Or.inl ⟨by rfl, ?hz2⟩) hHeld ?rst2
    case hz2 => (intro wS hSw; obtain ⟨_, f0, f1, f2, f3, f4, f5, _, _, _⟩ := HS.out wS hSw; clear hSw; go_simp; try with_reducible rfl)
    simp only [Act.put, List.getElem_toArray, List.getElem_cons_zero, List.getElem_cons_succ, List.setIfInBounds_toArray, List.set_cons_zero, List.set_cons_succ]
    refine AUS_take (by kernel_rfl) rfl (i := 3) (oi := _) (v := undef) rfl (by kernel_rfl) (by kernel_rfl) (by kernel_rfl) (fun _ _ _ h => h) (Or.inr ⟨by rfl, rfl⟩) hHeld ?rst3
    try simp only [Act.put, List.getElem_toArray, List.getElem_cons_zero, List.getElem_cons_succ, List.setIfInBounds_toArray, List.set_cons_zero, List.set_cons_succ]
    refine AUS_take (by kernel_rfl) rfl (i := 4) (oi := _) (v := undef) rfl (by kernel_rfl) (by kernel_rfl) (by kernel_rfl) (fun _ _ _ h => h) (Or.inr ⟨by rfl, rfl⟩) hHeld ?rst4
    try simp only [Act.put, List.getElem_toArray, List.getElem_cons_zero, List.getElem_cons_succ, List.setIfInBounds_toArray, List.set_cons_zero, List.set_cons_succ]
    refine AUS_take (by kernel_rfl) rfl (i := 5) (oi := _) (v := undef) rfl (by kernel_rfl) (by kernel_rfl) (by kernel_rfl) (fun _ _ _ h => h) (Or.inr ⟨by rfl, rfl⟩) hHeld ?rst5
    try simp only [Act.put, List.getElem_toArray, List.getElem_cons_zero, List.getElem_cons_succ, List.setIfInBounds_toArray, List.set_cons_zero, List.set_cons_succ]
    refine AUS_take (by kernel_rfl) rfl (i := 6) (oi := _) (v := undef) rfl (by kernel_rfl) (by kernel_rfl) (by kernel_rfl) (fun _ _ _ h => h) (Or.inr ⟨by rfl, rfl⟩) hHeld ?rst6
    try simp only [Act.put, List.getElem_toArray, List.getElem_cons_zero, List.getElem_cons_succ, List.setIfInBounds_toArray, List.set_cons_zero, List.set_cons_succ]
    refine AUS_take (by kernel_rfl) rfl (i := 7) (oi := _) (v := undef) rfl (by kernel_rfl) (by kernel_rfl) (by kernel_rfl) (fun _ _ _ h => h) (Or.inr ⟨by rfl, rfl⟩) hHeld ?rst7
    try simp only [Act.put, List.getElem_toArray, List.getElem_cons_zero, List.getElem_cons_succ, List.setIfInBounds_toArray, List.set_cons_zero, List.set_cons_succ]
    refine AUS_take (by kernel_rfl) rfl (i := 8) (oi := _) (v := undef) rfl (by kernel_rfl) (by kernel_rfl) (by kernel_rfl) (fun _ _ _ h => h) (Or.inr ⟨by rfl, rfl⟩) hHeld ?rst8
    try simp only [Act.put, List.getElem_toArray, List.getElem_cons_zero, List.getElem_cons_succ, List.setIfInBounds_toArray, List.set_cons_zero, List.set_cons_succ]
    refine AUS_take (by kernel_rfl) rfl (i := 9) (oi := _) (v := undef) rfl (by kernel_rfl) (by kernel_rfl) (by kernel_rfl) (fun _ _ _ h => h) (Or.inr ⟨by rfl, rfl⟩) hHeld ?rst9
    try simp only [Act.put, List.getElem_toArray, List.getElem_cons_zero, List.getElem_cons_succ, List.setIfInBounds_toArray, List.set_cons_zero, List.set_cons_succ]
    refine AUS_take (by kernel_rfl) rfl (i := 10) (oi := _) (v := undef) rfl (by kernel_rfl) (by kernel_rfl) (by kernel_rfl) (fun _ _ _ h => h) (Or.inr ⟨by rfl, rfl⟩) hHeld ?rst10
    try simp only [Act.put, List.getElem_toArray, List.getElem_cons_zero, List.getElem_cons_succ, List.setIfInBounds_toArray, List.set_cons_zero, List.set_cons_succ]
    refine AUS_take (by kernel_rfl) rfl (i := 11) (oi := _) (v := undef) rfl (by kernel_rfl) (by kernel_rfl) (by kernel_rfl) (fun _ _ _ h => h) (Or.inr ⟨by rfl, rfl⟩) hHeld ?rst11
    try simp only [Act.put, List.getElem_toArray, List.getElem_cons_zero, List.getElem_cons_succ, List.setIfInBounds_toArray, List.set_cons_zero, List.set_cons_succ]
    refine AUS_take (by kernel_rfl) rfl (i := 12) (oi := _) (v := undef) rfl (by kernel_rfl) (by kernel_rfl) (by kernel_rfl) (fun _ _ _ h => h) (Or.inr ⟨by rfl, rfl⟩) hHeld ?rst12
    try simp only [Act.put, List.getElem_toArray, List.getElem_cons_zero, List.getElem_cons_succ, List.setIfInBounds_toArray, List.set_cons_zero, List.set_cons_succ]
    refine AUS_take (by kernel_rfl) rfl (i := 13) (oi := _) (v := undef) rfl (by kernel_rfl) (by kernel_rfl) (by kernel_rfl) (fun _ _ _ h => h) (Or.inr ⟨by rfl, rfl⟩) hHeld ?rst13
    try simp only [Act.put, List.getElem_toArray, List.getElem_cons_zero, List.getElem_cons_succ, List.setIfInBounds_toArray, List.set_cons_zero, List.set_cons_succ]
    refine AUS_take (by kernel_rfl) rfl (i := 14) (oi := _) (v := ?vw14) rfl (by kernel_rfl) (by kernel_rfl) (by kernel_rfl) (fun _ _ _ h => h) (Or.inl ⟨by rfl, ?hz14⟩) hHeld ?rst14
    case hz14 => (intro wS hSw; obtain ⟨_, f0, f1, f2, f3, f4, f5, _, _, _⟩ := HS.out wS hSw; clear hSw; go_simp; try with_reducible rfl)
    simp only [Act.put, List.getElem_toArray, List.getElem_cons_zero, List.getElem_cons_succ, List.setIfInBounds_toArray, List.set_cons_zero, List.set_cons_succ]
    refine AUS_take (by kernel_rfl) rfl (i := 15) (oi := _) (v := ?vw15) rfl (by kernel_rfl) (by kernel_rfl) (by kernel_rfl) (fun _ _ _ h => h) (Or.inl ⟨by rfl, ?hz15⟩) hHeld ?rst15
    case hz15 => (intro wS hSw; obtain ⟨_, f0, f1, f2, f3, f4, f5, _, _, _⟩ := HS.out wS hSw; clear hSw; go_simp; try with_reducible rfl)
    simp only [Act.put, List.getElem_toArray, List.getElem_cons_zero, List.getElem_cons_succ, List.setIfInBounds_toArray, List.set_cons_zero, List.set_cons_succ]
    have HE := Lib.hid hHeld
    clear hHeld
    refine AU_done (by kernel_rfl) ?_ _
    simp only [OnlyN]
    have hHeld := HE.out
    clear HE
    have HE := Lib.hid (HS.out _ hHeld).1
    clear hHeld
    go_wp2_with fail
    go_ret
    exact ⟨by simp [cl, E1.out], HE.out⟩
  · skip
    refine AUS_take (by kernel_rfl) rfl (i := 2) (oi := _) (v := ?vw16) rfl (by kernel_rfl) (by kernel_rfl) (by kernel_rfl) (fun _ _ _ h => h) (Or.inl ⟨by rfl, ?hz16⟩) hHeld ?rst16
    case hz16 => (intro wS hSw; obtain ⟨_, f0, f1, f2, f3, f4, f5, _, _, _⟩ := HS.out wS hSw; clear hSw; go_simp; try with_reducible rfl)
    simp only [Act.put, List.getElem_toArray, List.getElem_cons_zero, List.getElem_cons_succ, List.setIfInBounds_toArray, List.set_cons_zero, List.set_cons_succ]
    refine AUS_take (by kernel_rfl) rfl (i := 3) (oi := _) (v := ?vw17) rfl (by kernel_rfl) (by kernel_rfl) (by kernel_rfl) (fun _ _ _ h => h) (Or.inl ⟨by rfl, ?hz17⟩) hHeld ?rst17
    case hz17 => (intro wS hSw; obtain ⟨_, f0, f1, f2, f3, f4, f5, _, _, _⟩ := HS.out wS hSw; clear hSw; go_simp; try with_reducible rfl)
    simp only [Act.put, List.getElem_toArray, List.getElem_cons_zero, List.getElem_cons_succ, List.setIfInBounds_toArray, List.set_cons_zero, List.set_cons_succ]
    refine AUS_take (by kernel_rfl) rfl (i := 4) (oi := _) (v := ?vw18) rfl (by kernel_rfl) (by kernel_rfl) (by kernel_rfl) (fun _ _ _ h => h) (Or.inl ⟨by rfl, ?hz18⟩) hHeld ?rst18
    case hz18 => (intro wS hSw; obtain ⟨_, f0, f1, f2, f3, f4, f5, _, _, _⟩ := HS.out wS hSw; clear hSw; go_simp; try with_reducible rfl)
    simp only [Act.put, List.getElem_toArray, List.getElem_cons_zero, List.getElem_cons_succ, List.setIfInBounds_toArray, List.set_cons_zero, List.set_cons_succ]
    refine AUS_take (by kernel_rfl) rfl (i := 5) (oi := _) (v := ?vw19) rfl (by kernel_rfl) (by kernel_rfl) (by kernel_rfl) (fun _ _ _ h => h) (Or.inl ⟨by rfl, ?hz19⟩) hHeld ?rst19
    case hz19 => (intro wS hSw; obtain ⟨_, f0, f1, f2, f3, f4, f5, _, _, _⟩ := HS.out wS hSw; clear hSw; go_simp; try with_reducible rfl)
    simp only [Act.put, List.getElem_toArray, List.getElem_cons_zero, List.getElem_cons_succ, List.setIfInBounds_toArray, List.set_cons_zero, List.set_cons_succ]
    refine AUS_take (by kernel_rfl) rfl (i := 6) (oi := _) (v := ?vw20) rfl (by kernel_rfl) (by kernel_rfl) (by kernel_rfl) (fun _ _ _ h => h) (Or.inl ⟨by rfl, ?hz20⟩) hHeld ?rst20
    case hz20 => (intro wS hSw; obtain ⟨_, f0, f1, f2, f3, f4, f5, _, _, _⟩ := HS.out wS hSw; clear hSw; go_simp; try with_reducible rfl)
    simp only [Act.put, List.getElem_toArray, List.getElem_cons_zero, List.getElem_cons_succ, List.setIfInBounds_toArray, List.set_cons_zero, List.set_cons_succ]
    refine AUS_take (by kernel_rfl) rfl (i := 7) (oi := _) (v := ?vw21) rfl (by kernel_rfl) (by kernel_rfl) (by kernel_rfl) (fun _ _ _ h => h) (Or.inl ⟨by rfl, ?hz21⟩) hHeld ?rst21
    case hz21 => (intro wS hSw; obtain ⟨_, f0, f1, f2, f3, f4, f5, _, _, _⟩ := HS.out wS hSw; clear hSw; go_simp; try with_reducible rfl)
    simp only [Act.put, List.getElem_toArray, List.getElem_cons_zero, List.getElem_cons_succ, List.setIfInBounds_toArray, List.set_cons_zero, List.set_cons_succ]
    refine AUS_take (by kernel_rfl) rfl (i := 8) (oi := _) (v := ?vw22) rfl (by kernel_rfl) (by kernel_rfl) (by kernel_rfl) (fun _ _ _ h => h) (Or.inl ⟨by rfl, ?hz22⟩) hHeld ?rst22
    case hz22 => (intro wS hSw; obtain ⟨_, f0, f1, f2, f3, f4, f5, _, _, _⟩ := HS.out wS hSw; clear hSw; go_simp; try with_reducible rfl)
    simp only [Act.put, List.getElem_toArray, List.getElem_cons_zero, List.getElem_cons_succ, List.setIfInBounds_toArray, List.set_cons_zero, List.set_cons_succ]
    refine AUS_take (by kernel_rfl) rfl (i := 9) (oi := _) (v := ?vw23) rfl (by kernel_rfl) (by kernel_rfl) (by kernel_rfl) (fun _ _ _ h => h) (Or.inl ⟨by rfl, ?hz23⟩) hHeld ?rst23
    case hz23 => (intro wS hSw; obtain ⟨_, f0, f1, f2, f3, f4, f5, _, _, _⟩ := HS.out wS hSw; clear hSw; go_simp; try with_reducible rfl)
    simp only [Act.put, List.getElem_toArray, List.getElem_cons_zero, List.getElem_cons_succ, List.setIfInBounds_toArray, List.set_cons_zero, List.set_cons_succ]
    have HH := Lib.hid hHeld
    obtain ⟨hbw, _, _, _, _, _, _, g0, g1, g2⟩ := HS.out _ hHeld
    refine AU_one (i := 10) (o := _) (by kernel_rfl) rfl (fun K hK => ?_)
    have CC := Lib.hid (raise_m g0 (by omega))
    clear hHeld hbw g0 g1 g2
    go_simp
    refine CC.out.mono ?_
    clear CC
    rintro e wz2 ⟨a3, n3, c3, rfl, l3, hb⟩
    have hHeld := HH.out.trans (hb.mono HH.out.size)
    clear HH hb
    refine hK.out _ _ (fun _ => hHeld) ?_
    clear hK K
    try simp only [Act.put, List.getElem_toArray, List.getElem_cons_zero, List.getElem_cons_succ, List.setIfInBounds_toArray, List.set_cons_zero, List.set_cons_succ]
    have HH := Lib.hid hHeld
    obtain ⟨hbw, _, _, _, _, _, _, g0, g1, g2⟩ := HS.out _ hHeld
    refine AU_one (i := 11) (o := _) (by kernel_rfl) rfl (fun K hK => ?_)
    have CC := Lib.hid (join_m g1 l3.la (by omega) (by omega))
    clear hHeld hbw g0 g1 g2
    go_simp
    refine CC.out.mono ?_
    clear CC
    rintro e wz3 ⟨a4, n4, c4, rfl, l4, hb⟩
    have hHeld := HH.out.trans (hb.mono HH.out.size)
    replace l3 := l3.below hb
    clear HH hb
    refine hK.out _ _ (fun _ => hHeld) ?_
    clear hK K
    try simp only [Act.put, List.getElem_toArray, List.getElem_cons_zero, List.getElem_cons_succ, List.setIfInBounds_toArray, List.set_cons_zero, List.set_cons_succ]
    have HH := Lib.hid hHeld
    obtain ⟨hbw, _, _, _, _, _, _, g0, g1, g2⟩ := HS.out _ hHeld
    obtain ⟨b4, E4⟩ : ∃ b, Hid ((lq D0 P0 D2 P2 && lq D2 P2 (max D1 (Lab.turn 0 5 D0)) (Lab.jn D1 P1 (Lab.turn 0 5 D0) (Lab.tn 0 5 D0 P0))) = b) := ⟨_, Lib.hid rfl⟩
    have CC := rise3 g0 g2 l4.la (by omega) (by omega) (by omega)
    rw [E4.out] at CC
    have CC := Lib.hid CC
    clear hHeld hbw g0 g1 g2
    refine AU_one (i := 12) (o := _) (by kernel_rfl) rfl (fun K hK => ?_)
    go_simp
    refine hK.out _ _ (fun _ => HH.out.alloc HH.out.size _) ?_
    clear hK K
    try simp only [Act.put, List.getElem_toArray, List.getElem_cons_zero, List.getElem_cons_succ, List.setIfInBounds_toArray, List.set_cons_zero, List.set_cons_succ]
    refine AU_one (i := 13) (o := _) (by kernel_rfl) rfl (fun K hK => ?_)
    go_simp
    refine CC.out.mono ?_
    clear CC
    rintro e wz4 ⟨rfl, hb⟩
    have hHeld := HH.out.trans (hb.mono HH.out.size)
    replace l3 := l3.below hb
    replace l4 := l4.below hb
    clear HH hb
    refine hK.out _ _ (fun _ => hHeld) ?_
    clear hK K
    try simp only [Act.put, List.getElem_toArray, List.getElem_cons_zero, List.getElem_cons_succ, List.setIfInBounds_toArray, List.set_cons_zero, List.set_cons_succ]
    refine AUS_take (by kernel_rfl) rfl (i := 14) (oi := _) (v := ?vw24) rfl (by kernel_rfl) (by kernel_rfl) (by kernel_rfl) (fun _ _ _ h => h) (Or.inl ⟨by rfl, ?hz24⟩) hHeld ?rst24
    case hz24 => (intro wS hSw; obtain ⟨_, f0, f1, f2, f3, f4, f5, _, _, _⟩ := HS.out wS hSw; clear hSw; go_simp; try with_reducible rfl)
    simp only [Act.put, List.getElem_toArray, List.getElem_cons_zero, List.getElem_cons_succ, List.setIfInBounds_toArray, List.set_cons_zero, List.set_cons_succ]
    refine AUS_take (by kernel_rfl) rfl (i := 15) (oi := _) (v := ?vw25) rfl (by kernel_rfl) (by kernel_rfl) (by kernel_rfl) (fun _ _ _ h => h) (Or.inl ⟨by rfl, ?hz25⟩) hHeld ?rst25
    case hz25 => (intro wS hSw; obtain ⟨_, f0, f1, f2, f3, f4, f5, _, _, _⟩ := HS.out wS hSw; clear hSw; go_simp; try with_reducible rfl)
    simp only [Act.put, List.getElem_toArray, List.getElem_cons_zero, List.getElem_cons_succ, List.setIfInBounds_toArray, List.set_cons_zero, List.set_cons_succ]
    have HE := Lib.hid hHeld
    clear hHeld
    refine AU_done (by kernel_rfl) ?_ _
    simp only [OnlyN]
    have hHeld := HE.out
    clear HE
    have HE := Lib.hid (HS.out _ hHeld).1
    clear hHeld
    go_wp2_with fail
    go_ret
    exact ⟨by simp [cl, E1.out, E4.out], HE.out⟩
set_option maxHeartbeats 2000000 in
set_option maxRecDepth 100000 in
theorem rclear_m {w : World} {D0 : Int} {a0 : Option Addr} {n0 c0 : Nat} {P0 : LP} {D1 : Int} {a1 : Option Addr} {n1 c1 : Nat} {P1 : LP} {D2 : Int} {a2 : Option Addr} {n2 c2 : Nat} {P2 : LP} (h0 : LA 100 w D0 a0 n0 c0 P0) (h1 : LA 100 w D1 a1 n1 c1 P1) (h2 : LA 100 w D2 a2 n2 c2 P2)  : Calls Try.prog 24 #[.agg #[.int .i64 D0, .slice a0 n0 c0, .int .i64 D1, .slice a1 n1 c1], .agg #[.int .i64 D2, .slice a2 n2 c2]] w (BB w (cl D0 P0 D1 P1 D2 P2)) := by
  obtain ⟨W0, e0⟩ : ∃ W0, W0 = ((w.alloc (Obj.cells #[.int .i64 D0, .slice a0 n0 c0, .int .i64 D1, .slice a1 n1 c1] 33)).alloc (Obj.cells #[.int .i64 D2, .slice a2 n2 c2] 29)) := ⟨_, rfl⟩
  have hB : Below w.heap.size w W0 := by rw [e0]; exact (((Below.refl w.heap.size w).alloc (by omega) _).alloc (by simp <;> omega) _)
  have hk0 : W0.heap[w.heap.size]? = some (Obj.cells #[.int .i64 D0, .slice a0 n0 c0, .int .i64 D1, .slice a1 n1 c1] 33) := by
    rw [e0]
    rw [Below.heap_alloc _ _ _ (by simp <;> omega)]
    have := heap_alloc_new w (Obj.cells #[.int .i64 D0, .slice a0 n0 c0, .int .i64 D1, .slice a1 n1 c1] 33); simpa using this
  have hk1 : W0.heap[w.heap.size + 1]? = some (Obj.cells #[.int .i64 D2, .slice a2 n2 c2] 29) := by
    rw [e0]
    have := heap_alloc_new (w.alloc (Obj.cells #[.int .i64 D0, .slice a0 n0 c0, .int .i64 D1, .slice a1 n1 c1] 33)) (Obj.cells #[.int .i64 D2, .slice a2 n2 c2] 29); simpa using this
  have HS := Lib.hid (fun (wx : World) (hx : Below W0.heap.size W0 wx) => (by
      have hw : Below w.heap.size w wx := hB.trans (hx.mono hB.size)
      have r0 := (hx.block _ (Array.getElem?_eq_some_iff.1 hk0).1).trans hk0
      have r1 := (hx.block _ (Array.getElem?_eq_some_iff.1 hk1).1).trans hk1
      exact ⟨hw, by rw [cell_of_row _ _ 0 _ 33 (0, 0) r0]; rfl, by rw [cell_of_row _ _ 1 _ 33 (0, 0) r0]; rfl, by rw [cell_of_row _ _ 2 _ 33 (0, 0) r0]; rfl, by rw [cell_of_row _ _ 3 _ 33 (0, 0) r0]; rfl, by rw [cell_of_row _ _ 0 _ 29 (0, 0) r1]; rfl, by rw [cell_of_row _ _ 1 _ 29 (0, 0) r1]; rfl, h0.below hw, h1.below hw, h2.below hw⟩ : Below w.heap.size w wx ∧ wx.cell? ⟨w.heap.size, 0, none⟩ = some (.int .i64 D0) ∧ wx.cell? ⟨w.heap.size, 1, none⟩ = some (.slice a0 n0 c0) ∧ wx.cell? ⟨w.heap.size, 2, none⟩ = some (.int .i64 D1) ∧ wx.cell? ⟨w.heap.size, 3, none⟩ = some (.slice a1 n1 c1) ∧ wx.cell? ⟨w.heap.size + 1, 0, none⟩ = some (.int .i64 D2) ∧ wx.cell? ⟨w.heap.size + 1, 1, none⟩ = some (.slice a2 n2 c2) ∧ LA 100 wx D0 a0 n0 c0 P0 ∧ LA 100 wx D1 a1 n1 c1 P1 ∧ LA 100 wx D2 a2 n2 c2 P2))
  clear h0 h1 h2 hB hk0 hk1
  go_enter Try.func24, Try.ntmps24
  go_upto_region 1 with fail
  rw [← e0]
  clear e0
  have hHeld := Below.refl W0.heap.size W0
  have HS0 := HS
  go_cut [5, 6, 7, 8, 9, 10, 11] (fun s5 s6 s7 s8 s9 s10 s11 wx => ∃ A a9 n9 c9, s5 = .pointer (some ⟨A, 0, none⟩) ∧ Hid (wx.heap[A]? = some (Obj.cells #[.int .i64 (max D1 (Lab.turn 0 5 D0)), .slice a9 n9 c9] 29) ∧ LA 300 wx (max D1 (Lab.turn 0 5 D0)) a9 n9 c9 (Lab.jn D1 P1 (Lab.turn 0 5 D0) (Lab.tn 0 5 D0 P0)) ∧ Below W0.heap.size W0 wx))
  case first =>
    refine region_AU (Z := fun j => false) (S := fun w' => Below W0.heap.size W0 w') (by kernel_rfl) (hHeld.drew) (fun hHeld => ?_)
    obtain ⟨wd1, ewd⟩ : ∃ wd, wd = W0.drew := ⟨_, rfl⟩
    rw [← ewd] at hHeld ⊢
    clear ewd
    refine AUS_take (by kernel_rfl) rfl (i := 0) (oi := _) (v := ?vw1) rfl (by kernel_rfl) (by kernel_rfl) (by kernel_rfl) (fun _ _ _ h => h) (Or.inl ⟨by rfl, ?hz1⟩) hHeld ?rst1
    case hz1 => (intro wS hSw; obtain ⟨_, f0, f1, f2, f3, f4, f5, _, _, _⟩ := HS.out wS hSw; clear hSw; go_simp; try with_reducible rfl)
    simp only [Act.put, List.getElem_toArray, List.getElem_cons_zero, List.getElem_cons_succ, List.setIfInBounds_toArray, List.set_cons_zero, List.set_cons_succ]
    refine AUS_take (by kernel_rfl) rfl (i := 1) (oi := _) (v := ?vw2) rfl (by kernel_rfl) (by kernel_rfl) (by kernel_rfl) (fun _ _ _ h => h) (Or.inl ⟨by rfl, ?hz2⟩) hHeld ?rst2
    case hz2 => (intro wS hSw; obtain ⟨_, f0, f1, f2, f3, f4, f5, _, _, _⟩ := HS.out wS hSw; clear hSw; go_simp; try with_reducible rfl)
    simp only [Act.put, List.getElem_toArray, List.getElem_cons_zero, List.getElem_cons_succ, List.setIfInBounds_toArray, List.set_cons_zero, List.set_cons_succ]
    refine AUS_take (by kernel_rfl) rfl (i := 2) (oi := _) (v := ?vw3) rfl (by kernel_rfl) (by kernel_rfl) (by kernel_rfl) (fun _ _ _ h => h) (Or.inl ⟨by rfl, ?hz3⟩) hHeld ?rst3
    case hz3 => (intro wS hSw; obtain ⟨_, f0, f1, f2, f3, f4, f5, _, _, _⟩ := HS.out wS hSw; clear hSw; go_simp; try with_reducible rfl)
    simp only [Act.put, List.getElem_toArray, List.getElem_cons_zero, List.getElem_cons_succ, List.setIfInBounds_toArray, List.set_cons_zero, List.set_cons_succ]
    refine AUS_take (by kernel_rfl) rfl (i := 3) (oi := _) (v := ?vw4) rfl (by kernel_rfl) (by kernel_rfl) (by kernel_rfl) (fun _ _ _ h => h) (Or.inl ⟨by rfl, ?hz4⟩) hHeld ?rst4
    case hz4 => (intro wS hSw; obtain ⟨_, f0, f1, f2, f3, f4, f5, _, _, _⟩ := HS.out wS hSw; clear hSw; go_simp; try with_reducible rfl)
    simp only [Act.put, List.getElem_toArray, List.getElem_cons_zero, List.getElem_cons_succ, List.setIfInBounds_toArray, List.set_cons_zero, List.set_cons_succ]
    refine AU_two (i := 4) (j := 6) (oi := _) (oj := _) (by kernel_rfl) rfl rfl (fun K hK => ?_) (fun K hK => ?_)
    · skip
      have HH := Lib.hid hHeld
      obtain ⟨hbw, _, _, _, _, _, _, g0, g1, g2⟩ := HS.out _ hHeld
      have CC := Lib.hid (rraise_m g0 (by omega))
      clear hHeld hbw g0 g1 g2
      go_simp
      refine CC.out.mono ?_
      clear CC
      rintro e wz1 ⟨a3, n3, c3, rfl, l3, hb⟩
      have hHeld := HH.out.trans (hb.mono HH.out.size)
      clear HH hb
      refine hK.out _ _ (fun _ => hHeld) ?_
      clear hK K
      try simp only [Act.put, List.getElem_toArray, List.getElem_cons_zero, List.getElem_cons_succ, List.setIfInBounds_toArray, List.set_cons_zero, List.set_cons_succ]
      refine AU_two (i := 5) (j := 6) (oi := _) (oj := _) (by kernel_rfl) rfl rfl (fun K hK => ?_) (fun K hK => ?_)
      · skip
        have HH := Lib.hid hHeld
        obtain ⟨hbw, _, _, _, _, _, _, g0, g1, g2⟩ := HS.out _ hHeld
        have CC := Lib.hid (rmerge_m g1 l3.la (by omega) (by omega))
        clear hHeld hbw g0 g1 g2
        go_simp
        refine CC.out.mono ?_
        clear CC
        rintro e wz2 ⟨a4, n4, c4, rfl, l4, hb⟩
        have hHeld := HH.out.trans (hb.mono HH.out.size)
        replace l3 := l3.below hb
        clear HH hb
        refine hK.out _ _ (fun _ => hHeld) ?_
        clear hK K
        try simp only [Act.put, List.getElem_toArray, List.getElem_cons_zero, List.getElem_cons_succ, List.setIfInBounds_toArray, List.set_cons_zero, List.set_cons_succ]
        have HH := Lib.hid hHeld
        have hn3 := heap_alloc_new wz2 (Obj.cells #[.int .i64 0, .slice none 0 0] 29)
        have hb := below_alloc1 wz2 (Obj.cells #[.int .i64 0, .slice none 0 0] 29)
        refine AU_one (i := 6) (o := _) (by kernel_rfl) rfl (fun K hK => ?_)
        clear hHeld
        go_simp
        have hHeld := HH.out.trans (hb.mono HH.out.size)
        replace l3 := l3.below hb
        replace l4 := l4.below hb
        have hge3 := HH.out.size
        clear hb HH
        obtain ⟨wa3, ewa⟩ : ∃ wa, wa = wz2.alloc (Obj.cells #[.int .i64 0, .slice none 0 0] 29) := ⟨_, rfl⟩
        rw [← ewa] at hn3 hHeld l3 l4 ⊢
        obtain ⟨A3, eA⟩ : ∃ A, A = wz2.heap.size := ⟨_, rfl⟩
        rw [← eA] at hn3 hge3 ⊢
        clear ewa eA
        refine hK.out _ _ (fun _ => hHeld) ?_
        clear hK K
        try simp only [Act.put, List.getElem_toArray, List.getElem_cons_zero, List.getElem_cons_succ, List.setIfInBounds_toArray, List.set_cons_zero, List.set_cons_succ]
        have HH := Lib.hid hHeld
        obtain ⟨s0, s1, s2, s3, s4, _⟩ := old2 wa3 A3 29 _ _ (.int .i64 (max D1 (Lab.turn 0 5 D0))) (.slice a4 n4 c4) hn3
        replace l3 := l3.set2 hn3 (by decide) (.int .i64 (max D1 (Lab.turn 0 5 D0))) (.slice a4 n4 c4)
        replace l4 := l4.set2 hn3 (by decide) (.int .i64 (max D1 (Lab.turn 0 5 D0))) (.slice a4 n4 c4)
        have hHeld2 := below_set2 HH.out hge3 (.int .i64 (max D1 (Lab.turn 0 5 D0))) (.slice a4 n4 c4)
        have S4 := Lib.hid s4
        refine AU_one (i := 7) (o := _) (by kernel_rfl) rfl (fun K hK => ?_)
        clear hHeld s4 hn3
        go_simp
        obtain ⟨ws3, ews⟩ : ∃ ws, set2 wa3 A3 (.int .i64 (max D1 (Lab.turn 0 5 D0))) (.slice a4 n4 c4) = ws := ⟨_, rfl⟩
        have ews2 : ((wa3.setCell ⟨A3, 0, none⟩ (.int .i64 (max D1 (Lab.turn 0 5 D0)))).setCell ⟨A3, 1, none⟩ (.slice a4 n4 c4)) = ws3 := ews
        have hn3 : (set2 wa3 A3 (.int .i64 (max D1 (Lab.turn 0 5 D0))) (.slice a4 n4 c4)).heap[A3]? = some (Obj.cells #[.int .i64 (max D1 (Lab.turn 0 5 D0)), .slice a4 n4 c4] 29) := S4.out
        rw [ews] at hHeld2 hn3 l3 l4
        rw [ews2]
        have hHeld := hHeld2
        clear hHeld2 S4 HH ews ews2 s0 s1 s2 s3
        refine hK.out _ _ (fun _ => hHeld) ?_
        clear hK K
        try simp only [Act.put, List.getElem_toArray, List.getElem_cons_zero, List.getElem_cons_succ, List.setIfInBounds_toArray, List.set_cons_zero, List.set_cons_succ]
        have HE := Lib.hid hHeld
        clear hHeld
        refine AU_done (by kernel_rfl) ?_ _
        simp only [OnlyN]
        have hHeld := HE.out
        clear HE
        have HF := Lib.hid (And.intro hn3 (And.intro l4.la hHeld))
        clear hHeld hn3 l3 l4
        go_wp2_with fail
        go_meet
        exact ⟨_, _, _, _, rfl, HF⟩
      · skip
        have HH := Lib.hid hHeld
        have hn4 := heap_alloc_new wz1 (Obj.cells #[.int .i64 0, .slice none 0 0] 29)
        have hb := below_alloc1 wz1 (Obj.cells #[.int .i64 0, .slice none 0 0] 29)
        clear hHeld
        go_simp
        have hHeld := HH.out.trans (hb.mono HH.out.size)
        replace l3 := l3.below hb
        have hge4 := HH.out.size
        clear hb HH
        obtain ⟨wa4, ewa⟩ : ∃ wa, wa = wz1.alloc (Obj.cells #[.int .i64 0, .slice none 0 0] 29) := ⟨_, rfl⟩
        rw [← ewa] at hn4 hHeld l3 ⊢
        obtain ⟨A4, eA⟩ : ∃ A, A = wz1.heap.size := ⟨_, rfl⟩
        rw [← eA] at hn4 hge4 ⊢
        clear ewa eA
        refine hK.out _ _ (fun _ => hHeld) ?_
        clear hK K
        try simp only [Act.put, List.getElem_toArray, List.getElem_cons_zero, List.getElem_cons_succ, List.setIfInBounds_toArray, List.set_cons_zero, List.set_cons_succ]
        have HH := Lib.hid hHeld
        obtain ⟨hbw, _, _, _, _, _, _, g0, g1, g2⟩ := HS.out _ hHeld
        refine AU_one (i := 5) (o := _) (by kernel_rfl) rfl (fun K hK => ?_)
        have CC := Lib.hid (rmerge_m g1 l3.la (by omega) (by omega))
        clear hHeld hbw g0 g1 g2
        go_simp
        refine CC.out.mono ?_
        clear CC
        rintro e wz5 ⟨a5, n5, c5, rfl, l5, hb⟩
        have hHeld := HH.out.trans (hb.mono HH.out.size)
        replace l3 := l3.below hb
        replace hn4 := block_below hn4 hb
        clear HH hb
        refine hK.out _ _ (fun _ => hHeld) ?_
        clear hK K
        try simp only [Act.put, List.getElem_toArray, List.getElem_cons_zero, List.getElem_cons_succ, List.setIfInBounds_toArray, List.set_cons_zero, List.set_cons_succ]
        have HH := Lib.hid hHeld
        obtain ⟨s0, s1, s2, s3, s4, _⟩ := old2 wz5 A4 29 _ _ (.int .i64 (max D1 (Lab.turn 0 5 D0))) (.slice a5 n5 c5) hn4
        replace l3 := l3.set2 hn4 (by decide) (.int .i64 (max D1 (Lab.turn 0 5 D0))) (.slice a5 n5 c5)
        replace l5 := l5.set2 hn4 (by decide) (.int .i64 (max D1 (Lab.turn 0 5 D0))) (.slice a5 n5 c5)
        have hHeld2 := below_set2 HH.out hge4 (.int .i64 (max D1 (Lab.turn 0 5 D0))) (.slice a5 n5 c5)
        have S4 := Lib.hid s4
        refine AU_one (i := 7) (o := _) (by kernel_rfl) rfl (fun K hK => ?_)
        clear hHeld s4 hn4
        go_simp
        obtain ⟨ws4, ews⟩ : ∃ ws, set2 wz5 A4 (.int .i64 (max D1 (Lab.turn 0 5 D0))) (.slice a5 n5 c5) = ws := ⟨_, rfl⟩
        have ews2 : ((wz5.setCell ⟨A4, 0, none⟩ (.int .i64 (max D1 (Lab.turn 0 5 D0)))).setCell ⟨A4, 1, none⟩ (.slice a5 n5 c5)) = ws4 := ews
        have hn4 : (set2 wz5 A4 (.int .i64 (max D1 (Lab.turn 0 5 D0))) (.slice a5 n5 c5)).heap[A4]? = some (Obj.cells #[.int .i64 (max D1 (Lab.turn 0 5 D0)), .slice a5 n5 c5] 29) := S4.out
        rw [ews] at hHeld2 hn4 l3 l5
        rw [ews2]
        have hHeld := hHeld2
        clear hHeld2 S4 HH ews ews2 s0 s1 s2 s3
        refine hK.out _ _ (fun _ => hHeld) ?_
        clear hK K
        try simp only [Act.put, List.getElem_toArray, List.getElem_cons_zero, List.getElem_cons_succ, List.setIfInBounds_toArray, List.set_cons_zero, List.set_cons_succ]
        have HE := Lib.hid hHeld
        clear hHeld
        refine AU_done (by kernel_rfl) ?_ _
        simp only [OnlyN]
        have hHeld := HE.out
        clear HE
        have HF := Lib.hid (And.intro hn4 (And.intro l5.la hHeld))
        clear hHeld hn4 l3 l5
        go_wp2_with fail
        go_meet
        exact ⟨_, _, _, _, rfl, HF⟩
    · skip
      have HH := Lib.hid hHeld
      have hn6 := heap_alloc_new wd1 (Obj.cells #[.int .i64 0, .slice none 0 0] 29)
      have hb := below_alloc1 wd1 (Obj.cells #[.int .i64 0, .slice none 0 0] 29)
      clear hHeld
      go_simp
      have hHeld := HH.out.trans (hb.mono HH.out.size)
      have hge6 := HH.out.size
      clear hb HH
      obtain ⟨wa6, ewa⟩ : ∃ wa, wa = wd1.alloc (Obj.cells #[.int .i64 0, .slice none 0 0] 29) := ⟨_, rfl⟩
      rw [← ewa] at hn6 hHeld ⊢
      obtain ⟨A6, eA⟩ : ∃ A, A = wd1.heap.size := ⟨_, rfl⟩
      rw [← eA] at hn6 hge6 ⊢
      clear ewa eA
      refine hK.out _ _ (fun _ => hHeld) ?_
      clear hK K
      try simp only [Act.put, List.getElem_toArray, List.getElem_cons_zero, List.getElem_cons_succ, List.setIfInBounds_toArray, List.set_cons_zero, List.set_cons_succ]
      have HH := Lib.hid hHeld
      obtain ⟨hbw, _, _, _, _, _, _, g0, g1, g2⟩ := HS.out _ hHeld
      refine AU_one (i := 4) (o := _) (by kernel_rfl) rfl (fun K hK => ?_)
      have CC := Lib.hid (rraise_m g0 (by omega))
      clear hHeld hbw g0 g1 g2
      go_simp
      refine CC.out.mono ?_
      clear CC
      rintro e wz7 ⟨a6, n6, c6, rfl, l6, hb⟩
      have hHeld := HH.out.trans (hb.mono HH.out.size)
      replace hn6 := block_below hn6 hb
      clear HH hb
      refine hK.out _ _ (fun _ => hHeld) ?_
      clear hK K
      try simp only [Act.put, List.getElem_toArray, List.getElem_cons_zero, List.getElem_cons_succ, List.setIfInBounds_toArray, List.set_cons_zero, List.set_cons_succ]
      have HH := Lib.hid hHeld
      obtain ⟨hbw, _, _, _, _, _, _, g0, g1, g2⟩ := HS.out _ hHeld
      refine AU_one (i := 5) (o := _) (by kernel_rfl) rfl (fun K hK => ?_)
      have CC := Lib.hid (rmerge_m g1 l6.la (by omega) (by omega))
      clear hHeld hbw g0 g1 g2
      go_simp
      refine CC.out.mono ?_
      clear CC
      rintro e wz8 ⟨a7, n7, c7, rfl, l7, hb⟩
      have hHeld := HH.out.trans (hb.mono HH.out.size)
      replace l6 := l6.below hb
      replace hn6 := block_below hn6 hb
      clear HH hb
      refine hK.out _ _ (fun _ => hHeld) ?_
      clear hK K
      try simp only [Act.put, List.getElem_toArray, List.getElem_cons_zero, List.getElem_cons_succ, List.setIfInBounds_toArray, List.set_cons_zero, List.set_cons_succ]
      have HH := Lib.hid hHeld
      obtain ⟨s0, s1, s2, s3, s4, _⟩ := old2 wz8 A6 29 _ _ (.int .i64 (max D1 (Lab.turn 0 5 D0))) (.slice a7 n7 c7) hn6
      replace l6 := l6.set2 hn6 (by decide) (.int .i64 (max D1 (Lab.turn 0 5 D0))) (.slice a7 n7 c7)
      replace l7 := l7.set2 hn6 (by decide) (.int .i64 (max D1 (Lab.turn 0 5 D0))) (.slice a7 n7 c7)
      have hHeld2 := below_set2 HH.out hge6 (.int .i64 (max D1 (Lab.turn 0 5 D0))) (.slice a7 n7 c7)
      have S4 := Lib.hid s4
      refine AU_one (i := 7) (o := _) (by kernel_rfl) rfl (fun K hK => ?_)
      clear hHeld s4 hn6
      go_simp
      obtain ⟨ws6, ews⟩ : ∃ ws, set2 wz8 A6 (.int .i64 (max D1 (Lab.turn 0 5 D0))) (.slice a7 n7 c7) = ws := ⟨_, rfl⟩
      have ews2 : ((wz8.setCell ⟨A6, 0, none⟩ (.int .i64 (max D1 (Lab.turn 0 5 D0)))).setCell ⟨A6, 1, none⟩ (.slice a7 n7 c7)) = ws6 := ews
      have hn6 : (set2 wz8 A6 (.int .i64 (max D1 (Lab.turn 0 5 D0))) (.slice a7 n7 c7)).heap[A6]? = some (Obj.cells #[.int .i64 (max D1 (Lab.turn 0 5 D0)), .slice a7 n7 c7] 29) := S4.out
      rw [ews] at hHeld2 hn6 l6 l7
      rw [ews2]
      have hHeld := hHeld2
      clear hHeld2 S4 HH ews ews2 s0 s1 s2 s3
      refine hK.out _ _ (fun _ => hHeld) ?_
      clear hK K
      try simp only [Act.put, List.getElem_toArray, List.getElem_cons_zero, List.getElem_cons_succ, List.setIfInBounds_toArray, List.set_cons_zero, List.set_cons_succ]
      have HE := Lib.hid hHeld
      clear hHeld
      refine AU_done (by kernel_rfl) ?_ _
      simp only [OnlyN]
      have hHeld := HE.out
      clear HE
      have HF := Lib.hid (And.intro hn6 (And.intro l7.la hHeld))
      clear hHeld hn6 l6 l7
      go_wp2_with fail
      go_meet
      exact ⟨_, _, _, _, rfl, HF⟩
  case rest =>
    obtain ⟨A, a9, n9, c9, rfl, HF⟩ := hcut
    obtain ⟨X, rfl⟩ : ∃ X, X = wc := ⟨_, rfl⟩
    go_upto_region 2 with fail
    obtain ⟨hk0, h9, hX⟩ := HF.out
    have HX := Lib.hid hX
    have hB := (HS.out X hX).1
    have HS := Lib.hid (fun (wx : World) (hx : Below X.heap.size X wx) => (by
        have hw : Below w.heap.size w wx := hB.trans (hx.mono hB.size)
        have hold := HS.out wx (HX.out.trans (hx.mono HX.out.size))
        have r0 := block_below hk0 hx
        exact ⟨hw, hold.2.1, hold.2.2.1, hold.2.2.2.1, hold.2.2.2.2.1, hold.2.2.2.2.2.1, hold.2.2.2.2.2.2.1, by rw [cell_of_row _ _ 0 _ 29 (0, 0) r0]; rfl, by rw [cell_of_row _ _ 1 _ 29 (0, 0) r0]; rfl, hold.2.2.2.2.2.2.2.1, hold.2.2.2.2.2.2.2.2.1, hold.2.2.2.2.2.2.2.2.2, h9.below hx⟩ : Below w.heap.size w wx ∧ wx.cell? ⟨w.heap.size, 0, none⟩ = some (.int .i64 D0) ∧ wx.cell? ⟨w.heap.size, 1, none⟩ = some (.slice a0 n0 c0) ∧ wx.cell? ⟨w.heap.size, 2, none⟩ = some (.int .i64 D1) ∧ wx.cell? ⟨w.heap.size, 3, none⟩ = some (.slice a1 n1 c1) ∧ wx.cell? ⟨w.heap.size + 1, 0, none⟩ = some (.int .i64 D2) ∧ wx.cell? ⟨w.heap.size + 1, 1, none⟩ = some (.slice a2 n2 c2) ∧ wx.cell? ⟨A, 0, none⟩ = some (.int .i64 (max D1 (Lab.turn 0 5 D0))) ∧ wx.cell? ⟨A, 1, none⟩ = some (.slice a9 n9 c9) ∧ LA 100 wx D0 a0 n0 c0 P0 ∧ LA 100 wx D1 a1 n1 c1 P1 ∧ LA 100 wx D2 a2 n2 c2 P2 ∧ LA 300 wx (max D1 (Lab.turn 0 5 D0)) a9 n9 c9 (Lab.jn D1 P1 (Lab.turn 0 5 D0) (Lab.tn 0 5 D0 P0))))
    clear hk0 h9 hX hB HF
    have hHeld := Below.refl X.heap.size X
    have HH := Lib.hid hHeld
    obtain ⟨hbw, _, _, _, _, _, _, _, _, g0, g1, g2, g9⟩ := HS.out _ hHeld
    obtain ⟨b9, E9⟩ : ∃ b, Hid (lq D0 P0 D2 P2 = b) := ⟨_, Lib.hid rfl⟩
    have CC := rleq_m g0 g2 (by omega) (by omega)
    rw [E9.out] at CC
    have CC := Lib.hid CC
    clear hHeld hbw g0 g1 g2 g9
    obtain ⟨_, f0, f1, f2, f3, f4, f5, f6, f7, _, _, _, _⟩ := HS.out _ HH.out
    go_wp2_with fail
    refine CC.out.mono ?_
    clear CC f0 f1 f2 f3 f4 f5 f6 f7
    rintro e wz9 ⟨rfl, hb⟩
    have hHeld := HH.out.trans (hb.mono HH.out.size)
    clear HH hb
    cases b9
    · skip
      have HE := Lib.hid (HS.out _ hHeld).1
      clear hHeld
      go_wp2_with fail
      go_ret
      exact ⟨by simp [cl, E9.out], HE.out⟩
    · skip
      have HH := Lib.hid hHeld
      obtain ⟨hbw, _, _, _, _, _, _, _, _, g0, g1, g2, g9⟩ := HS.out _ hHeld
      obtain ⟨b10, E10⟩ : ∃ b, Hid (lq D2 P2 (max D1 (Lab.turn 0 5 D0)) (Lab.jn D1 P1 (Lab.turn 0 5 D0) (Lab.tn 0 5 D0 P0)) = b) := ⟨_, Lib.hid rfl⟩
      have CC := rleq_m g2 g9 (by omega) (by omega)
      rw [E10.out] at CC
      have CC := Lib.hid CC
      clear hHeld hbw g0 g1 g2 g9
      obtain ⟨_, f0, f1, f2, f3, f4, f5, f6, f7, _, _, _, _⟩ := HS.out _ HH.out
      go_wp2_with fail
      refine CC.out.mono ?_
      clear CC f0 f1 f2 f3 f4 f5 f6 f7
      rintro e wz10 ⟨rfl, hb⟩
      have hHeld := HH.out.trans (hb.mono HH.out.size)
      clear HH hb
      cases b10
      · skip
        have HE := Lib.hid (HS.out _ hHeld).1
        clear hHeld
        go_wp2_with fail
        go_ret
        exact ⟨by simp [cl, E9.out, E10.out], HE.out⟩
      · skip
        have HH := Lib.hid hHeld
        obtain ⟨hbw, _, _, _, _, _, _, _, _, g0, g1, g2, g9⟩ := HS.out _ hHeld
        obtain ⟨b11, E11⟩ : ∃ b, Hid (Lab.right D2 P2 = b) := ⟨_, Lib.hid rfl⟩
        have CC := rright_m g2
        rw [E11.out] at CC
        have CC := Lib.hid CC
        clear hHeld hbw g0 g1 g2 g9
        obtain ⟨_, f0, f1, f2, f3, f4, f5, f6, f7, _, _, _, _⟩ := HS.out _ HH.out
        go_wp2_with fail
        refine CC.out.mono ?_
        clear CC f0 f1 f2 f3 f4 f5 f6 f7
        rintro e wz11 ⟨rfl, hb⟩
        have hHeld := HH.out.trans (hb.mono HH.out.size)
        clear HH hb
        have HE := Lib.hid (HS.out _ hHeld).1
        clear hHeld
        go_wp2_with fail
        go_ret
        exact ⟨by simp [cl, E9.out, E10.out, E11.out], HE.out⟩
end Go.Proofs.Ytmbdglhihakkjaa
