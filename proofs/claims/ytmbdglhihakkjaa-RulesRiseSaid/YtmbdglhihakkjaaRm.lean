import Derived.Test.YtmbdglhihakkjaaRl
namespace Go.Proofs.Ytmbdglhihakkjaa
open Go.RowKit
set_option linter.unusedVariables false
set_option linter.unusedSimpArgs false

theorem raise_any (v1 : Value) (ps : List (Nat × Int)) (D : Int) (w : World) (hn : ps.length ≤ 8796093022207) (r1 : Reads w v1 ps) (hpos : ∀ c ∈ ps.map (·.1), 1 ≤ c) :
    Calls Try.prog 49 #[.agg #[.int .i64 D, v1]] w fun e w' =>
      ∃ v cs, e = .returned (.agg #[.int .i64 (Lab.turn 0 5 D), v]) ∧ Lab.CatsOf (ps.map (·.1)) cs ∧
        (∀ m, m = Lab.make (Lab.turn 0 5 D) cs (cs.map fun c => Lab.turn 0 5 (Lab.at' D ps c)) → w'.ownsRow w.heap.size 61 2 v m.length (F m)) ∧ Below w.heap.size w w' := by
  have C := Lib.hid (fun (w : World) (r : Reads w v1 ps) => turn_any v1 ps D 0 5 w hn r hpos)
  have R := Lib.hid r1
  clear hn r1 hpos
  go_enter Try.func49, Try.ntmps49
  go_wp2_with fail
  obtain ⟨W0, eW⟩ : ∃ W0, W0 = ((w.alloc (Obj.cells #[Value.int .i64 D, v1] 29)).alloc (Obj.cells #[Value.int .i64 0, .slice none 0 0] 29)) := ⟨_, rfl⟩
  rw [← eW]
  have hW : Below w.heap.size w W0 ∧ W0.heap.size = w.heap.size + 2 ∧ W0.heap[w.heap.size + 1]? = some (Obj.cells #[Value.int .i64 0, .slice none 0 0] 29) := by
    rw [eW]
    refine ⟨((Below.refl _ _).alloc (Nat.le_refl _) _).alloc (by simp) _, by simp, ?_⟩
    have := heap_alloc_new (w.alloc (Obj.cells #[Value.int .i64 D, v1] 29)) (Obj.cells #[Value.int .i64 0, .slice none 0 0] 29); simpa using this
  have HW := Lib.hid hW
  clear hW eW
  refine (C.out _ (R.out.below HW.out.1)).mono ?_
  rintro e w4 ⟨v, cs, rfl, hcs, hmade', hb4⟩
  have hmade := hmade' _ rfl
  clear hmade'
  have HCS := Lib.hid hcs
  have hbw : Below w.heap.size w w4 := HW.out.1.trans (hb4.mono HW.out.1.size)
  have hres : w4.heap[w.heap.size + 1]? = some (Obj.cells #[Value.int .i64 0, .slice none 0 0] 29) := by
    rw [hb4.block _ (by rw [HW.out.2.1]; omega)]; exact HW.out.2.2
  obtain ⟨T, eT⟩ : ∃ T, Lab.turn 0 5 D = T := ⟨_, rfl⟩
  have hls : (cs.map fun c => Lab.turn 0 5 (Lab.at' D ps c)) = cs.map fun c => Lab.turn 0 5 (Lab.at' D ps c) := rfl
  have HLS := Lib.hid hls
  have ET := Lib.hid eT
  rw [eT] at hmade ⊢
  clear hcs hls eT
  have hform : v = .slice none 0 0 ∨ ∃ g' n' cap', v = .slice (some ⟨g', 0, none⟩) n' cap' := by
    rcases hmade.2 with ⟨h, _⟩ | ⟨g', cap', cur, h, _⟩
    · exact .inl h
    · exact .inr ⟨_, _, _, h⟩
  rcases hform with rfl | ⟨g', n', cap', rfl⟩
  · have k0 : w4.cell? ⟨w.heap.size + 1, 0, none⟩ = some (.int .i64 0) := by rw [cell_of_row _ _ 0 _ 29 (0, 0) hres]; rfl
    have k1 : w4.cell? ⟨w.heap.size + 1, 1, none⟩ = some (.slice none 0 0) := by rw [cell_of_row _ _ 1 _ 29 (0, 0) hres]; rfl
    have f0 : w4.frozen? ⟨w.heap.size + 1, 0, none⟩ = false := frozen_of_row _ _ 0 _ 29 hres
    have f1 : w4.frozen? ⟨w.heap.size + 1, 1, none⟩ = false := frozen_of_row _ _ 1 _ 29 hres
    have hblk : ((w4.setCell ⟨w.heap.size + 1, 0, none⟩ (.int .i64 T)).setCell ⟨w.heap.size + 1, 1, none⟩ (.slice none 0 0)).heap[w.heap.size + 1]? = some (.cells #[.int .i64 T, (.slice none 0 0)] 29) := by
      have e1 := heap_setCell_same w4 (w.heap.size + 1) 0 _ 29 (.int .i64 T) hres
      have e2 := heap_setCell_same _ (w.heap.size + 1) 1 _ 29 (.slice none 0 0) e1
      simpa using e2
    have hne : some (w.heap.size + 1) ≠ (Value.ownBlock (.slice none 0 0)) := by intro e; have := (hmade.lt _ e.symm).1; have := HW.out.2.1; omega
    have hfin := owns_mono (base' := w.heap.size) (owns_set (owns_set hmade ⟨w.heap.size + 1, 0, none⟩ (.int .i64 T) hne) ⟨w.heap.size + 1, 1, none⟩ (.slice none 0 0) hne) (by have := HW.out.2.1; omega)
    have hbf : Below w.heap.size w ((w4.setCell ⟨w.heap.size + 1, 0, none⟩ (.int .i64 T)).setCell ⟨w.heap.size + 1, 1, none⟩ (.slice none 0 0)) := (hbw.setCell (by simp) _).setCell (by simp) _
    have HFIN := Lib.hid hfin
    have HBF := Lib.hid hbf
    have HBLK := Lib.hid hblk
    clear hmade hb4 hres hbw hfin hbf hblk hne
    go_wp2
    refine bodyPost_ret (results_cell_row (by rfl) _ _ (w.heap.size + 1) 29 _ (0, 0) _ (by rfl) HBLK.out Try.underlying29 rfl info24) rfl ⟨_, cs, by rw [ET.out], HCS.out, fun m hm => ?_, HBF.out⟩
    rw [hm, ET.out]
    exact HFIN.out
  · have k0 : w4.cell? ⟨w.heap.size + 1, 0, none⟩ = some (.int .i64 0) := by rw [cell_of_row _ _ 0 _ 29 (0, 0) hres]; rfl
    have k1 : w4.cell? ⟨w.heap.size + 1, 1, none⟩ = some (.slice none 0 0) := by rw [cell_of_row _ _ 1 _ 29 (0, 0) hres]; rfl
    have f0 : w4.frozen? ⟨w.heap.size + 1, 0, none⟩ = false := frozen_of_row _ _ 0 _ 29 hres
    have f1 : w4.frozen? ⟨w.heap.size + 1, 1, none⟩ = false := frozen_of_row _ _ 1 _ 29 hres
    have hblk : ((w4.setCell ⟨w.heap.size + 1, 0, none⟩ (.int .i64 T)).setCell ⟨w.heap.size + 1, 1, none⟩ (.slice (some ⟨g', 0, none⟩) n' cap')).heap[w.heap.size + 1]? = some (.cells #[.int .i64 T, (.slice (some ⟨g', 0, none⟩) n' cap')] 29) := by
      have e1 := heap_setCell_same w4 (w.heap.size + 1) 0 _ 29 (.int .i64 T) hres
      have e2 := heap_setCell_same _ (w.heap.size + 1) 1 _ 29 (.slice (some ⟨g', 0, none⟩) n' cap') e1
      simpa using e2
    have hne : some (w.heap.size + 1) ≠ (Value.ownBlock (.slice (some ⟨g', 0, none⟩) n' cap')) := by intro e; have := (hmade.lt _ e.symm).1; have := HW.out.2.1; omega
    have hfin := owns_mono (base' := w.heap.size) (owns_set (owns_set hmade ⟨w.heap.size + 1, 0, none⟩ (.int .i64 T) hne) ⟨w.heap.size + 1, 1, none⟩ (.slice (some ⟨g', 0, none⟩) n' cap') hne) (by have := HW.out.2.1; omega)
    have hbf : Below w.heap.size w ((w4.setCell ⟨w.heap.size + 1, 0, none⟩ (.int .i64 T)).setCell ⟨w.heap.size + 1, 1, none⟩ (.slice (some ⟨g', 0, none⟩) n' cap')) := (hbw.setCell (by simp) _).setCell (by simp) _
    have HFIN := Lib.hid hfin
    have HBF := Lib.hid hbf
    have HBLK := Lib.hid hblk
    clear hmade hb4 hres hbw hfin hbf hblk hne
    go_wp2
    refine bodyPost_ret (results_cell_row (by rfl) _ _ (w.heap.size + 1) 29 _ (0, 0) _ (by rfl) HBLK.out Try.underlying29 rfl info24) rfl ⟨_, cs, by rw [ET.out], HCS.out, fun m hm => ?_, HBF.out⟩
    rw [hm, ET.out]
    exact HFIN.out
theorem rest_any (v1 : Value) (ps : List (Nat × Int)) (D : Int) (w : World) (hn : ps.length ≤ 8796093022207) (r1 : Reads w v1 ps) (hpos : ∀ c ∈ ps.map (·.1), 1 ≤ c) :
    Calls Try.prog 57 #[.agg #[.int .i64 D, v1]] w fun e w' =>
      ∃ v cs, e = .returned (.agg #[.int .i64 (Lab.turn 0 2 D), v]) ∧ Lab.CatsOf (ps.map (·.1)) cs ∧
        (∀ m, m = Lab.make (Lab.turn 0 2 D) cs (cs.map fun c => Lab.turn 0 2 (Lab.at' D ps c)) → w'.ownsRow w.heap.size 61 2 v m.length (F m)) ∧ Below w.heap.size w w' := by
  have C := Lib.hid (fun (w : World) (r : Reads w v1 ps) => turn_any v1 ps D 0 2 w hn r hpos)
  have R := Lib.hid r1
  clear hn r1 hpos
  go_enter Try.func57, Try.ntmps57
  go_wp2_with fail
  obtain ⟨W0, eW⟩ : ∃ W0, W0 = ((w.alloc (Obj.cells #[Value.int .i64 D, v1] 29)).alloc (Obj.cells #[Value.int .i64 0, .slice none 0 0] 29)) := ⟨_, rfl⟩
  rw [← eW]
  have hW : Below w.heap.size w W0 ∧ W0.heap.size = w.heap.size + 2 ∧ W0.heap[w.heap.size + 1]? = some (Obj.cells #[Value.int .i64 0, .slice none 0 0] 29) := by
    rw [eW]
    refine ⟨((Below.refl _ _).alloc (Nat.le_refl _) _).alloc (by simp) _, by simp, ?_⟩
    have := heap_alloc_new (w.alloc (Obj.cells #[Value.int .i64 D, v1] 29)) (Obj.cells #[Value.int .i64 0, .slice none 0 0] 29); simpa using this
  have HW := Lib.hid hW
  clear hW eW
  refine (C.out _ (R.out.below HW.out.1)).mono ?_
  rintro e w4 ⟨v, cs, rfl, hcs, hmade', hb4⟩
  have hmade := hmade' _ rfl
  clear hmade'
  have HCS := Lib.hid hcs
  have hbw : Below w.heap.size w w4 := HW.out.1.trans (hb4.mono HW.out.1.size)
  have hres : w4.heap[w.heap.size + 1]? = some (Obj.cells #[Value.int .i64 0, .slice none 0 0] 29) := by
    rw [hb4.block _ (by rw [HW.out.2.1]; omega)]; exact HW.out.2.2
  obtain ⟨T, eT⟩ : ∃ T, Lab.turn 0 2 D = T := ⟨_, rfl⟩
  have hls : (cs.map fun c => Lab.turn 0 2 (Lab.at' D ps c)) = cs.map fun c => Lab.turn 0 2 (Lab.at' D ps c) := rfl
  have HLS := Lib.hid hls
  have ET := Lib.hid eT
  rw [eT] at hmade ⊢
  clear hcs hls eT
  have hform : v = .slice none 0 0 ∨ ∃ g' n' cap', v = .slice (some ⟨g', 0, none⟩) n' cap' := by
    rcases hmade.2 with ⟨h, _⟩ | ⟨g', cap', cur, h, _⟩
    · exact .inl h
    · exact .inr ⟨_, _, _, h⟩
  rcases hform with rfl | ⟨g', n', cap', rfl⟩
  · have k0 : w4.cell? ⟨w.heap.size + 1, 0, none⟩ = some (.int .i64 0) := by rw [cell_of_row _ _ 0 _ 29 (0, 0) hres]; rfl
    have k1 : w4.cell? ⟨w.heap.size + 1, 1, none⟩ = some (.slice none 0 0) := by rw [cell_of_row _ _ 1 _ 29 (0, 0) hres]; rfl
    have f0 : w4.frozen? ⟨w.heap.size + 1, 0, none⟩ = false := frozen_of_row _ _ 0 _ 29 hres
    have f1 : w4.frozen? ⟨w.heap.size + 1, 1, none⟩ = false := frozen_of_row _ _ 1 _ 29 hres
    have hblk : ((w4.setCell ⟨w.heap.size + 1, 0, none⟩ (.int .i64 T)).setCell ⟨w.heap.size + 1, 1, none⟩ (.slice none 0 0)).heap[w.heap.size + 1]? = some (.cells #[.int .i64 T, (.slice none 0 0)] 29) := by
      have e1 := heap_setCell_same w4 (w.heap.size + 1) 0 _ 29 (.int .i64 T) hres
      have e2 := heap_setCell_same _ (w.heap.size + 1) 1 _ 29 (.slice none 0 0) e1
      simpa using e2
    have hne : some (w.heap.size + 1) ≠ (Value.ownBlock (.slice none 0 0)) := by intro e; have := (hmade.lt _ e.symm).1; have := HW.out.2.1; omega
    have hfin := owns_mono (base' := w.heap.size) (owns_set (owns_set hmade ⟨w.heap.size + 1, 0, none⟩ (.int .i64 T) hne) ⟨w.heap.size + 1, 1, none⟩ (.slice none 0 0) hne) (by have := HW.out.2.1; omega)
    have hbf : Below w.heap.size w ((w4.setCell ⟨w.heap.size + 1, 0, none⟩ (.int .i64 T)).setCell ⟨w.heap.size + 1, 1, none⟩ (.slice none 0 0)) := (hbw.setCell (by simp) _).setCell (by simp) _
    have HFIN := Lib.hid hfin
    have HBF := Lib.hid hbf
    have HBLK := Lib.hid hblk
    clear hmade hb4 hres hbw hfin hbf hblk hne
    go_wp2
    refine bodyPost_ret (results_cell_row (by rfl) _ _ (w.heap.size + 1) 29 _ (0, 0) _ (by rfl) HBLK.out Try.underlying29 rfl info24) rfl ⟨_, cs, by rw [ET.out], HCS.out, fun m hm => ?_, HBF.out⟩
    rw [hm, ET.out]
    exact HFIN.out
  · have k0 : w4.cell? ⟨w.heap.size + 1, 0, none⟩ = some (.int .i64 0) := by rw [cell_of_row _ _ 0 _ 29 (0, 0) hres]; rfl
    have k1 : w4.cell? ⟨w.heap.size + 1, 1, none⟩ = some (.slice none 0 0) := by rw [cell_of_row _ _ 1 _ 29 (0, 0) hres]; rfl
    have f0 : w4.frozen? ⟨w.heap.size + 1, 0, none⟩ = false := frozen_of_row _ _ 0 _ 29 hres
    have f1 : w4.frozen? ⟨w.heap.size + 1, 1, none⟩ = false := frozen_of_row _ _ 1 _ 29 hres
    have hblk : ((w4.setCell ⟨w.heap.size + 1, 0, none⟩ (.int .i64 T)).setCell ⟨w.heap.size + 1, 1, none⟩ (.slice (some ⟨g', 0, none⟩) n' cap')).heap[w.heap.size + 1]? = some (.cells #[.int .i64 T, (.slice (some ⟨g', 0, none⟩) n' cap')] 29) := by
      have e1 := heap_setCell_same w4 (w.heap.size + 1) 0 _ 29 (.int .i64 T) hres
      have e2 := heap_setCell_same _ (w.heap.size + 1) 1 _ 29 (.slice (some ⟨g', 0, none⟩) n' cap') e1
      simpa using e2
    have hne : some (w.heap.size + 1) ≠ (Value.ownBlock (.slice (some ⟨g', 0, none⟩) n' cap')) := by intro e; have := (hmade.lt _ e.symm).1; have := HW.out.2.1; omega
    have hfin := owns_mono (base' := w.heap.size) (owns_set (owns_set hmade ⟨w.heap.size + 1, 0, none⟩ (.int .i64 T) hne) ⟨w.heap.size + 1, 1, none⟩ (.slice (some ⟨g', 0, none⟩) n' cap') hne) (by have := HW.out.2.1; omega)
    have hbf : Below w.heap.size w ((w4.setCell ⟨w.heap.size + 1, 0, none⟩ (.int .i64 T)).setCell ⟨w.heap.size + 1, 1, none⟩ (.slice (some ⟨g', 0, none⟩) n' cap')) := (hbw.setCell (by simp) _).setCell (by simp) _
    have HFIN := Lib.hid hfin
    have HBF := Lib.hid hbf
    have HBLK := Lib.hid hblk
    clear hmade hb4 hres hbw hfin hbf hblk hne
    go_wp2
    refine bodyPost_ret (results_cell_row (by rfl) _ _ (w.heap.size + 1) 29 _ (0, 0) _ (by rfl) HBLK.out Try.underlying29 rfl info24) rfl ⟨_, cs, by rw [ET.out], HCS.out, fun m hm => ?_, HBF.out⟩
    rw [hm, ET.out]
    exact HFIN.out
theorem lower_any (v1 : Value) (ps : List (Nat × Int)) (D : Int) (w : World) (hn : ps.length ≤ 8796093022207) (r1 : Reads w v1 ps) (hpos : ∀ c ∈ ps.map (·.1), 1 ≤ c) :
    Calls Try.prog 59 #[.agg #[.int .i64 D, v1]] w fun e w' =>
      ∃ v cs, e = .returned (.agg #[.int .i64 (Lab.turn 5 0 D), v]) ∧ Lab.CatsOf (ps.map (·.1)) cs ∧
        (∀ m, m = Lab.make (Lab.turn 5 0 D) cs (cs.map fun c => Lab.turn 5 0 (Lab.at' D ps c)) → w'.ownsRow w.heap.size 61 2 v m.length (F m)) ∧ Below w.heap.size w w' := by
  have C := Lib.hid (fun (w : World) (r : Reads w v1 ps) => turn_any v1 ps D 5 0 w hn r hpos)
  have R := Lib.hid r1
  clear hn r1 hpos
  go_enter Try.func59, Try.ntmps59
  go_wp2_with fail
  obtain ⟨W0, eW⟩ : ∃ W0, W0 = ((w.alloc (Obj.cells #[Value.int .i64 D, v1] 29)).alloc (Obj.cells #[Value.int .i64 0, .slice none 0 0] 29)) := ⟨_, rfl⟩
  rw [← eW]
  have hW : Below w.heap.size w W0 ∧ W0.heap.size = w.heap.size + 2 ∧ W0.heap[w.heap.size + 1]? = some (Obj.cells #[Value.int .i64 0, .slice none 0 0] 29) := by
    rw [eW]
    refine ⟨((Below.refl _ _).alloc (Nat.le_refl _) _).alloc (by simp) _, by simp, ?_⟩
    have := heap_alloc_new (w.alloc (Obj.cells #[Value.int .i64 D, v1] 29)) (Obj.cells #[Value.int .i64 0, .slice none 0 0] 29); simpa using this
  have HW := Lib.hid hW
  clear hW eW
  refine (C.out _ (R.out.below HW.out.1)).mono ?_
  rintro e w4 ⟨v, cs, rfl, hcs, hmade', hb4⟩
  have hmade := hmade' _ rfl
  clear hmade'
  have HCS := Lib.hid hcs
  have hbw : Below w.heap.size w w4 := HW.out.1.trans (hb4.mono HW.out.1.size)
  have hres : w4.heap[w.heap.size + 1]? = some (Obj.cells #[Value.int .i64 0, .slice none 0 0] 29) := by
    rw [hb4.block _ (by rw [HW.out.2.1]; omega)]; exact HW.out.2.2
  obtain ⟨T, eT⟩ : ∃ T, Lab.turn 5 0 D = T := ⟨_, rfl⟩
  have hls : (cs.map fun c => Lab.turn 5 0 (Lab.at' D ps c)) = cs.map fun c => Lab.turn 5 0 (Lab.at' D ps c) := rfl
  have HLS := Lib.hid hls
  have ET := Lib.hid eT
  rw [eT] at hmade ⊢
  clear hcs hls eT
  have hform : v = .slice none 0 0 ∨ ∃ g' n' cap', v = .slice (some ⟨g', 0, none⟩) n' cap' := by
    rcases hmade.2 with ⟨h, _⟩ | ⟨g', cap', cur, h, _⟩
    · exact .inl h
    · exact .inr ⟨_, _, _, h⟩
  rcases hform with rfl | ⟨g', n', cap', rfl⟩
  · have k0 : w4.cell? ⟨w.heap.size + 1, 0, none⟩ = some (.int .i64 0) := by rw [cell_of_row _ _ 0 _ 29 (0, 0) hres]; rfl
    have k1 : w4.cell? ⟨w.heap.size + 1, 1, none⟩ = some (.slice none 0 0) := by rw [cell_of_row _ _ 1 _ 29 (0, 0) hres]; rfl
    have f0 : w4.frozen? ⟨w.heap.size + 1, 0, none⟩ = false := frozen_of_row _ _ 0 _ 29 hres
    have f1 : w4.frozen? ⟨w.heap.size + 1, 1, none⟩ = false := frozen_of_row _ _ 1 _ 29 hres
    have hblk : ((w4.setCell ⟨w.heap.size + 1, 0, none⟩ (.int .i64 T)).setCell ⟨w.heap.size + 1, 1, none⟩ (.slice none 0 0)).heap[w.heap.size + 1]? = some (.cells #[.int .i64 T, (.slice none 0 0)] 29) := by
      have e1 := heap_setCell_same w4 (w.heap.size + 1) 0 _ 29 (.int .i64 T) hres
      have e2 := heap_setCell_same _ (w.heap.size + 1) 1 _ 29 (.slice none 0 0) e1
      simpa using e2
    have hne : some (w.heap.size + 1) ≠ (Value.ownBlock (.slice none 0 0)) := by intro e; have := (hmade.lt _ e.symm).1; have := HW.out.2.1; omega
    have hfin := owns_mono (base' := w.heap.size) (owns_set (owns_set hmade ⟨w.heap.size + 1, 0, none⟩ (.int .i64 T) hne) ⟨w.heap.size + 1, 1, none⟩ (.slice none 0 0) hne) (by have := HW.out.2.1; omega)
    have hbf : Below w.heap.size w ((w4.setCell ⟨w.heap.size + 1, 0, none⟩ (.int .i64 T)).setCell ⟨w.heap.size + 1, 1, none⟩ (.slice none 0 0)) := (hbw.setCell (by simp) _).setCell (by simp) _
    have HFIN := Lib.hid hfin
    have HBF := Lib.hid hbf
    have HBLK := Lib.hid hblk
    clear hmade hb4 hres hbw hfin hbf hblk hne
    go_wp2
    refine bodyPost_ret (results_cell_row (by rfl) _ _ (w.heap.size + 1) 29 _ (0, 0) _ (by rfl) HBLK.out Try.underlying29 rfl info24) rfl ⟨_, cs, by rw [ET.out], HCS.out, fun m hm => ?_, HBF.out⟩
    rw [hm, ET.out]
    exact HFIN.out
  · have k0 : w4.cell? ⟨w.heap.size + 1, 0, none⟩ = some (.int .i64 0) := by rw [cell_of_row _ _ 0 _ 29 (0, 0) hres]; rfl
    have k1 : w4.cell? ⟨w.heap.size + 1, 1, none⟩ = some (.slice none 0 0) := by rw [cell_of_row _ _ 1 _ 29 (0, 0) hres]; rfl
    have f0 : w4.frozen? ⟨w.heap.size + 1, 0, none⟩ = false := frozen_of_row _ _ 0 _ 29 hres
    have f1 : w4.frozen? ⟨w.heap.size + 1, 1, none⟩ = false := frozen_of_row _ _ 1 _ 29 hres
    have hblk : ((w4.setCell ⟨w.heap.size + 1, 0, none⟩ (.int .i64 T)).setCell ⟨w.heap.size + 1, 1, none⟩ (.slice (some ⟨g', 0, none⟩) n' cap')).heap[w.heap.size + 1]? = some (.cells #[.int .i64 T, (.slice (some ⟨g', 0, none⟩) n' cap')] 29) := by
      have e1 := heap_setCell_same w4 (w.heap.size + 1) 0 _ 29 (.int .i64 T) hres
      have e2 := heap_setCell_same _ (w.heap.size + 1) 1 _ 29 (.slice (some ⟨g', 0, none⟩) n' cap') e1
      simpa using e2
    have hne : some (w.heap.size + 1) ≠ (Value.ownBlock (.slice (some ⟨g', 0, none⟩) n' cap')) := by intro e; have := (hmade.lt _ e.symm).1; have := HW.out.2.1; omega
    have hfin := owns_mono (base' := w.heap.size) (owns_set (owns_set hmade ⟨w.heap.size + 1, 0, none⟩ (.int .i64 T) hne) ⟨w.heap.size + 1, 1, none⟩ (.slice (some ⟨g', 0, none⟩) n' cap') hne) (by have := HW.out.2.1; omega)
    have hbf : Below w.heap.size w ((w4.setCell ⟨w.heap.size + 1, 0, none⟩ (.int .i64 T)).setCell ⟨w.heap.size + 1, 1, none⟩ (.slice (some ⟨g', 0, none⟩) n' cap')) := (hbw.setCell (by simp) _).setCell (by simp) _
    have HFIN := Lib.hid hfin
    have HBF := Lib.hid hbf
    have HBLK := Lib.hid hblk
    clear hmade hb4 hres hbw hfin hbf hblk hne
    go_wp2
    refine bodyPost_ret (results_cell_row (by rfl) _ _ (w.heap.size + 1) 29 _ (0, 0) _ (by rfl) HBLK.out Try.underlying29 rfl info24) rfl ⟨_, cs, by rw [ET.out], HCS.out, fun m hm => ?_, HBF.out⟩
    rw [hm, ET.out]
    exact HFIN.out
end Go.Proofs.Ytmbdglhihakkjaa
