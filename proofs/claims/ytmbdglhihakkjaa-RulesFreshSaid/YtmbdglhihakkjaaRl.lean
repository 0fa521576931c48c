import Derived.Test.YtmbdglhihakkjaaRj
namespace Go.Proofs.Ytmbdglhihakkjaa
open Go.RowKit
set_option linter.unusedVariables false
set_option linter.unusedSimpArgs false

set_option maxRecDepth 100000 in
set_option maxHeartbeats 6400000 in
theorem turn_any (v1 : Value) (ps : List (Nat × Int)) (D f t : Int) (w : World) (hn : ps.length ≤ 8796093022207) (r1 : Reads w v1 ps) (hpos : ∀ c ∈ ps.map (·.1), 1 ≤ c) :
    Calls Try.prog 67 #[.agg #[.int .i64 D, v1], .int .i64 f, .int .i64 t] w fun e w' =>
      ∃ v cs, e = .returned (.agg #[.int .i64 (Lab.turn f t D), v]) ∧ Lab.CatsOf (ps.map (·.1)) cs ∧
        (∀ m, m = Lab.make (Lab.turn f t D) cs (cs.map fun c => Lab.turn f t (Lab.at' D ps c)) → w'.ownsRow w.heap.size 61 2 v m.length (F m)) ∧ Below w.heap.size w w' := by
  have R1 := Lib.hid r1
  have HP := Lib.hid hpos
  have HN := Lib.hid hn
  clear r1 hpos hn
  go_enter Try.func67, Try.ntmps67
  go_wp2_with fail
  obtain ⟨W0, eW⟩ : ∃ W0, W0 = ((w.alloc (Obj.cells #[Value.int .i64 D, v1] 29)).alloc (Obj.cells #[Value.int .i64 0, .slice none 0 0] 29)) := ⟨_, rfl⟩
  rw [← eW]
  have hW : Below w.heap.size w W0 ∧ W0.heap.size = w.heap.size + 2 ∧ W0.heap[w.heap.size]? = some (Obj.cells #[Value.int .i64 D, v1] 29) ∧ W0.heap[w.heap.size + 1]? = some (Obj.cells #[Value.int .i64 0, .slice none 0 0] 29) := by
    rw [eW]
    refine ⟨((Below.refl _ _).alloc (Nat.le_refl _) _).alloc (by simp) _, by simp, ?_, ?_⟩
    · rw [Below.heap_alloc _ _ _ (by simp)]; exact heap_alloc_new w _
    · have := heap_alloc_new (w.alloc (Obj.cells #[Value.int .i64 D, v1] 29)) (Obj.cells #[Value.int .i64 0, .slice none 0 0] 29); simpa using this
  have HW := Lib.hid hW
  clear hW eW
  refine (cats_any v1 (.slice none 0 0) ps [] D 0 W0 (by have := HN.out; simp; omega) (R1.out.below HW.out.1) (.inl ⟨rfl, rfl⟩) (by simpa using HP.out)).mono ?_
  rintro e w1 ⟨vc, cs, rfl, hcs, hown, hb1⟩
  rw [List.append_nil] at hcs
  have HCS := Lib.hid hcs
  have HB1 := Lib.hid hb1
  have hH : w.heap.size + 2 ≤ w1.heap.size := by have := hb1.size; have := HW.out.2.1; omega
  have hS : ∀ wx, Below w1.heap.size w1 wx → wx.heap[w.heap.size]? = some (Obj.cells #[Value.int .i64 D, v1] 29) ∧ wx.heap[w.heap.size + 1]? = some (Obj.cells #[Value.int .i64 0, .slice none 0 0] 29) ∧
      Reads wx v1 ps ∧ Below w.heap.size w wx := by
    intro wx hx
    have hw2 : Below (w.heap.size + 2) W0 wx := (HB1.out.mono (by rw [HW.out.2.1]; exact Nat.le_refl _)).trans (hx.mono hH)
    have hw3 : Below w.heap.size w wx := HW.out.1.trans (hw2.mono (by omega))
    refine ⟨?_, ?_, R1.out.below hw3, hw3⟩
    · rw [hw2.block _ (by omega)]; exact HW.out.2.2.1
    · rw [hw2.block _ (by omega)]; exact HW.out.2.2.2
  have HS := Lib.hid hS
  have hlen : cs.length ≤ 8796093022207 := by have h := hcs.2.2; have := HN.out; rw [List.length_map] at h; omega
  have HRV := Lib.hid (readsV_of_owns hown (by omega))
  obtain ⟨ls, els⟩ : ∃ ls, cs.map (fun c => Lab.turn f t (Lab.at' D ps c)) = ls := ⟨_, rfl⟩
  have ELS := Lib.hid els
  clear hcs hb1 hS hown els
  obtain ⟨n, en⟩ : ∃ n, cs.length = n := ⟨_, rfl⟩
  rw [en] at hlen
  have EN := Lib.hid en
  have EL := Lib.hid (show ls.length = n by rw [← ELS.out, List.length_map, EN.out])
  clear en
  have hU : (U cs).length = n := by simp [U, EN.out]
  rcases HRV.out with ⟨rfl, hc⟩ | ⟨bc, oc, cc, rfl, hbc, _, hcc⟩
  · have hn0 : n = 0 := by rw [← hU, hc]; rfl
    subst hn0
    clear hc hU
    go_wp2_with fail
    go_loopg [8, 9] 1 (fun g out i wr => out = .slice none 0 0 ∧ i = .int .i64 0 ∧ w1 = wr)
    case atStart => exact ⟨rfl, rfl, rfl⟩
    case round =>
      obtain ⟨rfl, rfl, rfl⟩ := hrel
      have hbl := Below.refl w1.heap.size w1
      have hv : ReadsV w1 (.slice none 0 0) (V ls) := .inl ⟨rfl, by have h := EL.out; rw [List.eq_nil_of_length_eq_zero h]; rfl⟩
      have hc' : ReadsV w1 (.slice none 0 0) (U cs) := HRV.out
      have hcells := HS.out w1 hbl
      have d1 : w1.cell? ⟨w.heap.size, 0, none⟩ = some (.int .i64 D) := by rw [cell_of_row _ _ 0 _ 29 (0, 0) hcells.1]; rfl
      have HBL := Lib.hid hbl
      have C2 := Lib.hid (fun (T : Int) => make_any _ (.slice none 0 0) cs ls T w1 (by rw [EL.out, EN.out]) (by rw [EN.out]; exact hlen) hc' hv)
      have hwsz := hbl.size
      clear hcells hbl hc' hv
      by_cases hf : D = f
      · have tf : (D == f) = true := by rw [beq_iff_eq]; exact hf
        have eT : Lab.turn f t D = t := by unfold Lab.turn; rw [if_pos hf]
        have ET := Lib.hid eT
        have C3 := Lib.hid (C2.out t)
        clear eT
        clear hf
        go_wp2_with fail
        refine C3.out.mono ?_
        rintro e w4 ⟨v, rfl, hmade, hb4⟩
        have hform : v = .slice none 0 0 ∨ ∃ g' n' cap', v = .slice (some ⟨g', 0, none⟩) n' cap' := by
          rcases hmade.2 with ⟨h, _⟩ | ⟨g', cap', cur, h, _⟩
          · exact .inl h
          · exact .inr ⟨_, _, _, h⟩
        rcases hform with rfl | ⟨g', n', cap', rfl⟩
        · have hb5 := HBL.out.trans (hb4.mono hwsz)
          obtain ⟨_, hres, _, hbw⟩ := HS.out w4 hb5
          have k0 : w4.cell? ⟨w.heap.size + 1, 0, none⟩ = some (.int .i64 0) := by rw [cell_of_row _ _ 0 _ 29 (0, 0) hres]; rfl
          have k1 : w4.cell? ⟨w.heap.size + 1, 1, none⟩ = some (.slice none 0 0) := by rw [cell_of_row _ _ 1 _ 29 (0, 0) hres]; rfl
          have f0 : w4.frozen? ⟨w.heap.size + 1, 0, none⟩ = false := frozen_of_row _ _ 0 _ 29 hres
          have f1 : w4.frozen? ⟨w.heap.size + 1, 1, none⟩ = false := frozen_of_row _ _ 1 _ 29 hres
          have hblk : ((w4.setCell ⟨w.heap.size + 1, 0, none⟩ (.int .i64 t)).setCell ⟨w.heap.size + 1, 1, none⟩ (.slice none 0 0)).heap[w.heap.size + 1]? = some (.cells #[.int .i64 t, (.slice none 0 0)] 29) := by
            have e1 := heap_setCell_same w4 (w.heap.size + 1) 0 _ 29 (.int .i64 t) hres
            have e2 := heap_setCell_same _ (w.heap.size + 1) 1 _ 29 (.slice none 0 0) e1
            simpa using e2
          have hne : some (w.heap.size + 1) ≠ (Value.ownBlock (.slice none 0 0)) := by intro e; have := (hmade.lt _ e.symm).1; omega
          have hfin : ((w4.setCell ⟨w.heap.size + 1, 0, none⟩ (.int .i64 t)).setCell ⟨w.heap.size + 1, 1, none⟩ (.slice none 0 0)).ownsRow w.heap.size 61 2 (.slice none 0 0) (Lab.make t cs ls).length (F (Lab.make t cs ls)) :=
            owns_mono (owns_set (owns_set hmade _ _ hne) _ _ hne) (by omega)
          have hbf : Below w.heap.size w ((w4.setCell ⟨w.heap.size + 1, 0, none⟩ (.int .i64 t)).setCell ⟨w.heap.size + 1, 1, none⟩ (.slice none 0 0)) := (hbw.setCell (by simp) _).setCell (by simp) _
          have HFIN := Lib.hid hfin
          have HBF := Lib.hid hbf
          have HBLK := Lib.hid hblk
          clear hmade hb4 hb5 hres hbw hfin hbf hblk hne
          go_wp2
          refine bodyPost_ret (results_cell_row (by rfl) _ _ (w.heap.size + 1) 29 _ (0, 0) _ (by rfl) HBLK.out Try.underlying29 rfl info24) rfl ⟨_, cs, by rw [ET.out], HCS.out, fun m hm => ?_, HBF.out⟩
          rw [hm, ET.out, ELS.out]
          exact HFIN.out
        · have hb5 := HBL.out.trans (hb4.mono hwsz)
          obtain ⟨_, hres, _, hbw⟩ := HS.out w4 hb5
          have k0 : w4.cell? ⟨w.heap.size + 1, 0, none⟩ = some (.int .i64 0) := by rw [cell_of_row _ _ 0 _ 29 (0, 0) hres]; rfl
          have k1 : w4.cell? ⟨w.heap.size + 1, 1, none⟩ = some (.slice none 0 0) := by rw [cell_of_row _ _ 1 _ 29 (0, 0) hres]; rfl
          have f0 : w4.frozen? ⟨w.heap.size + 1, 0, none⟩ = false := frozen_of_row _ _ 0 _ 29 hres
          have f1 : w4.frozen? ⟨w.heap.size + 1, 1, none⟩ = false := frozen_of_row _ _ 1 _ 29 hres
          have hblk : ((w4.setCell ⟨w.heap.size + 1, 0, none⟩ (.int .i64 t)).setCell ⟨w.heap.size + 1, 1, none⟩ (.slice (some ⟨g', 0, none⟩) n' cap')).heap[w.heap.size + 1]? = some (.cells #[.int .i64 t, (.slice (some ⟨g', 0, none⟩) n' cap')] 29) := by
            have e1 := heap_setCell_same w4 (w.heap.size + 1) 0 _ 29 (.int .i64 t) hres
            have e2 := heap_setCell_same _ (w.heap.size + 1) 1 _ 29 (.slice (some ⟨g', 0, none⟩) n' cap') e1
            simpa using e2
          have hne : some (w.heap.size + 1) ≠ (Value.ownBlock (.slice (some ⟨g', 0, none⟩) n' cap')) := by intro e; have := (hmade.lt _ e.symm).1; omega
          have hfin : ((w4.setCell ⟨w.heap.size + 1, 0, none⟩ (.int .i64 t)).setCell ⟨w.heap.size + 1, 1, none⟩ (.slice (some ⟨g', 0, none⟩) n' cap')).ownsRow w.heap.size 61 2 (.slice (some ⟨g', 0, none⟩) n' cap') (Lab.make t cs ls).length (F (Lab.make t cs ls)) :=
            owns_mono (owns_set (owns_set hmade _ _ hne) _ _ hne) (by omega)
          have hbf : Below w.heap.size w ((w4.setCell ⟨w.heap.size + 1, 0, none⟩ (.int .i64 t)).setCell ⟨w.heap.size + 1, 1, none⟩ (.slice (some ⟨g', 0, none⟩) n' cap')) := (hbw.setCell (by simp) _).setCell (by simp) _
          have HFIN := Lib.hid hfin
          have HBF := Lib.hid hbf
          have HBLK := Lib.hid hblk
          clear hmade hb4 hb5 hres hbw hfin hbf hblk hne
          go_wp2
          refine bodyPost_ret (results_cell_row (by rfl) _ _ (w.heap.size + 1) 29 _ (0, 0) _ (by rfl) HBLK.out Try.underlying29 rfl info24) rfl ⟨_, cs, by rw [ET.out], HCS.out, fun m hm => ?_, HBF.out⟩
          rw [hm, ET.out, ELS.out]
          exact HFIN.out
      · have tf : (D == f) = false := by rw [beq_eq_false_iff_ne]; exact hf
        have eT : Lab.turn f t D = D := by unfold Lab.turn; rw [if_neg hf]
        have ET := Lib.hid eT
        have C3 := Lib.hid (C2.out D)
        clear eT
        clear hf
        go_wp2_with fail
        refine C3.out.mono ?_
        rintro e w4 ⟨v, rfl, hmade, hb4⟩
        have hform : v = .slice none 0 0 ∨ ∃ g' n' cap', v = .slice (some ⟨g', 0, none⟩) n' cap' := by
          rcases hmade.2 with ⟨h, _⟩ | ⟨g', cap', cur, h, _⟩
          · exact .inl h
          · exact .inr ⟨_, _, _, h⟩
        rcases hform with rfl | ⟨g', n', cap', rfl⟩
        · have hb5 := HBL.out.trans (hb4.mono hwsz)
          obtain ⟨_, hres, _, hbw⟩ := HS.out w4 hb5
          have k0 : w4.cell? ⟨w.heap.size + 1, 0, none⟩ = some (.int .i64 0) := by rw [cell_of_row _ _ 0 _ 29 (0, 0) hres]; rfl
          have k1 : w4.cell? ⟨w.heap.size + 1, 1, none⟩ = some (.slice none 0 0) := by rw [cell_of_row _ _ 1 _ 29 (0, 0) hres]; rfl
          have f0 : w4.frozen? ⟨w.heap.size + 1, 0, none⟩ = false := frozen_of_row _ _ 0 _ 29 hres
          have f1 : w4.frozen? ⟨w.heap.size + 1, 1, none⟩ = false := frozen_of_row _ _ 1 _ 29 hres
          have hblk : ((w4.setCell ⟨w.heap.size + 1, 0, none⟩ (.int .i64 D)).setCell ⟨w.heap.size + 1, 1, none⟩ (.slice none 0 0)).heap[w.heap.size + 1]? = some (.cells #[.int .i64 D, (.slice none 0 0)] 29) := by
            have e1 := heap_setCell_same w4 (w.heap.size + 1) 0 _ 29 (.int .i64 D) hres
            have e2 := heap_setCell_same _ (w.heap.size + 1) 1 _ 29 (.slice none 0 0) e1
            simpa using e2
          have hne : some (w.heap.size + 1) ≠ (Value.ownBlock (.slice none 0 0)) := by intro e; have := (hmade.lt _ e.symm).1; omega
          have hfin : ((w4.setCell ⟨w.heap.size + 1, 0, none⟩ (.int .i64 D)).setCell ⟨w.heap.size + 1, 1, none⟩ (.slice none 0 0)).ownsRow w.heap.size 61 2 (.slice none 0 0) (Lab.make D cs ls).length (F (Lab.make D cs ls)) :=
            owns_mono (owns_set (owns_set hmade _ _ hne) _ _ hne) (by omega)
          have hbf : Below w.heap.size w ((w4.setCell ⟨w.heap.size + 1, 0, none⟩ (.int .i64 D)).setCell ⟨w.heap.size + 1, 1, none⟩ (.slice none 0 0)) := (hbw.setCell (by simp) _).setCell (by simp) _
          have HFIN := Lib.hid hfin
          have HBF := Lib.hid hbf
          have HBLK := Lib.hid hblk
          clear hmade hb4 hb5 hres hbw hfin hbf hblk hne
          go_wp2
          refine bodyPost_ret (results_cell_row (by rfl) _ _ (w.heap.size + 1) 29 _ (0, 0) _ (by rfl) HBLK.out Try.underlying29 rfl info24) rfl ⟨_, cs, by rw [ET.out], HCS.out, fun m hm => ?_, HBF.out⟩
          rw [hm, ET.out, ELS.out]
          exact HFIN.out
        · have hb5 := HBL.out.trans (hb4.mono hwsz)
          obtain ⟨_, hres, _, hbw⟩ := HS.out w4 hb5
          have k0 : w4.cell? ⟨w.heap.size + 1, 0, none⟩ = some (.int .i64 0) := by rw [cell_of_row _ _ 0 _ 29 (0, 0) hres]; rfl
          have k1 : w4.cell? ⟨w.heap.size + 1, 1, none⟩ = some (.slice none 0 0) := by rw [cell_of_row _ _ 1 _ 29 (0, 0) hres]; rfl
          have f0 : w4.frozen? ⟨w.heap.size + 1, 0, none⟩ = false := frozen_of_row _ _ 0 _ 29 hres
          have f1 : w4.frozen? ⟨w.heap.size + 1, 1, none⟩ = false := frozen_of_row _ _ 1 _ 29 hres
          have hblk : ((w4.setCell ⟨w.heap.size + 1, 0, none⟩ (.int .i64 D)).setCell ⟨w.heap.size + 1, 1, none⟩ (.slice (some ⟨g', 0, none⟩) n' cap')).heap[w.heap.size + 1]? = some (.cells #[.int .i64 D, (.slice (some ⟨g', 0, none⟩) n' cap')] 29) := by
            have e1 := heap_setCell_same w4 (w.heap.size + 1) 0 _ 29 (.int .i64 D) hres
            have e2 := heap_setCell_same _ (w.heap.size + 1) 1 _ 29 (.slice (some ⟨g', 0, none⟩) n' cap') e1
            simpa using e2
          have hne : some (w.heap.size + 1) ≠ (Value.ownBlock (.slice (some ⟨g', 0, none⟩) n' cap')) := by intro e; have := (hmade.lt _ e.symm).1; omega
          have hfin : ((w4.setCell ⟨w.heap.size + 1, 0, none⟩ (.int .i64 D)).setCell ⟨w.heap.size + 1, 1, none⟩ (.slice (some ⟨g', 0, none⟩) n' cap')).ownsRow w.heap.size 61 2 (.slice (some ⟨g', 0, none⟩) n' cap') (Lab.make D cs ls).length (F (Lab.make D cs ls)) :=
            owns_mono (owns_set (owns_set hmade _ _ hne) _ _ hne) (by omega)
          have hbf : Below w.heap.size w ((w4.setCell ⟨w.heap.size + 1, 0, none⟩ (.int .i64 D)).setCell ⟨w.heap.size + 1, 1, none⟩ (.slice (some ⟨g', 0, none⟩) n' cap')) := (hbw.setCell (by simp) _).setCell (by simp) _
          have HFIN := Lib.hid hfin
          have HBF := Lib.hid hbf
          have HBLK := Lib.hid hblk
          clear hmade hb4 hb5 hres hbw hfin hbf hblk hne
          go_wp2
          refine bodyPost_ret (results_cell_row (by rfl) _ _ (w.heap.size + 1) 29 _ (0, 0) _ (by rfl) HBLK.out Try.underlying29 rfl info24) rfl ⟨_, cs, by rw [ET.out], HCS.out, fun m hm => ?_, HBF.out⟩
          rw [hm, ET.out, ELS.out]
          exact HFIN.out
  · rw [hU]
    have HCC := Lib.hid hcc
    clear hcc hU
    go_wp2_with fail
    go_loopg [8, 9] n (fun g out i wr => ∃ k : Nat, k ≤ n ∧ Hid (g = n - k) ∧ i = .int .i64 k ∧ Hid (wr.ownsRow w1.heap.size 3 1 out k (V (ls.take k)) ∧ Below w1.heap.size w1 wr))
    case atStart => exact ⟨0, by omega, Lib.hid (by omega), rfl, Lib.hid ⟨by rw [List.take_zero]; exact World.ownsRow_nil _ _ _ _, Below.refl _ _⟩⟩
    case round =>
      obtain ⟨k, hk, hg, rfl, hr⟩ := hrel
      by_cases hlt : k < n
      · obtain ⟨c, hc⟩ : ∃ c, cs[k]? = some c := ⟨_, List.getElem?_eq_getElem (by rw [EN.out]; exact hlt)⟩
        have hls : ls[k]? = some (Lab.turn f t (Lab.at' D ps c)) := by rw [← ELS.out, List.getElem?_map, hc]; rfl
        have hszr : w1.heap.size ≤ wr.heap.size := hr.out.2.size
        have hmk : ∀ wx, Below w1.heap.size w1 wx → wx.cell? ⟨w.heap.size, 0, none⟩ = some (.int .i64 D) ∧ wx.cell? ⟨w.heap.size, 1, none⟩ = some v1 ∧ wx.cell? ⟨bc, oc + k, none⟩ = some (.int .u32 (c : Nat)) := by
          intro wx h1
          obtain ⟨a1, a2, _⟩ := HS.out wx h1
          refine ⟨?_, ?_, ?_⟩
          · rw [cell_of_row wx _ 0 _ 29 (0, 0) a1]; rfl
          · rw [cell_of_row wx _ 1 _ 29 (0, 0) a1]; rfl
          · rw [h1.cell (p := ⟨bc, _, none⟩) hbc]; exact HCC.out k _ (by unfold U; rw [List.getElem?_map, hc]; rfl)
        obtain ⟨L1, e1⟩ : ∃ L1, Lab.at' D ps c = L1 := ⟨_, rfl⟩
        rw [e1] at hls
        have Q1 := Lib.hid (fun (wx : World) (h : Reads wx v1 ps) => e1 ▸ at_any v1 ps D c wx h)
        have HMK := Lib.hid hmk
        have HLS := Lib.hid hls
        obtain ⟨s1, s2, s5⟩ := hmk wr hr.out.2
        have hcall := Lib.hid ((Below.refl wr.heap.size wr).drew)
        have HT := Lib.hid (fun (wx : World) (h : Below wr.heap.size wr wx) => (hr.out.2.trans (h.mono hszr) : Below w1.heap.size w1 wx))
        clear hmk hls e1 hc
        go_upto_region 6 with fail
        go_region_held3 (fun w' => w'.cell? ⟨w.heap.size, 0, none⟩ = some (.int .i64 D) ∧ w'.cell? ⟨w.heap.size, 1, none⟩ = some v1 ∧ w'.cell? ⟨bc, oc + k, none⟩ = some (.int .u32 (c : Nat)))
          (first
            | exact HMK.out _ (HT.out _ hcall.out))
          (first
            | (go_at_call_of 55 (Value.agg #[Value.int .i64 D, v1])
               refine (Q1.out _ (HS.out _ (HT.out _ hcall.out)).2.2.1).mono ?_
               rintro e wq ⟨rfl, hb'⟩
               replace hcall := Lib.hid (hcall.out.trans (hb'.mono hcall.out.size))
               clear hb'))
        all_goals
          by_cases hf : L1 = f
          · have tf : (L1 == f) = true := by rw [beq_iff_eq]; exact hf
            obtain ⟨j0, hj, hy0, hy1, hy2⟩ := info_parts info3
            have hst := Lib.hid (show ls[k]? = some (t) by rw [HLS.out]; unfold Lab.turn; simp [hf])
            clear hf
            go_wp2_with (at_builtin; refine wpList_append_own _ rfl _ _ 22 rfl w1.heap.size 3 j0 (.int .i64 0) 1 8 Try.underlying22 hj hy0 hy1 hy2 rfl (by decide) _ _ _ rfl ((owns_below hr.out.1 hcall.out).alloc _) ⟨wq.heap.size, 0, none⟩ 1 1 [.int .i64 (t)] rfl rfl (one_new _ _ _) (by intro u hu; simp at hu; subst hu; rfl) (by unfold maxLen; omega) (by omega) (by have := hcall.out.size; simp; omega) ?_)
            intro v' w3 hown1 hgrow1 _
            have hfin := Lib.hid (((HT.out _ hcall.out).alloc (by have := hcall.out.size; omega) _).grown hgrow1 (by have := hcall.out.size; simp; omega) (fun k hk => (hr.out.1.lt k hk).1))
            have hlast := Lib.hid (show (V (ls.take k) ++ [.int .i64 (t)] : List Value) = V (ls.take (k + 1)) by rw [List.take_add_one, hst.out]; simp [V])
            replace hown1 := Lib.hid hown1
            clear hgrow1
            go_wp2_with fail
            go_roundg (n - (k + 1))
            case measure => rw [hg.out]; omega
            case rel => exact ⟨k + 1, by omega, Lib.hid rfl, by go_num, Lib.hid ⟨by rw [← hlast.out]; exact hown1.out, hfin.out⟩⟩
          · have tf : (L1 == f) = false := by rw [beq_eq_false_iff_ne]; exact hf
            obtain ⟨j0, hj, hy0, hy1, hy2⟩ := info_parts info3
            have hst := Lib.hid (show ls[k]? = some (L1) by rw [HLS.out]; unfold Lab.turn; simp [hf])
            clear hf
            go_wp2_with (at_builtin; refine wpList_append_own _ rfl _ _ 22 rfl w1.heap.size 3 j0 (.int .i64 0) 1 8 Try.underlying22 hj hy0 hy1 hy2 rfl (by decide) _ _ _ rfl ((owns_below hr.out.1 hcall.out).alloc _) ⟨wq.heap.size, 0, none⟩ 1 1 [.int .i64 (L1)] rfl rfl (one_new _ _ _) (by intro u hu; simp at hu; subst hu; rfl) (by unfold maxLen; omega) (by omega) (by have := hcall.out.size; simp; omega) ?_)
            intro v' w3 hown1 hgrow1 _
            have hfin := Lib.hid (((HT.out _ hcall.out).alloc (by have := hcall.out.size; omega) _).grown hgrow1 (by have := hcall.out.size; simp; omega) (fun k hk => (hr.out.1.lt k hk).1))
            have hlast := Lib.hid (show (V (ls.take k) ++ [.int .i64 (L1)] : List Value) = V (ls.take (k + 1)) by rw [List.take_add_one, hst.out]; simp [V])
            replace hown1 := Lib.hid hown1
            clear hgrow1
            go_wp2_with fail
            go_roundg (n - (k + 1))
            case measure => rw [hg.out]; omega
            case rel => exact ⟨k + 1, by omega, Lib.hid rfl, by go_num, Lib.hid ⟨by rw [← hlast.out]; exact hown1.out, hfin.out⟩⟩
      · have hkn : k = n := by omega
        subst hkn
        have hbl := hr.out.2
        have hv : ReadsV wr u8 (V ls) := by
          have h := readsV_of_owns hr.out.1 (by omega)
          rw [List.take_of_length_le (by rw [EL.out]; omega)] at h
          exact h
        have hc' : ReadsV wr (.slice (some ⟨bc, oc, none⟩) k cc) (U cs) := by
          have h := HRV.out.below hbl
          rw [show (U cs).length = k by simp [U, EN.out]] at h
          exact h
        have hcells := HS.out wr hbl
        have d1 : wr.cell? ⟨w.heap.size, 0, none⟩ = some (.int .i64 D) := by rw [cell_of_row _ _ 0 _ 29 (0, 0) hcells.1]; rfl
        have HBL := Lib.hid hbl
        have C2 := Lib.hid (fun (T : Int) => make_any _ u8 cs ls T wr (by rw [EL.out, EN.out]) (by rw [EN.out]; exact hlen) hc' hv)
        have hwsz := hbl.size
        clear hcells hbl hc' hv
        by_cases hf : D = f
        · have tf : (D == f) = true := by rw [beq_iff_eq]; exact hf
          have eT : Lab.turn f t D = t := by unfold Lab.turn; rw [if_pos hf]
          have ET := Lib.hid eT
          have C3 := Lib.hid (C2.out t)
          clear eT
          clear hf
          go_wp2_with fail
          refine C3.out.mono ?_
          rintro e w4 ⟨v, rfl, hmade, hb4⟩
          have hform : v = .slice none 0 0 ∨ ∃ g' n' cap', v = .slice (some ⟨g', 0, none⟩) n' cap' := by
            rcases hmade.2 with ⟨h, _⟩ | ⟨g', cap', cur, h, _⟩
            · exact .inl h
            · exact .inr ⟨_, _, _, h⟩
          rcases hform with rfl | ⟨g', n', cap', rfl⟩
          · have hb5 := HBL.out.trans (hb4.mono hwsz)
            obtain ⟨_, hres, _, hbw⟩ := HS.out w4 hb5
            have k0 : w4.cell? ⟨w.heap.size + 1, 0, none⟩ = some (.int .i64 0) := by rw [cell_of_row _ _ 0 _ 29 (0, 0) hres]; rfl
            have k1 : w4.cell? ⟨w.heap.size + 1, 1, none⟩ = some (.slice none 0 0) := by rw [cell_of_row _ _ 1 _ 29 (0, 0) hres]; rfl
            have f0 : w4.frozen? ⟨w.heap.size + 1, 0, none⟩ = false := frozen_of_row _ _ 0 _ 29 hres
            have f1 : w4.frozen? ⟨w.heap.size + 1, 1, none⟩ = false := frozen_of_row _ _ 1 _ 29 hres
            have hblk : ((w4.setCell ⟨w.heap.size + 1, 0, none⟩ (.int .i64 t)).setCell ⟨w.heap.size + 1, 1, none⟩ (.slice none 0 0)).heap[w.heap.size + 1]? = some (.cells #[.int .i64 t, (.slice none 0 0)] 29) := by
              have e1 := heap_setCell_same w4 (w.heap.size + 1) 0 _ 29 (.int .i64 t) hres
              have e2 := heap_setCell_same _ (w.heap.size + 1) 1 _ 29 (.slice none 0 0) e1
              simpa using e2
            have hne : some (w.heap.size + 1) ≠ (Value.ownBlock (.slice none 0 0)) := by intro e; have := (hmade.lt _ e.symm).1; omega
            have hfin : ((w4.setCell ⟨w.heap.size + 1, 0, none⟩ (.int .i64 t)).setCell ⟨w.heap.size + 1, 1, none⟩ (.slice none 0 0)).ownsRow w.heap.size 61 2 (.slice none 0 0) (Lab.make t cs ls).length (F (Lab.make t cs ls)) :=
              owns_mono (owns_set (owns_set hmade _ _ hne) _ _ hne) (by omega)
            have hbf : Below w.heap.size w ((w4.setCell ⟨w.heap.size + 1, 0, none⟩ (.int .i64 t)).setCell ⟨w.heap.size + 1, 1, none⟩ (.slice none 0 0)) := (hbw.setCell (by simp) _).setCell (by simp) _
            have HFIN := Lib.hid hfin
            have HBF := Lib.hid hbf
            have HBLK := Lib.hid hblk
            clear hmade hb4 hb5 hres hbw hfin hbf hblk hne
            go_wp2
            refine bodyPost_ret (results_cell_row (by rfl) _ _ (w.heap.size + 1) 29 _ (0, 0) _ (by rfl) HBLK.out Try.underlying29 rfl info24) rfl ⟨_, cs, by rw [ET.out], HCS.out, fun m hm => ?_, HBF.out⟩
            rw [hm, ET.out, ELS.out]
            exact HFIN.out
          · have hb5 := HBL.out.trans (hb4.mono hwsz)
            obtain ⟨_, hres, _, hbw⟩ := HS.out w4 hb5
            have k0 : w4.cell? ⟨w.heap.size + 1, 0, none⟩ = some (.int .i64 0) := by rw [cell_of_row _ _ 0 _ 29 (0, 0) hres]; rfl
            have k1 : w4.cell? ⟨w.heap.size + 1, 1, none⟩ = some (.slice none 0 0) := by rw [cell_of_row _ _ 1 _ 29 (0, 0) hres]; rfl
            have f0 : w4.frozen? ⟨w.heap.size + 1, 0, none⟩ = false := frozen_of_row _ _ 0 _ 29 hres
            have f1 : w4.frozen? ⟨w.heap.size + 1, 1, none⟩ = false := frozen_of_row _ _ 1 _ 29 hres
            have hblk : ((w4.setCell ⟨w.heap.size + 1, 0, none⟩ (.int .i64 t)).setCell ⟨w.heap.size + 1, 1, none⟩ (.slice (some ⟨g', 0, none⟩) n' cap')).heap[w.heap.size + 1]? = some (.cells #[.int .i64 t, (.slice (some ⟨g', 0, none⟩) n' cap')] 29) := by
              have e1 := heap_setCell_same w4 (w.heap.size + 1) 0 _ 29 (.int .i64 t) hres
              have e2 := heap_setCell_same _ (w.heap.size + 1) 1 _ 29 (.slice (some ⟨g', 0, none⟩) n' cap') e1
              simpa using e2
            have hne : some (w.heap.size + 1) ≠ (Value.ownBlock (.slice (some ⟨g', 0, none⟩) n' cap')) := by intro e; have := (hmade.lt _ e.symm).1; omega
            have hfin : ((w4.setCell ⟨w.heap.size + 1, 0, none⟩ (.int .i64 t)).setCell ⟨w.heap.size + 1, 1, none⟩ (.slice (some ⟨g', 0, none⟩) n' cap')).ownsRow w.heap.size 61 2 (.slice (some ⟨g', 0, none⟩) n' cap') (Lab.make t cs ls).length (F (Lab.make t cs ls)) :=
              owns_mono (owns_set (owns_set hmade _ _ hne) _ _ hne) (by omega)
            have hbf : Below w.heap.size w ((w4.setCell ⟨w.heap.size + 1, 0, none⟩ (.int .i64 t)).setCell ⟨w.heap.size + 1, 1, none⟩ (.slice (some ⟨g', 0, none⟩) n' cap')) := (hbw.setCell (by simp) _).setCell (by simp) _
            have HFIN := Lib.hid hfin
            have HBF := Lib.hid hbf
            have HBLK := Lib.hid hblk
            clear hmade hb4 hb5 hres hbw hfin hbf hblk hne
            go_wp2
            refine bodyPost_ret (results_cell_row (by rfl) _ _ (w.heap.size + 1) 29 _ (0, 0) _ (by rfl) HBLK.out Try.underlying29 rfl info24) rfl ⟨_, cs, by rw [ET.out], HCS.out, fun m hm => ?_, HBF.out⟩
            rw [hm, ET.out, ELS.out]
            exact HFIN.out
        · have tf : (D == f) = false := by rw [beq_eq_false_iff_ne]; exact hf
          have eT : Lab.turn f t D = D := by unfold Lab.turn; rw [if_neg hf]
          have ET := Lib.hid eT
          have C3 := Lib.hid (C2.out D)
          clear eT
          clear hf
          go_wp2_with fail
          refine C3.out.mono ?_
          rintro e w4 ⟨v, rfl, hmade, hb4⟩
          have hform : v = .slice none 0 0 ∨ ∃ g' n' cap', v = .slice (some ⟨g', 0, none⟩) n' cap' := by
            rcases hmade.2 with ⟨h, _⟩ | ⟨g', cap', cur, h, _⟩
            · exact .inl h
            · exact .inr ⟨_, _, _, h⟩
          rcases hform with rfl | ⟨g', n', cap', rfl⟩
          · have hb5 := HBL.out.trans (hb4.mono hwsz)
            obtain ⟨_, hres, _, hbw⟩ := HS.out w4 hb5
            have k0 : w4.cell? ⟨w.heap.size + 1, 0, none⟩ = some (.int .i64 0) := by rw [cell_of_row _ _ 0 _ 29 (0, 0) hres]; rfl
            have k1 : w4.cell? ⟨w.heap.size + 1, 1, none⟩ = some (.slice none 0 0) := by rw [cell_of_row _ _ 1 _ 29 (0, 0) hres]; rfl
            have f0 : w4.frozen? ⟨w.heap.size + 1, 0, none⟩ = false := frozen_of_row _ _ 0 _ 29 hres
            have f1 : w4.frozen? ⟨w.heap.size + 1, 1, none⟩ = false := frozen_of_row _ _ 1 _ 29 hres
            have hblk : ((w4.setCell ⟨w.heap.size + 1, 0, none⟩ (.int .i64 D)).setCell ⟨w.heap.size + 1, 1, none⟩ (.slice none 0 0)).heap[w.heap.size + 1]? = some (.cells #[.int .i64 D, (.slice none 0 0)] 29) := by
              have e1 := heap_setCell_same w4 (w.heap.size + 1) 0 _ 29 (.int .i64 D) hres
              have e2 := heap_setCell_same _ (w.heap.size + 1) 1 _ 29 (.slice none 0 0) e1
              simpa using e2
            have hne : some (w.heap.size + 1) ≠ (Value.ownBlock (.slice none 0 0)) := by intro e; have := (hmade.lt _ e.symm).1; omega
            have hfin : ((w4.setCell ⟨w.heap.size + 1, 0, none⟩ (.int .i64 D)).setCell ⟨w.heap.size + 1, 1, none⟩ (.slice none 0 0)).ownsRow w.heap.size 61 2 (.slice none 0 0) (Lab.make D cs ls).length (F (Lab.make D cs ls)) :=
              owns_mono (owns_set (owns_set hmade _ _ hne) _ _ hne) (by omega)
            have hbf : Below w.heap.size w ((w4.setCell ⟨w.heap.size + 1, 0, none⟩ (.int .i64 D)).setCell ⟨w.heap.size + 1, 1, none⟩ (.slice none 0 0)) := (hbw.setCell (by simp) _).setCell (by simp) _
            have HFIN := Lib.hid hfin
            have HBF := Lib.hid hbf
            have HBLK := Lib.hid hblk
            clear hmade hb4 hb5 hres hbw hfin hbf hblk hne
            go_wp2
            refine bodyPost_ret (results_cell_row (by rfl) _ _ (w.heap.size + 1) 29 _ (0, 0) _ (by rfl) HBLK.out Try.underlying29 rfl info24) rfl ⟨_, cs, by rw [ET.out], HCS.out, fun m hm => ?_, HBF.out⟩
            rw [hm, ET.out, ELS.out]
            exact HFIN.out
          · have hb5 := HBL.out.trans (hb4.mono hwsz)
            obtain ⟨_, hres, _, hbw⟩ := HS.out w4 hb5
            have k0 : w4.cell? ⟨w.heap.size + 1, 0, none⟩ = some (.int .i64 0) := by rw [cell_of_row _ _ 0 _ 29 (0, 0) hres]; rfl
            have k1 : w4.cell? ⟨w.heap.size + 1, 1, none⟩ = some (.slice none 0 0) := by rw [cell_of_row _ _ 1 _ 29 (0, 0) hres]; rfl
            have f0 : w4.frozen? ⟨w.heap.size + 1, 0, none⟩ = false := frozen_of_row _ _ 0 _ 29 hres
            have f1 : w4.frozen? ⟨w.heap.size + 1, 1, none⟩ = false := frozen_of_row _ _ 1 _ 29 hres
            have hblk : ((w4.setCell ⟨w.heap.size + 1, 0, none⟩ (.int .i64 D)).setCell ⟨w.heap.size + 1, 1, none⟩ (.slice (some ⟨g', 0, none⟩) n' cap')).heap[w.heap.size + 1]? = some (.cells #[.int .i64 D, (.slice (some ⟨g', 0, none⟩) n' cap')] 29) := by
              have e1 := heap_setCell_same w4 (w.heap.size + 1) 0 _ 29 (.int .i64 D) hres
              have e2 := heap_setCell_same _ (w.heap.size + 1) 1 _ 29 (.slice (some ⟨g', 0, none⟩) n' cap') e1
              simpa using e2
            have hne : some (w.heap.size + 1) ≠ (Value.ownBlock (.slice (some ⟨g', 0, none⟩) n' cap')) := by intro e; have := (hmade.lt _ e.symm).1; omega
            have hfin : ((w4.setCell ⟨w.heap.size + 1, 0, none⟩ (.int .i64 D)).setCell ⟨w.heap.size + 1, 1, none⟩ (.slice (some ⟨g', 0, none⟩) n' cap')).ownsRow w.heap.size 61 2 (.slice (some ⟨g', 0, none⟩) n' cap') (Lab.make D cs ls).length (F (Lab.make D cs ls)) :=
              owns_mono (owns_set (owns_set hmade _ _ hne) _ _ hne) (by omega)
            have hbf : Below w.heap.size w ((w4.setCell ⟨w.heap.size + 1, 0, none⟩ (.int .i64 D)).setCell ⟨w.heap.size + 1, 1, none⟩ (.slice (some ⟨g', 0, none⟩) n' cap')) := (hbw.setCell (by simp) _).setCell (by simp) _
            have HFIN := Lib.hid hfin
            have HBF := Lib.hid hbf
            have HBLK := Lib.hid hblk
            clear hmade hb4 hb5 hres hbw hfin hbf hblk hne
            go_wp2
            refine bodyPost_ret (results_cell_row (by rfl) _ _ (w.heap.size + 1) 29 _ (0, 0) _ (by rfl) HBLK.out Try.underlying29 rfl info24) rfl ⟨_, cs, by rw [ET.out], HCS.out, fun m hm => ?_, HBF.out⟩
            rw [hm, ET.out, ELS.out]
            exact HFIN.out
end Go.Proofs.Ytmbdglhihakkjaa
