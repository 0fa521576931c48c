import Derived.Test.YtmadldgajjgbmaaRa
namespace Go.Proofs.Ytmadldgajjgbmaa
open Go.RowKit
set_option linter.unusedVariables false
set_option linter.unusedSimpArgs false

set_option maxRecDepth 100000 in
set_option maxHeartbeats 6400000 in
theorem turn_any (v1 : Value) (ps : List (Nat × Int)) (D f t : Int) (w : World) (hn : ps.length ≤ 8796093022207) (r1 : Reads w v1 ps) (hpos : ∀ c ∈ ps.map (·.1), 1 ≤ c) :
    Calls Try.prog 40 #[.agg #[.int .i64 D, v1], .int .i64 f, .int .i64 t] w fun e w' =>
      ∃ v cs, e = .returned (.agg #[.int .i64 (Lab.turn f t D), v]) ∧ Lab.CatsOf (ps.map (·.1)) cs ∧
        (∀ m, m = Lab.make (Lab.turn f t D) cs (cs.map fun c => Lab.turn f t (Lab.at' D ps c)) → w'.ownsRow w.heap.size 80 2 v m.length (F m)) ∧ Below w.heap.size w w' := by
  have R1 := Lib.hid r1
  have HP := Lib.hid hpos
  have HN := Lib.hid hn
  clear r1 hpos hn
  go_enter Try.func40, Try.ntmps40
  go_wp2_with fail
  obtain ⟨W0, eW⟩ : ∃ W0, W0 = ((w.alloc (Obj.cells #[Value.int .i64 D, v1] 41)).alloc (Obj.cells #[Value.int .i64 0, .slice none 0 0] 41)) := ⟨_, rfl⟩
  rw [← eW]
  have hW : Below w.heap.size w W0 ∧ W0.heap.size = w.heap.size + 2 ∧ W0.heap[w.heap.size]? = some (Obj.cells #[Value.int .i64 D, v1] 41) ∧ W0.heap[w.heap.size + 1]? = some (Obj.cells #[Value.int .i64 0, .slice none 0 0] 41) := by
    rw [eW]
    refine ⟨((Below.refl _ _).alloc (Nat.le_refl _) _).alloc (by simp) _, by simp, ?_, ?_⟩
    · rw [Below.heap_alloc _ _ _ (by simp)]; exact heap_alloc_new w _
    · have := heap_alloc_new (w.alloc (Obj.cells #[Value.int .i64 D, v1] 41)) (Obj.cells #[Value.int .i64 0, .slice none 0 0] 41); simpa using this
  have HW := Lib.hid hW
  clear hW eW
  refine (cats_any v1 (.slice none 0 0) ps [] D 0 W0 (by have := HN.out; simp; omega) (R1.out.below HW.out.1) (.inl ⟨rfl, rfl⟩) (by simpa using HP.out)).mono ?_
  rintro e w1 ⟨vc, cs, rfl, hcs, hown, hb1⟩
  rw [List.append_nil] at hcs
  have HCS := Lib.hid hcs
  have HB1 := Lib.hid hb1
  have hH : w.heap.size + 2 ≤ w1.heap.size := by have := hb1.size; have := HW.out.2.1; omega
  have hS : ∀ wx, Below w1.heap.size w1 wx → wx.heap[w.heap.size]? = some (Obj.cells #[Value.int .i64 D, v1] 41) ∧ wx.heap[w.heap.size + 1]? = some (Obj.cells #[Value.int .i64 0, .slice none 0 0] 41) ∧
      Reads wx v1 ps ∧ Below w.heap.size w wx := by
    intro wx hx
    have hw2 : Below (w.heap.size + 2) W0 wx := (HB1.out.mono (by rw [HW.out.2.1]; exact Nat.le_refl _)).trans (hx.mono hH)
    have hw3 : Below w.heap.size w wx := HW.out.1.trans (hw2.mono (by omega))
    refine ⟨?_, ?_, R1.out.below hw3, hw3⟩
    · rw [hw2.block _ (by omega)]; exact HW.out.2.2.1
    · rw [hw2.block _ (by omega)]; exact HW.out.2.2.2
  have HS := Lib.hid hS
  have hlen : cs.length ≤ 8796093022207 := by have h := hcs.2.2; have := HN.out; rw [List.length_map] at h; omega
  have HRV := Lib.hid (readsV_of_owns hown (by omega))
  obtain ⟨ls, els⟩ : ∃ ls, cs.map (fun c => Lab.turn f t (Lab.at' D ps c)) = ls := ⟨_, rfl⟩
  have ELS := Lib.hid els
  clear hcs hb1 hS hown els
  obtain ⟨n, en⟩ : ∃ n, cs.length = n := ⟨_, rfl⟩
  rw [en] at hlen
  have EN := Lib.hid en
  have EL := Lib.hid (show ls.length = n by rw [← ELS.out, List.length_map, EN.out])
  clear en
  have hU : (U cs).length = n := by simp [U, EN.out]
  rcases HRV.out with ⟨rfl, hc⟩ | ⟨bc, oc, cc, rfl, hbc, _, hcc⟩
  · have hn0 : n = 0 := by rw [← hU, hc]; rfl
    subst hn0
    clear hc hU
    go_wp2_with fail
    go_loopg [8, 9] 1 (fun g out i wr => out = .slice none 0 0 ∧ i = .int .i64 0 ∧ w1 = wr)
    case atStart => exact ⟨rfl, rfl, rfl⟩
    case round =>
      obtain ⟨rfl, rfl, rfl⟩ := hrel
      have hbl := Below.refl w1.heap.size w1
      have hv : ReadsV w1 (.slice none 0 0) (V ls) := .inl ⟨rfl, by have h := EL.out; rw [List.eq_nil_of_length_eq_zero h]; rfl⟩
      have hc' : ReadsV w1 (.slice none 0 0) (U cs) := HRV.out
      have hcells := HS.out w1 hbl
      have d1 : w1.cell? ⟨w.heap.size, 0, none⟩ = some (.int .i64 D) := by rw [cell_of_row _ _ 0 _ 41 (0, 0) hcells.1]; rfl
      have HBL := Lib.hid hbl
      have C2 := Lib.hid (fun (T : Int) => make_any _ (.slice none 0 0) cs ls T w1 (by rw [EL.out, EN.out]) (by rw [EN.out]; exact hlen) hc' hv)
      have hwsz := hbl.size
      clear hcells hbl hc' hv
      by_cases hf : D = f
      · have tf : (D == f) = true := by rw [beq_iff_eq]; exact hf
        have eT : Lab.turn f t D = t := by unfold Lab.turn; rw [if_pos hf]
        have ET := Lib.hid eT
        have C3 := Lib.hid (C2.out t)
        clear eT
        clear hf
        go_wp2_with fail
        refine C3.out.mono ?_
        rintro e w4 ⟨v, rfl, hmade, hb4⟩
        have hform : v = .slice none 0 0 ∨ ∃ g' n' cap', v = .slice (some ⟨g', 0, none⟩) n' cap' := by
          rcases hmade.2 with ⟨h, _⟩ | ⟨g', cap', cur, h, _⟩
          · exact .inl h
          · exact .inr ⟨_, _, _, h⟩
        rcases hform with rfl | ⟨g', n', cap', rfl⟩
        · have hb5 := HBL.out.trans (hb4.mono hwsz)
          obtain ⟨_, hres, _, hbw⟩ := HS.out w4 hb5
          have k0 : w4.cell? ⟨w.heap.size + 1, 0, none⟩ = some (.int .i64 0) := by rw [cell_of_row _ _ 0 _ 41 (0, 0) hres]; rfl
          have k1 : w4.cell? ⟨w.heap.size + 1, 1, none⟩ = some (.slice none 0 0) := by rw [cell_of_row _ _ 1 _ 41 (0, 0) hres]; rfl
          have f0 : w4.frozen? ⟨w.heap.size + 1, 0, none⟩ = false := frozen_of_row _ _ 0 _ 41 hres
          have f1 : w4.frozen? ⟨w.heap.size + 1, 1, none⟩ = false := frozen_of_row _ _ 1 _ 41 hres
          have hblk : ((w4.setCell ⟨w.heap.size + 1, 0, none⟩ (.int .i64 t)).setCell ⟨w.heap.size + 1, 1, none⟩ (.slice none 0 0)).heap[w.heap.size + 1]? = some (.cells #[.int .i64 t, (.slice none 0 0)] 41) := by
            have e1 := heap_setCell_same w4 (w.heap.size + 1) 0 _ 41 (.int .i64 t) hres
            have e2 := heap_setCell_same _ (w.heap.size + 1) 1 _ 41 (.slice none 0 0) e1
            simpa using e2
          have hne : some (w.heap.size + 1) ≠ (Value.ownBlock (.slice none 0 0)) := by intro e; have := (hmade.lt _ e.symm).1; omega
          have hfin : ((w4.setCell ⟨w.heap.size + 1, 0, none⟩ (.int .i64 t)).setCell ⟨w.heap.size + 1, 1, none⟩ (.slice none 0 0)).ownsRow w.heap.size 80 2 (.slice none 0 0) (Lab.make t cs ls).length (F (Lab.make t cs ls)) :=
            owns_mono (owns_set (owns_set hmade _ _ hne) _ _ hne) (by omega)
          have hbf : Below w.heap.size w ((w4.setCell ⟨w.heap.size + 1, 0, none⟩ (.int .i64 t)).setCell ⟨w.heap.size + 1, 1, none⟩ (.slice none 0 0)) := (hbw.setCell (by simp) _).setCell (by simp) _
          have HFIN := Lib.hid hfin
          have HBF := Lib.hid hbf
          have HBLK := Lib.hid hblk
          clear hmade hb4 hb5 hres hbw hfin hbf hblk hne
          go_wp2
          refine bodyPost_ret (results_cell_row (by rfl) _ _ (w.heap.size + 1) 41 _ (0, 0) _ (by rfl) HBLK.out Try.underlying41 rfl info24) rfl ⟨_, cs, by rw [ET.out], HCS.out, fun m hm => ?_, HBF.out⟩
          rw [hm, ET.out, ELS.out]
          exact HFIN.out
        · have hb5 := HBL.out.trans (hb4.mono hwsz)
          obtain ⟨_, hres, _, hbw⟩ := HS.out w4 hb5
          have k0 : w4.cell? ⟨w.heap.size + 1, 0, none⟩ = some (.int .i64 0) := by rw [cell_of_row _ _ 0 _ 41 (0, 0) hres]; rfl
          have k1 : w4.cell? ⟨w.heap.size + 1, 1, none⟩ = some (.slice none 0 0) := by rw [cell_of_row _ _ 1 _ 41 (0, 0) hres]; rfl
          have f0 : w4.frozen? ⟨w.heap.size + 1, 0, none⟩ = false := frozen_of_row _ _ 0 _ 41 hres
          have f1 : w4.frozen? ⟨w.heap.size + 1, 1, none⟩ = false := frozen_of_row _ _ 1 _ 41 hres
          have hblk : ((w4.setCell ⟨w.heap.size + 1, 0, none⟩ (.int .i64 t)).setCell ⟨w.heap.size + 1, 1, none⟩ (.slice (some ⟨g', 0, none⟩) n' cap')).heap[w.heap.size + 1]? = some (.cells #[.int .i64 t, (.slice (some ⟨g', 0, none⟩) n' cap')] 41) := by
            have e1 := heap_setCell_same w4 (w.heap.size + 1) 0 _ 41 (.int .i64 t) hres
            have e2 := heap_setCell_same _ (w.heap.size + 1) 1 _ 41 (.slice (some ⟨g', 0, none⟩) n' cap') e1
            simpa using e2
          have hne : some (w.heap.size + 1) ≠ (Value.ownBlock (.slice (some ⟨g', 0, none⟩) n' cap')) := by intro e; have := (hmade.lt _ e.symm).1; omega
          have hfin : ((w4.setCell ⟨w.heap.size + 1, 0, none⟩ (.int .i64 t)).setCell ⟨w.heap.size + 1, 1, none⟩ (.slice (some ⟨g', 0, none⟩) n' cap')).ownsRow w.heap.size 80 2 (.slice (some ⟨g', 0, none⟩) n' cap') (Lab.make t cs ls).length (F (Lab.make t cs ls)) :=
            owns_mono (owns_set (owns_set hmade _ _ hne) _ _ hne) (by omega)
          have hbf : Below w.heap.size w ((w4.setCell ⟨w.heap.size + 1, 0, none⟩ (.int .i64 t)).setCell ⟨w.heap.size + 1, 1, none⟩ (.slice (some ⟨g', 0, none⟩) n' cap')) := (hbw.setCell (by simp) _).setCell (by simp) _
          have HFIN := Lib.hid hfin
          have HBF := Lib.hid hbf
          have HBLK := Lib.hid hblk
          clear hmade hb4 hb5 hres hbw hfin hbf hblk hne
          go_wp2
          refine bodyPost_ret (results_cell_row (by rfl) _ _ (w.heap.size + 1) 41 _ (0, 0) _ (by rfl) HBLK.out Try.underlying41 rfl info24) rfl ⟨_, cs, by rw [ET.out], HCS.out, fun m hm => ?_, HBF.out⟩
          rw [hm, ET.out, ELS.out]
          exact HFIN.out
      · have tf : (D == f) = false := by rw [beq_eq_false_iff_ne]; exact hf
        have eT : Lab.turn f t D = D := by unfold Lab.turn; rw [if_neg hf]
        have ET := Lib.hid eT
        have C3 := Lib.hid (C2.out D)
        clear eT
        clear hf
        go_wp2_with fail
        refine C3.out.mono ?_
        rintro e w4 ⟨v, rfl, hmade, hb4⟩
        have hform : v = .slice none 0 0 ∨ ∃ g' n' cap', v = .slice (some ⟨g', 0, none⟩) n' cap' := by
          rcases hmade.2 with ⟨h, _⟩ | ⟨g', cap', cur, h, _⟩
          · exact .inl h
          · exact .inr ⟨_, _, _, h⟩
        rcases hform with rfl | ⟨g', n', cap', rfl⟩
        · have hb5 := HBL.out.trans (hb4.mono hwsz)
          obtain ⟨_, hres, _, hbw⟩ := HS.out w4 hb5
          have k0 : w4.cell? ⟨w.heap.size + 1, 0, none⟩ = some (.int .i64 0) := by rw [cell_of_row _ _ 0 _ 41 (0, 0) hres]; rfl
          have k1 : w4.cell? ⟨w.heap.size + 1, 1, none⟩ = some (.slice none 0 0) := by rw [cell_of_row _ _ 1 _ 41 (0, 0) hres]; rfl
          have f0 : w4.frozen? ⟨w.heap.size + 1, 0, none⟩ = false := frozen_of_row _ _ 0 _ 41 hres
          have f1 : w4.frozen? ⟨w.heap.size + 1, 1, none⟩ = false := frozen_of_row _ _ 1 _ 41 hres
          have hblk : ((w4.setCell ⟨w.heap.size + 1, 0, none⟩ (.int .i64 D)).setCell ⟨w.heap.size + 1, 1, none⟩ (.slice none 0 0)).heap[w.heap.size + 1]? = some (.cells #[.int .i64 D, (.slice none 0 0)] 41) := by
            have e1 := heap_setCell_same w4 (w.heap.size + 1) 0 _ 41 (.int .i64 D) hres
            have e2 := heap_setCell_same _ (w.heap.size + 1) 1 _ 41 (.slice none 0 0) e1
            simpa using e2
          have hne : some (w.heap.size + 1) ≠ (Value.ownBlock (.slice none 0 0)) := by intro e; have := (hmade.lt _ e.symm).1; omega
          have hfin : ((w4.setCell ⟨w.heap.size + 1, 0, none⟩ (.int .i64 D)).setCell ⟨w.heap.size + 1, 1, none⟩ (.slice none 0 0)).ownsRow w.heap.size 80 2 (.slice none 0 0) (Lab.make D cs ls).length (F (Lab.make D cs ls)) :=
            owns_mono (owns_set (owns_set hmade _ _ hne) _ _ hne) (by omega)
          have hbf : Below w.heap.size w ((w4.setCell ⟨w.heap.size + 1, 0, none⟩ (.int .i64 D)).setCell ⟨w.heap.size + 1, 1, none⟩ (.slice none 0 0)) := (hbw.setCell (by simp) _).setCell (by simp) _
          have HFIN := Lib.hid hfin
          have HBF := Lib.hid hbf
          have HBLK := Lib.hid hblk
          clear hmade hb4 hb5 hres hbw hfin hbf hblk hne
          go_wp2
          refine bodyPost_ret (results_cell_row (by rfl) _ _ (w.heap.size + 1) 41 _ (0, 0) _ (by rfl) HBLK.out Try.underlying41 rfl info24) rfl ⟨_, cs, by rw [ET.out], HCS.out, fun m hm => ?_, HBF.out⟩
          rw [hm, ET.out, ELS.out]
          exact HFIN.out
        · have hb5 := HBL.out.trans (hb4.mono hwsz)
          obtain ⟨_, hres, _, hbw⟩ := HS.out w4 hb5
          have k0 : w4.cell? ⟨w.heap.size + 1, 0, none⟩ = some (.int .i64 0) := by rw [cell_of_row _ _ 0 _ 41 (0, 0) hres]; rfl
          have k1 : w4.cell? ⟨w.heap.size + 1, 1, none⟩ = some (.slice none 0 0) := by rw [cell_of_row _ _ 1 _ 41 (0, 0) hres]; rfl
          have f0 : w4.frozen? ⟨w.heap.size + 1, 0, none⟩ = false := frozen_of_row _ _ 0 _ 41 hres
          have f1 : w4.frozen? ⟨w.heap.size + 1, 1, none⟩ = false := frozen_of_row _ _ 1 _ 41 hres
          have hblk : ((w4.setCell ⟨w.heap.size + 1, 0, none⟩ (.int .i64 D)).setCell ⟨w.heap.size + 1, 1, none⟩ (.slice (some ⟨g', 0, none⟩) n' cap')).heap[w.heap.size + 1]? = some (.cells #[.int .i64 D, (.slice (some ⟨g', 0, none⟩) n' cap')] 41) := by
            have e1 := heap_setCell_same w4 (w.heap.size + 1) 0 _ 41 (.int .i64 D) hres
            have e2 := heap_setCell_same _ (w.heap.size + 1) 1 _ 41 (.slice (some ⟨g', 0, none⟩) n' cap') e1
            simpa using e2
          have hne : some (w.heap.size + 1) ≠ (Value.ownBlock (.slice (some ⟨g', 0, none⟩) n' cap')) := by intro e; have := (hmade.lt _ e.symm).1; omega
          have hfin : ((w4.setCell ⟨w.heap.size + 1, 0, none⟩ (.int .i64 D)).setCell ⟨w.heap.size + 1, 1, none⟩ (.slice (some ⟨g', 0, none⟩) n' cap')).ownsRow w.heap.size 80 2 (.slice (some ⟨g', 0, none⟩) n' cap') (Lab.make D cs ls).length (F (Lab.make D cs ls)) :=
            owns_mono (owns_set (owns_set hmade _ _ hne) _ _ hne) (by omega)
          have hbf : Below w.heap.size w ((w4.setCell ⟨w.heap.size + 1, 0, none⟩ (.int .i64 D)).setCell ⟨w.heap.size + 1, 1, none⟩ (.slice (some ⟨g', 0, none⟩) n' cap')) := (hbw.setCell (by simp) _).setCell (by simp) _
          have HFIN := Lib.hid hfin
          have HBF := Lib.hid hbf
          have HBLK := Lib.hid hblk
          clear hmade hb4 hb5 hres hbw hfin hbf hblk hne
          go_wp2
          refine bodyPost_ret (results_cell_row (by rfl) _ _ (w.heap.size + 1) 41 _ (0, 0) _ (by rfl) HBLK.out Try.underlying41 rfl info24) rfl ⟨_, cs, by rw [ET.out], HCS.out, fun m hm => ?_, HBF.out⟩
          rw [hm, ET.out, ELS.out]
          exact HFIN.out
  · rw [hU]
    have HCC := Lib.hid hcc
    clear hcc hU
    go_wp2_with fail
    go_loopg [8, 9] n (fun g out i wr => ∃ k : Nat, k ≤ n ∧ Hid (g = n - k) ∧ i = .int .i64 k ∧ Hid (wr.ownsRow w1.heap.size 3 1 out k (V (ls.take k)) ∧ Below w1.heap.size w1 wr))
    case atStart => exact ⟨0, by omega, Lib.hid (by omega), rfl, Lib.hid ⟨by rw [List.take_zero]; exact World.ownsRow_nil _ _ _ _, Below.refl _ _⟩⟩
    case round =>
      obtain ⟨k, hk, hg, rfl, hr⟩ := hrel
      by_cases hlt : k < n
      · obtain ⟨c, hc⟩ : ∃ c, cs[k]? = some c := ⟨_, List.getElem?_eq_getElem (by rw [EN.out]; exact hlt)⟩
        have hls : ls[k]? = some (Lab.turn f t (Lab.at' D ps c)) := by rw [← ELS.out, List.getElem?_map, hc]; rfl
        have hszr : w1.heap.size ≤ wr.heap.size := hr.out.2.size
        have hmk : ∀ wx, Below w1.heap.size w1 wx → wx.cell? ⟨w.heap.size, 0, none⟩ = some (.int .i64 D) ∧ wx.cell? ⟨w.heap.size, 1, none⟩ = some v1 ∧ wx.cell? ⟨bc, oc + k, none⟩ = some (.int .u32 (c : Nat)) := by
          intro wx h1
          obtain ⟨a1, a2, _⟩ := HS.out wx h1
          refine ⟨?_, ?_, ?_⟩
          · rw [cell_of_row wx _ 0 _ 41 (0, 0) a1]; rfl
          · rw [cell_of_row wx _ 1 _ 41 (0, 0) a1]; rfl
          · rw [h1.cell (p := ⟨bc, _, none⟩) hbc]; exact HCC.out k _ (by unfold U; rw [List.getElem?_map, hc]; rfl)
        obtain ⟨L1, e1⟩ : ∃ L1, Lab.at' D ps c = L1 := ⟨_, rfl⟩
        rw [e1] at hls
        have Q1 := Lib.hid (fun (wx : World) (h : Reads wx v1 ps) => e1 ▸ at_any v1 ps D c wx h)
        have HMK := Lib.hid hmk
        have HLS := Lib.hid hls
        obtain ⟨s1, s2, s5⟩ := hmk wr hr.out.2
        have hcall := Lib.hid ((Below.refl wr.heap.size wr).drew)
        have HT := Lib.hid (fun (wx : World) (h : Below wr.heap.size wr wx) => (hr.out.2.trans (h.mono hszr) : Below w1.heap.size w1 wx))
        clear hmk hls e1 hc
        go_upto_region 6 with fail
        go_region_held3 (fun w' => w'.cell? ⟨w.heap.size, 0, none⟩ = some (.int .i64 D) ∧ w'.cell? ⟨w.heap.size, 1, none⟩ = some v1 ∧ w'.cell? ⟨bc, oc + k, none⟩ = some (.int .u32 (c : Nat)))
          (first
            | exact HMK.out _ (HT.out _ hcall.out))
          (first
            | (go_at_call_of 39 (Value.agg #[Value.int .i64 D, v1])
               refine (Q1.out _ (HS.out _ (HT.out _ hcall.out)).2.2.1).mono ?_
               rintro e wq ⟨rfl, hb'⟩
               replace hcall := Lib.hid (hcall.out.trans (hb'.mono hcall.out.size))
               clear hb'))
        all_goals
          by_cases hf : L1 = f
          · have tf : (L1 == f) = true := by rw [beq_iff_eq]; exact hf
            obtain ⟨j0, hj, hy0, hy1, hy2⟩ := info_parts info3
            have hst := Lib.hid (show ls[k]? = some (t) by rw [HLS.out]; unfold Lab.turn; simp [hf])
            clear hf
            go_wp2_with (at_builtin; refine wpList_append_own _ rfl _ _ 55 rfl w1.heap.size 3 j0 (.int .i64 0) 1 8 Try.underlying55 hj hy0 hy1 hy2 rfl (by decide) _ _ _ rfl ((owns_below hr.out.1 hcall.out).alloc _) ⟨wq.heap.size, 0, none⟩ 1 1 [.int .i64 (t)] rfl rfl (one_new _ _ _) (by intro u hu; simp at hu; subst hu; rfl) (by unfold maxLen; omega) (by omega) (by have := hcall.out.size; simp; omega) ?_)
            intro v' w3 hown1 hgrow1 _
            have hfin := Lib.hid (((HT.out _ hcall.out).alloc (by have := hcall.out.size; omega) _).grown hgrow1 (by have := hcall.out.size; simp; omega) (fun k hk => (hr.out.1.lt k hk).1))
            have hlast := Lib.hid (show (V (ls.take k) ++ [.int .i64 (t)] : List Value) = V (ls.take (k + 1)) by rw [List.take_add_one, hst.out]; simp [V])
            replace hown1 := Lib.hid hown1
            clear hgrow1
            go_wp2_with fail
            go_roundg (n - (k + 1))
            case measure => rw [hg.out]; omega
            case rel => exact ⟨k + 1, by omega, Lib.hid rfl, by go_num, Lib.hid ⟨by rw [← hlast.out]; exact hown1.out, hfin.out⟩⟩
          · have tf : (L1 == f) = false := by rw [beq_eq_false_iff_ne]; exact hf
            obtain ⟨j0, hj, hy0, hy1, hy2⟩ := info_parts info3
            have hst := Lib.hid (show ls[k]? = some (L1) by rw [HLS.out]; unfold Lab.turn; simp [hf])
            clear hf
            go_wp2_with (at_builtin; refine wpList_append_own _ rfl _ _ 55 rfl w1.heap.size 3 j0 (.int .i64 0) 1 8 Try.underlying55 hj hy0 hy1 hy2 rfl (by decide) _ _ _ rfl ((owns_below hr.out.1 hcall.out).alloc _) ⟨wq.heap.size, 0, none⟩ 1 1 [.int .i64 (L1)] rfl rfl (one_new _ _ _) (by intro u hu; simp at hu; subst hu; rfl) (by unfold maxLen; omega) (by omega) (by have := hcall.out.size; simp; omega) ?_)
            intro v' w3 hown1 hgrow1 _
            have hfin := Lib.hid (((HT.out _ hcall.out).alloc (by have := hcall.out.size; omega) _).grown hgrow1 (by have := hcall.out.size; simp; omega) (fun k hk => (hr.out.1.lt k hk).1))
            have hlast := Lib.hid (show (V (ls.take k) ++ [.int .i64 (L1)] : List Value) = V (ls.take (k + 1)) by rw [List.take_add_one, hst.out]; simp [V])
            replace hown1 := Lib.hid hown1
            clear hgrow1
            go_wp2_with fail
            go_roundg (n - (k + 1))
            case measure => rw [hg.out]; omega
            case rel => exact ⟨k + 1, by omega, Lib.hid rfl, by go_num, Lib.hid ⟨by rw [← hlast.out]; exact hown1.out, hfin.out⟩⟩
      · have hkn : k = n := by omega
        subst hkn
        have hbl := hr.out.2
        have hv : ReadsV wr u8 (V ls) := by
          have h := readsV_of_owns hr.out.1 (by omega)
          rw [List.take_of_length_le (by rw [EL.out]; omega)] at h
          exact h
        have hc' : ReadsV wr (.slice (some ⟨bc, oc, none⟩) k cc) (U cs) := by
          have h := HRV.out.below hbl
          rw [show (U cs).length = k by simp [U, EN.out]] at h
          exact h
        have hcells := HS.out wr hbl
        have d1 : wr.cell? ⟨w.heap.size, 0, none⟩ = some (.int .i64 D) := by rw [cell_of_row _ _ 0 _ 41 (0, 0) hcells.1]; rfl
        have HBL := Lib.hid hbl
        have C2 := Lib.hid (fun (T : Int) => make_any _ u8 cs ls T wr (by rw [EL.out, EN.out]) (by rw [EN.out]; exact hlen) hc' hv)
        have hwsz := hbl.size
        clear hcells hbl hc' hv
        by_cases hf : D = f
        · have tf : (D == f) = true := by rw [beq_iff_eq]; exact hf
          have eT : Lab.turn f t D = t := by unfold Lab.turn; rw [if_pos hf]
          have ET := Lib.hid eT
          have C3 := Lib.hid (C2.out t)
          clear eT
          clear hf
          go_wp2_with fail
          refine C3.out.mono ?_
          rintro e w4 ⟨v, rfl, hmade, hb4⟩
          have hform : v = .slice none 0 0 ∨ ∃ g' n' cap', v = .slice (some ⟨g', 0, none⟩) n' cap' := by
            rcases hmade.2 with ⟨h, _⟩ | ⟨g', cap', cur, h, _⟩
            · exact .inl h
            · exact .inr ⟨_, _, _, h⟩
          rcases hform with rfl | ⟨g', n', cap', rfl⟩
          · have hb5 := HBL.out.trans (hb4.mono hwsz)
            obtain ⟨_, hres, _, hbw⟩ := HS.out w4 hb5
            have k0 : w4.cell? ⟨w.heap.size + 1, 0, none⟩ = some (.int .i64 0) := by rw [cell_of_row _ _ 0 _ 41 (0, 0) hres]; rfl
            have k1 : w4.cell? ⟨w.heap.size + 1, 1, none⟩ = some (.slice none 0 0) := by rw [cell_of_row _ _ 1 _ 41 (0, 0) hres]; rfl
            have f0 : w4.frozen? ⟨w.heap.size + 1, 0, none⟩ = false := frozen_of_row _ _ 0 _ 41 hres
            have f1 : w4.frozen? ⟨w.heap.size + 1, 1, none⟩ = false := frozen_of_row _ _ 1 _ 41 hres
            have hblk : ((w4.setCell ⟨w.heap.size + 1, 0, none⟩ (.int .i64 t)).setCell ⟨w.heap.size + 1, 1, none⟩ (.slice none 0 0)).heap[w.heap.size + 1]? = some (.cells #[.int .i64 t, (.slice none 0 0)] 41) := by
              have e1 := heap_setCell_same w4 (w.heap.size + 1) 0 _ 41 (.int .i64 t) hres
              have e2 := heap_setCell_same _ (w.heap.size + 1) 1 _ 41 (.slice none 0 0) e1
              simpa using e2
            have hne : some (w.heap.size + 1) ≠ (Value.ownBlock (.slice none 0 0)) := by intro e; have := (hmade.lt _ e.symm).1; omega
            have hfin : ((w4.setCell ⟨w.heap.size + 1, 0, none⟩ (.int .i64 t)).setCell ⟨w.heap.size + 1, 1, none⟩ (.slice none 0 0)).ownsRow w.heap.size 80 2 (.slice none 0 0) (Lab.make t cs ls).length (F (Lab.make t cs ls)) :=
              owns_mono (owns_set (owns_set hmade _ _ hne) _ _ hne) (by omega)
            have hbf : Below w.heap.size w ((w4.setCell ⟨w.heap.size + 1, 0, none⟩ (.int .i64 t)).setCell ⟨w.heap.size + 1, 1, none⟩ (.slice none 0 0)) := (hbw.setCell (by simp) _).setCell (by simp) _
            have HFIN := Lib.hid hfin
            have HBF := Lib.hid hbf
            have HBLK := Lib.hid hblk
            clear hmade hb4 hb5 hres hbw hfin hbf hblk hne
            go_wp2
            refine bodyPost_ret (results_cell_row (by rfl) _ _ (w.heap.size + 1) 41 _ (0, 0) _ (by rfl) HBLK.out Try.underlying41 rfl info24) rfl ⟨_, cs, by rw [ET.out], HCS.out, fun m hm => ?_, HBF.out⟩
            rw [hm, ET.out, ELS.out]
            exact HFIN.out
          · have hb5 := HBL.out.trans (hb4.mono hwsz)
            obtain ⟨_, hres, _, hbw⟩ := HS.out w4 hb5
            have k0 : w4.cell? ⟨w.heap.size + 1, 0, none⟩ = some (.int .i64 0) := by rw [cell_of_row _ _ 0 _ 41 (0, 0) hres]; rfl
            have k1 : w4.cell? ⟨w.heap.size + 1, 1, none⟩ = some (.slice none 0 0) := by rw [cell_of_row _ _ 1 _ 41 (0, 0) hres]; rfl
            have f0 : w4.frozen? ⟨w.heap.size + 1, 0, none⟩ = false := frozen_of_row _ _ 0 _ 41 hres
            have f1 : w4.frozen? ⟨w.heap.size + 1, 1, none⟩ = false := frozen_of_row _ _ 1 _ 41 hres
            have hblk : ((w4.setCell ⟨w.heap.size + 1, 0, none⟩ (.int .i64 t)).setCell ⟨w.heap.size + 1, 1, none⟩ (.slice (some ⟨g', 0, none⟩) n' cap')).heap[w.heap.size + 1]? = some (.cells #[.int .i64 t, (.slice (some ⟨g', 0, none⟩) n' cap')] 41) := by
              have e1 := heap_setCell_same w4 (w.heap.size + 1) 0 _ 41 (.int .i64 t) hres
              have e2 := heap_setCell_same _ (w.heap.size + 1) 1 _ 41 (.slice (some ⟨g', 0, none⟩) n' cap') e1
              simpa using e2
            have hne : some (w.heap.size + 1) ≠ (Value.ownBlock (.slice (some ⟨g', 0, none⟩) n' cap')) := by intro e; have := (hmade.lt _ e.symm).1; omega
            have hfin : ((w4.setCell ⟨w.heap.size + 1, 0, none⟩ (.int .i64 t)).setCell ⟨w.heap.size + 1, 1, none⟩ (.slice (some ⟨g', 0, none⟩) n' cap')).ownsRow w.heap.size 80 2 (.slice (some ⟨g', 0, none⟩) n' cap') (Lab.make t cs ls).length (F (Lab.make t cs ls)) :=
              owns_mono (owns_set (owns_set hmade _ _ hne) _ _ hne) (by omega)
            have hbf : Below w.heap.size w ((w4.setCell ⟨w.heap.size + 1, 0, none⟩ (.int .i64 t)).setCell ⟨w.heap.size + 1, 1, none⟩ (.slice (some ⟨g', 0, none⟩) n' cap')) := (hbw.setCell (by simp) _).setCell (by simp) _
            have HFIN := Lib.hid hfin
            have HBF := Lib.hid hbf
            have HBLK := Lib.hid hblk
            clear hmade hb4 hb5 hres hbw hfin hbf hblk hne
            go_wp2
            refine bodyPost_ret (results_cell_row (by rfl) _ _ (w.heap.size + 1) 41 _ (0, 0) _ (by rfl) HBLK.out Try.underlying41 rfl info24) rfl ⟨_, cs, by rw [ET.out], HCS.out, fun m hm => ?_, HBF.out⟩
            rw [hm, ET.out, ELS.out]
            exact HFIN.out
        · have tf : (D == f) = false := by rw [beq_eq_false_iff_ne]; exact hf
          have eT : Lab.turn f t D = D := by unfold Lab.turn; rw [if_neg hf]
          have ET := Lib.hid eT
          have C3 := Lib.hid (C2.out D)
          clear eT
          clear hf
          go_wp2_with fail
          refine C3.out.mono ?_
          rintro e w4 ⟨v, rfl, hmade, hb4⟩
          have hform : v = .slice none 0 0 ∨ ∃ g' n' cap', v = .slice (some ⟨g', 0, none⟩) n' cap' := by
            rcases hmade.2 with ⟨h, _⟩ | ⟨g', cap', cur, h, _⟩
            · exact .inl h
            · exact .inr ⟨_, _, _, h⟩
          rcases hform with rfl | ⟨g', n', cap', rfl⟩
          · have hb5 := HBL.out.trans (hb4.mono hwsz)
            obtain ⟨_, hres, _, hbw⟩ := HS.out w4 hb5
            have k0 : w4.cell? ⟨w.heap.size + 1, 0, none⟩ = some (.int .i64 0) := by rw [cell_of_row _ _ 0 _ 41 (0, 0) hres]; rfl
            have k1 : w4.cell? ⟨w.heap.size + 1, 1, none⟩ = some (.slice none 0 0) := by rw [cell_of_row _ _ 1 _ 41 (0, 0) hres]; rfl
            have f0 : w4.frozen? ⟨w.heap.size + 1, 0, none⟩ = false := frozen_of_row _ _ 0 _ 41 hres
            have f1 : w4.frozen? ⟨w.heap.size + 1, 1, none⟩ = false := frozen_of_row _ _ 1 _ 41 hres
            have hblk : ((w4.setCell ⟨w.heap.size + 1, 0, none⟩ (.int .i64 D)).setCell ⟨w.heap.size + 1, 1, none⟩ (.slice none 0 0)).heap[w.heap.size + 1]? = some (.cells #[.int .i64 D, (.slice none 0 0)] 41) := by
              have e1 := heap_setCell_same w4 (w.heap.size + 1) 0 _ 41 (.int .i64 D) hres
              have e2 := heap_setCell_same _ (w.heap.size + 1) 1 _ 41 (.slice none 0 0) e1
              simpa using e2
            have hne : some (w.heap.size + 1) ≠ (Value.ownBlock (.slice none 0 0)) := by intro e; have := (hmade.lt _ e.symm).1; omega
            have hfin : ((w4.setCell ⟨w.heap.size + 1, 0, none⟩ (.int .i64 D)).setCell ⟨w.heap.size + 1, 1, none⟩ (.slice none 0 0)).ownsRow w.heap.size 80 2 (.slice none 0 0) (Lab.make D cs ls).length (F (Lab.make D cs ls)) :=
              owns_mono (owns_set (owns_set hmade _ _ hne) _ _ hne) (by omega)
            have hbf : Below w.heap.size w ((w4.setCell ⟨w.heap.size + 1, 0, none⟩ (.int .i64 D)).setCell ⟨w.heap.size + 1, 1, none⟩ (.slice none 0 0)) := (hbw.setCell (by simp) _).setCell (by simp) _
            have HFIN := Lib.hid hfin
            have HBF := Lib.hid hbf
            have HBLK := Lib.hid hblk
            clear hmade hb4 hb5 hres hbw hfin hbf hblk hne
            go_wp2
            refine bodyPost_ret (results_cell_row (by rfl) _ _ (w.heap.size + 1) 41 _ (0, 0) _ (by rfl) HBLK.out Try.underlying41 rfl info24) rfl ⟨_, cs, by rw [ET.out], HCS.out, fun m hm => ?_, HBF.out⟩
            rw [hm, ET.out, ELS.out]
            exact HFIN.out
          · have hb5 := HBL.out.trans (hb4.mono hwsz)
            obtain ⟨_, hres, _, hbw⟩ := HS.out w4 hb5
            have k0 : w4.cell? ⟨w.heap.size + 1, 0, none⟩ = some (.int .i64 0) := by rw [cell_of_row _ _ 0 _ 41 (0, 0) hres]; rfl
            have k1 : w4.cell? ⟨w.heap.size + 1, 1, none⟩ = some (.slice none 0 0) := by rw [cell_of_row _ _ 1 _ 41 (0, 0) hres]; rfl
            have f0 : w4.frozen? ⟨w.heap.size + 1, 0, none⟩ = false := frozen_of_row _ _ 0 _ 41 hres
            have f1 : w4.frozen? ⟨w.heap.size + 1, 1, none⟩ = false := frozen_of_row _ _ 1 _ 41 hres
            have hblk : ((w4.setCell ⟨w.heap.size + 1, 0, none⟩ (.int .i64 D)).setCell ⟨w.heap.size + 1, 1, none⟩ (.slice (some ⟨g', 0, none⟩) n' cap')).heap[w.heap.size + 1]? = some (.cells #[.int .i64 D, (.slice (some ⟨g', 0, none⟩) n' cap')] 41) := by
              have e1 := heap_setCell_same w4 (w.heap.size + 1) 0 _ 41 (.int .i64 D) hres
              have e2 := heap_setCell_same _ (w.heap.size + 1) 1 _ 41 (.slice (some ⟨g', 0, none⟩) n' cap') e1
              simpa using e2
            have hne : some (w.heap.size + 1) ≠ (Value.ownBlock (.slice (some ⟨g', 0, none⟩) n' cap')) := by intro e; have := (hmade.lt _ e.symm).1; omega
            have hfin : ((w4.setCell ⟨w.heap.size + 1, 0, none⟩ (.int .i64 D)).setCell ⟨w.heap.size + 1, 1, none⟩ (.slice (some ⟨g', 0, none⟩) n' cap')).ownsRow w.heap.size 80 2 (.slice (some ⟨g', 0, none⟩) n' cap') (Lab.make D cs ls).length (F (Lab.make D cs ls)) :=
              owns_mono (owns_set (owns_set hmade _ _ hne) _ _ hne) (by omega)
            have hbf : Below w.heap.size w ((w4.setCell ⟨w.heap.size + 1, 0, none⟩ (.int .i64 D)).setCell ⟨w.heap.size + 1, 1, none⟩ (.slice (some ⟨g', 0, none⟩) n' cap')) := (hbw.setCell (by simp) _).setCell (by simp) _
            have HFIN := Lib.hid hfin
            have HBF := Lib.hid hbf
            have HBLK := Lib.hid hblk
            clear hmade hb4 hb5 hres hbw hfin hbf hblk hne
            go_wp2
            refine bodyPost_ret (results_cell_row (by rfl) _ _ (w.heap.size + 1) 41 _ (0, 0) _ (by rfl) HBLK.out Try.underlying41 rfl info24) rfl ⟨_, cs, by rw [ET.out], HCS.out, fun m hm => ?_, HBF.out⟩
            rw [hm, ET.out, ELS.out]
            exact HFIN.out
end Go.Proofs.Ytmadldgajjgbmaa
-- with Rm
namespace Go.Proofs.Ytmadldgajjgbmaa
open Go.RowKit
set_option linter.unusedVariables false
set_option linter.unusedSimpArgs false

theorem rest_any (v1 : Value) (ps : List (Nat × Int)) (D : Int) (w : World) (hn : ps.length ≤ 8796093022207) (r1 : Reads w v1 ps) (hpos : ∀ c ∈ ps.map (·.1), 1 ≤ c) :
    Calls Try.prog 24 #[.agg #[.int .i64 D, v1]] w fun e w' =>
      ∃ v cs, e = .returned (.agg #[.int .i64 (Lab.turn 0 2 D), v]) ∧ Lab.CatsOf (ps.map (·.1)) cs ∧
        (∀ m, m = Lab.make (Lab.turn 0 2 D) cs (cs.map fun c => Lab.turn 0 2 (Lab.at' D ps c)) → w'.ownsRow w.heap.size 80 2 v m.length (F m)) ∧ Below w.heap.size w w' := by
  have C := Lib.hid (fun (w : World) (r : Reads w v1 ps) => turn_any v1 ps D 0 2 w hn r hpos)
  have R := Lib.hid r1
  clear hn r1 hpos
  go_enter Try.func24, Try.ntmps24
  go_wp2_with fail
  obtain ⟨W0, eW⟩ : ∃ W0, W0 = ((w.alloc (Obj.cells #[Value.int .i64 D, v1] 41)).alloc (Obj.cells #[Value.int .i64 0, .slice none 0 0] 41)) := ⟨_, rfl⟩
  rw [← eW]
  have hW : Below w.heap.size w W0 ∧ W0.heap.size = w.heap.size + 2 ∧ W0.heap[w.heap.size + 1]? = some (Obj.cells #[Value.int .i64 0, .slice none 0 0] 41) := by
    rw [eW]
    refine ⟨((Below.refl _ _).alloc (Nat.le_refl _) _).alloc (by simp) _, by simp, ?_⟩
    have := heap_alloc_new (w.alloc (Obj.cells #[Value.int .i64 D, v1] 41)) (Obj.cells #[Value.int .i64 0, .slice none 0 0] 41); simpa using this
  have HW := Lib.hid hW
  clear hW eW
  refine (C.out _ (R.out.below HW.out.1)).mono ?_
  rintro e w4 ⟨v, cs, rfl, hcs, hmade', hb4⟩
  have hmade := hmade' _ rfl
  clear hmade'
  have HCS := Lib.hid hcs
  have hbw : Below w.heap.size w w4 := HW.out.1.trans (hb4.mono HW.out.1.size)
  have hres : w4.heap[w.heap.size + 1]? = some (Obj.cells #[Value.int .i64 0, .slice none 0 0] 41) := by
    rw [hb4.block _ (by rw [HW.out.2.1]; omega)]; exact HW.out.2.2
  obtain ⟨T, eT⟩ : ∃ T, Lab.turn 0 2 D = T := ⟨_, rfl⟩
  have hls : (cs.map fun c => Lab.turn 0 2 (Lab.at' D ps c)) = cs.map fun c => Lab.turn 0 2 (Lab.at' D ps c) := rfl
  have HLS := Lib.hid hls
  have ET := Lib.hid eT
  rw [eT] at hmade ⊢
  clear hcs hls eT
  have hform : v = .slice none 0 0 ∨ ∃ g' n' cap', v = .slice (some ⟨g', 0, none⟩) n' cap' := by
    rcases hmade.2 with ⟨h, _⟩ | ⟨g', cap', cur, h, _⟩
    · exact .inl h
    · exact .inr ⟨_, _, _, h⟩
  rcases hform with rfl | ⟨g', n', cap', rfl⟩
  · have k0 : w4.cell? ⟨w.heap.size + 1, 0, none⟩ = some (.int .i64 0) := by rw [cell_of_row _ _ 0 _ 41 (0, 0) hres]; rfl
    have k1 : w4.cell? ⟨w.heap.size + 1, 1, none⟩ = some (.slice none 0 0) := by rw [cell_of_row _ _ 1 _ 41 (0, 0) hres]; rfl
    have f0 : w4.frozen? ⟨w.heap.size + 1, 0, none⟩ = false := frozen_of_row _ _ 0 _ 41 hres
    have f1 : w4.frozen? ⟨w.heap.size + 1, 1, none⟩ = false := frozen_of_row _ _ 1 _ 41 hres
    have hblk : ((w4.setCell ⟨w.heap.size + 1, 0, none⟩ (.int .i64 T)).setCell ⟨w.heap.size + 1, 1, none⟩ (.slice none 0 0)).heap[w.heap.size + 1]? = some (.cells #[.int .i64 T, (.slice none 0 0)] 41) := by
      have e1 := heap_setCell_same w4 (w.heap.size + 1) 0 _ 41 (.int .i64 T) hres
      have e2 := heap_setCell_same _ (w.heap.size + 1) 1 _ 41 (.slice none 0 0) e1
      simpa using e2
    have hne : some (w.heap.size + 1) ≠ (Value.ownBlock (.slice none 0 0)) := by intro e; have := (hmade.lt _ e.symm).1; have := HW.out.2.1; omega
    have hfin := owns_mono (base' := w.heap.size) (owns_set (owns_set hmade ⟨w.heap.size + 1, 0, none⟩ (.int .i64 T) hne) ⟨w.heap.size + 1, 1, none⟩ (.slice none 0 0) hne) (by have := HW.out.2.1; omega)
    have hbf : Below w.heap.size w ((w4.setCell ⟨w.heap.size + 1, 0, none⟩ (.int .i64 T)).setCell ⟨w.heap.size + 1, 1, none⟩ (.slice none 0 0)) := (hbw.setCell (by simp) _).setCell (by simp) _
    have HFIN := Lib.hid hfin
    have HBF := Lib.hid hbf
    have HBLK := Lib.hid hblk
    clear hmade hb4 hres hbw hfin hbf hblk hne
    go_wp2
    refine bodyPost_ret (results_cell_row (by rfl) _ _ (w.heap.size + 1) 41 _ (0, 0) _ (by rfl) HBLK.out Try.underlying41 rfl info24) rfl ⟨_, cs, by rw [ET.out], HCS.out, fun m hm => ?_, HBF.out⟩
    rw [hm, ET.out]
    exact HFIN.out
  · have k0 : w4.cell? ⟨w.heap.size + 1, 0, none⟩ = some (.int .i64 0) := by rw [cell_of_row _ _ 0 _ 41 (0, 0) hres]; rfl
    have k1 : w4.cell? ⟨w.heap.size + 1, 1, none⟩ = some (.slice none 0 0) := by rw [cell_of_row _ _ 1 _ 41 (0, 0) hres]; rfl
    have f0 : w4.frozen? ⟨w.heap.size + 1, 0, none⟩ = false := frozen_of_row _ _ 0 _ 41 hres
    have f1 : w4.frozen? ⟨w.heap.size + 1, 1, none⟩ = false := frozen_of_row _ _ 1 _ 41 hres
    have hblk : ((w4.setCell ⟨w.heap.size + 1, 0, none⟩ (.int .i64 T)).setCell ⟨w.heap.size + 1, 1, none⟩ (.slice (some ⟨g', 0, none⟩) n' cap')).heap[w.heap.size + 1]? = some (.cells #[.int .i64 T, (.slice (some ⟨g', 0, none⟩) n' cap')] 41) := by
      have e1 := heap_setCell_same w4 (w.heap.size + 1) 0 _ 41 (.int .i64 T) hres
      have e2 := heap_setCell_same _ (w.heap.size + 1) 1 _ 41 (.slice (some ⟨g', 0, none⟩) n' cap') e1
      simpa using e2
    have hne : some (w.heap.size + 1) ≠ (Value.ownBlock (.slice (some ⟨g', 0, none⟩) n' cap')) := by intro e; have := (hmade.lt _ e.symm).1; have := HW.out.2.1; omega
    have hfin := owns_mono (base' := w.heap.size) (owns_set (owns_set hmade ⟨w.heap.size + 1, 0, none⟩ (.int .i64 T) hne) ⟨w.heap.size + 1, 1, none⟩ (.slice (some ⟨g', 0, none⟩) n' cap') hne) (by have := HW.out.2.1; omega)
    have hbf : Below w.heap.size w ((w4.setCell ⟨w.heap.size + 1, 0, none⟩ (.int .i64 T)).setCell ⟨w.heap.size + 1, 1, none⟩ (.slice (some ⟨g', 0, none⟩) n' cap')) := (hbw.setCell (by simp) _).setCell (by simp) _
    have HFIN := Lib.hid hfin
    have HBF := Lib.hid hbf
    have HBLK := Lib.hid hblk
    clear hmade hb4 hres hbw hfin hbf hblk hne
    go_wp2
    refine bodyPost_ret (results_cell_row (by rfl) _ _ (w.heap.size + 1) 41 _ (0, 0) _ (by rfl) HBLK.out Try.underlying41 rfl info24) rfl ⟨_, cs, by rw [ET.out], HCS.out, fun m hm => ?_, HBF.out⟩
    rw [hm, ET.out]
    exact HFIN.out
end Go.Proofs.Ytmadldgajjgbmaa
-- with Ro
namespace Go.Proofs.Ytmadldgajjgbmaa
open Go.RowKit
set_option linter.unusedVariables false
set_option linter.unusedSimpArgs false

set_option maxRecDepth 100000 in
set_option maxHeartbeats 6400000 in
theorem right_some (b off cap : Nat) (ps : List (Nat × Int)) (D : Int) (w : World) (hn : ps.length ≤ 140737488351232) (hb : b < w.heap.size)
   (hc : ∀ i p, ps[i]? = some p → w.cell? ⟨b, off + i * 2, none⟩ = some (.int .u32 p.1) ∧ w.cell? ⟨b, off + i * 2 + 1, none⟩ = some (.int .i64 p.2)) :
    Calls Try.prog 22 #[.agg #[.int .i64 D, .slice (some ⟨b, off, none⟩) ps.length cap]] w fun e w' => e = .returned (.bool (Lab.right D ps)) ∧ Below w.heap.size w w' := by
  have HC := Lib.hid hc
  clear hc
  obtain ⟨n, en⟩ : ∃ n, ps.length = n := ⟨_, rfl⟩
  have hr0 : Lab.right D ps = Lab.okTo D ps n := by rw [← en]; rfl
  have h00 : Lab.okTo D ps 0 = (decide (1 ≤ D) && decide (D ≤ 4) && decide (n ≤ 12)) := by rw [← en]; rfl
  have HR := Lib.hid hr0
  have H00 := Lib.hid h00
  rw [en] at hn ⊢
  have EN := Lib.hid en
  clear en hr0 h00
  go_enter Try.func22, Try.ntmps22
  go_upto_region 1 with fail
  obtain ⟨W0, eW⟩ : ∃ W0, W0 = w.alloc (Obj.cells #[Value.int .i64 D, .slice (some ⟨b, off, none⟩) n cap] 41) := ⟨_, rfl⟩
  have hW : Below w.heap.size w W0 ∧ W0.heap.size = w.heap.size + 1 ∧ W0.heap[w.heap.size]? = some (Obj.cells #[Value.int .i64 D, .slice (some ⟨b, off, none⟩) n cap] 41) := by
    rw [eW]; exact ⟨(Below.refl _ _).alloc (Nat.le_refl _) _, by simp, heap_alloc_new w _⟩
  have HW := Lib.hid hW
  rw [← eW]
  have d0 : W0.cell? ⟨w.heap.size, 0, none⟩ = some (.int .i64 D) := by rw [cell_of_row _ _ 0 _ 41 (0, 0) hW.2.2]; rfl
  have d1 : W0.cell? ⟨w.heap.size, 1, none⟩ = some (.slice (some ⟨b, off, none⟩) n cap) := by rw [cell_of_row _ _ 1 _ 41 (0, 0) hW.2.2]; rfl
  clear hW eW
  go_cut [3] (fun s3 wx => W0 = wx ∧ ∃ ok : Bool, Hid (ok = Lab.okTo D ps 0) ∧ s3 = .bool ok)
  case first =>
    by_cases h1 : 1 ≤ D
    · by_cases h2 : D ≤ 4
      · by_cases h3 : n ≤ 12
        · have hv := Lib.hid (show true = Lab.okTo D ps 0 by rw [H00.out]; simp [h1, h2, h3])
          have h3' : (n : Int) ≤ 12 := by omega
          go_wp2_with fail
          go_meet
          exact ⟨rfl, _, hv, rfl⟩
        · have hv := Lib.hid (show false = Lab.okTo D ps 0 by rw [H00.out]; simp [h1, h2, h3])
          have h3' : ¬ (n : Int) ≤ 12 := by omega
          go_wp2_with fail
          go_meet
          exact ⟨rfl, _, hv, rfl⟩
      · have hv := Lib.hid (show false = Lab.okTo D ps 0 by rw [H00.out]; simp [h1, h2])
        go_wp2_with fail
        go_meet
        exact ⟨rfl, _, hv, rfl⟩
    · have hv := Lib.hid (show false = Lab.okTo D ps 0 by rw [H00.out]; simp [h1])
      go_wp2_with fail
      go_meet
      exact ⟨rfl, _, hv, rfl⟩
  case rest =>
    obtain ⟨rfl, ok, hok, rfl⟩ := hcut
    go_wp2_with fail
    go_loopg [3, 4] n (fun g s3 s4 wr => ∃ (k : Nat) (ok : Bool), k ≤ n ∧ Hid (g = n - k) ∧ Hid (ok = Lab.okTo D ps k) ∧ s3 = .bool ok ∧ s4 = .int .i64 k ∧ Hid (Below (w.heap.size + 1) W0 wr))
    case atStart => exact ⟨0, ok, by omega, Lib.hid (by omega), hok, rfl, rfl, Lib.hid (Below.refl _ _)⟩
    case round =>
      obtain ⟨k, ok, hk, hg, hok, rfl, rfl, hbel⟩ := hrel
      have c0 : wr.cell? ⟨w.heap.size, 0, none⟩ = some (.int .i64 D) := by rw [hbel.out.cell (p := ⟨_, _, none⟩) (by simp)]; exact d0
      have c1 : wr.cell? ⟨w.heap.size, 1, none⟩ = some (.slice (some ⟨b, off, none⟩) n cap) := by rw [hbel.out.cell (p := ⟨_, _, none⟩) (by simp)]; exact d1
      have hsz : w.heap.size + 1 ≤ wr.heap.size := by have := hbel.out.size; have := HW.out.2.1; omega
      have hcell : ∀ i p, ps[i]? = some p → wr.cell? ⟨b, off + i * 2, none⟩ = some (.int .u32 p.1) ∧ wr.cell? ⟨b, off + i * 2 + 1, none⟩ = some (.int .i64 p.2) := by
        intro i p hp
        have h2 : Below w.heap.size w wr := HW.out.1.trans (hbel.out.mono (by omega))
        rw [h2.cell (p := ⟨b, _, none⟩) hb, h2.cell (p := ⟨b, _, none⟩) hb]
        exact HC.out i p hp
      by_cases hlt : k < n
      · obtain ⟨⟨c, l⟩, hp⟩ : ∃ p, ps[k]? = some p := ⟨_, List.getElem?_eq_getElem (by rw [EN.out]; exact hlt)⟩
        obtain ⟨x1, x2⟩ := hcell k (c, l) hp
        have hB2 := hbel.out.alloc (B := w.heap.size + 1) hsz (Obj.cells #[Value.int .u32 (c : Int), Value.int .i64 l] 80)
        go_upto_region 6 with fail
        obtain ⟨W2, eW2⟩ : ∃ W2, W2 = wr.alloc (Obj.cells #[Value.int .u32 (c : Int), Value.int .i64 l] 80) := ⟨_, rfl⟩
        rw [← eW2] at hB2 ⊢
        have hB3 : Below w.heap.size w W2 := HW.out.1.trans (hB2.mono (by omega))
        have hnew := heap_alloc_new wr (Obj.cells #[Value.int .u32 (c : Int), Value.int .i64 l] 80)
        rw [← eW2] at hnew
        have z0 : W2.cell? ⟨wr.heap.size, 0, none⟩ = some (.int .u32 (c : Int)) := by rw [cell_of_row _ _ 0 _ 80 (0, 0) hnew]; rfl
        have z1 : W2.cell? ⟨wr.heap.size, 1, none⟩ = some (.int .i64 l) := by rw [cell_of_row _ _ 1 _ 80 (0, 0) hnew]; rfl
        have b0 : W2.cell? ⟨w.heap.size, 0, none⟩ = some (.int .i64 D) := by rw [hB2.cell (p := ⟨_, _, none⟩) (by simp)]; exact d0
        have b1 : W2.cell? ⟨w.heap.size, 1, none⟩ = some (.slice (some ⟨b, off, none⟩) n cap) := by rw [hB2.cell (p := ⟨_, _, none⟩) (by simp)]; exact d1
        have HB2 := Lib.hid hB2
        have HB3 := Lib.hid hB3
        clear hB2 hB3 hnew eW2 hcell x1 x2 c0 c1
        have hstep := Lib.hid (Lab.okTo_step (D := D) hp)
        cases ok
        · have hv := Lib.hid (show Lab.okTo D ps (k + 1) = false by rw [hstep.out, ← hok.out]; simp [Lab.goodP])
          go_wp2_with fail
          go_quiet (fail)
          go_wp2_with fail
          go_roundg (n - (k + 1))
          case measure => rw [hg.out]; omega
          case rel => exact ⟨k + 1, false, by omega, Lib.hid rfl, Lib.hid hv.out.symm, rfl, by go_num, Lib.hid (below_drewN HB2.out _)⟩
        · by_cases h1 : 1 ≤ c
          · have h1i : (1 : Int) ≤ (c : Int) := by omega
            by_cases h2 : c ≤ 1073741824
            · have h2i : (c : Int) ≤ 1073741824 := by omega
              by_cases h3 : 0 ≤ l
              · by_cases h4 : l ≤ 4
                · by_cases h5 : l = D
                  · have h5b : (l != D) = false := by simp [h5]
                    have hv := Lib.hid (show Lab.okTo D ps (k + 1) = false by rw [hstep.out, ← hok.out]; simp [Lab.goodP, h5])
                    go_wp2_with fail
                    go_quiet (fail)
                    go_wp2_with fail
                    go_roundg (n - (k + 1))
                    case measure => rw [hg.out]; omega
                    case rel => exact ⟨k + 1, false, by omega, Lib.hid rfl, Lib.hid hv.out.symm, rfl, by go_num, Lib.hid (below_drewN HB2.out _)⟩
                  · have h5b : (l != D) = true := by simp [h5]
                    by_cases k0' : k = 0
                    · have k0 : ((k : Int) == 0) = true := by rw [beq_iff_eq]; omega
                      have hrise : Lab.risesAt ps (c, l) k = true := by rw [k0']; rfl
                      have hv := Lib.hid (show Lab.okTo D ps (k + 1) = true by rw [hstep.out, ← hok.out]; simp [Lab.goodP, h1, h2, h3, h4, h5, hrise])
                      clear hrise k0'
                      go_wp2_with fail
                      go_quiet (fail)
                      go_wp2_with fail
                      go_roundg (n - (k + 1))
                      case measure => rw [hg.out]; omega
                      case rel => exact ⟨k + 1, true, by omega, Lib.hid rfl, Lib.hid hv.out.symm, rfl, by go_num, Lib.hid (below_drewN HB2.out _)⟩
                    · obtain ⟨j, ej⟩ : ∃ j, k = j + 1 := ⟨k - 1, by omega⟩
                      obtain ⟨⟨q, ql⟩, hq⟩ : ∃ q, ps[j]? = some q := ⟨_, List.getElem?_eq_getElem (by rw [EN.out]; omega)⟩
                      have y1 : W2.cell? ⟨b, off + j * 2, none⟩ = some (.int .u32 q) := by rw [HB3.out.cell (p := ⟨b, _, none⟩) hb]; exact (HC.out j (q, ql) hq).1
                      have k0 : ((k : Int) == 0) = false := by rw [beq_eq_false_iff_ne]; omega
                      have hw : IntKind.i64.wrap ((k : Int) - 1) = (j : Int) := by rw [show (k : Int) - 1 = (j : Int) from by omega]; exact IntWalk.i64_in _ (by omega)
                      have hjn : (j : Int) < (n : Int) := by omega
                      have hrise : Lab.risesAt ps (c, l) k = decide (q < c) := by rw [ej]; show (match ps[j]? with | none => true | some q => decide (q.1 < c)) = _; rw [hq]
                      by_cases h6 : q < c
                      · have hv := Lib.hid (show Lab.okTo D ps (k + 1) = true by rw [hstep.out, ← hok.out]; simp [Lab.goodP, h1, h2, h3, h4, h5, hrise, h6])
                        clear hrise hq ej k0'
                        go_wp2_with fail
                        go_quiet (fail)
                        go_wp2_with fail
                        go_roundg (n - (k + 1))
                        case measure => rw [hg.out]; omega
                        case rel => exact ⟨k + 1, true, by omega, Lib.hid rfl, Lib.hid hv.out.symm, rfl, by go_num, Lib.hid (below_drewN HB2.out _)⟩
                      · have hv := Lib.hid (show Lab.okTo D ps (k + 1) = false by rw [hstep.out, ← hok.out]; simp [Lab.goodP, hrise, h6])
                        clear hrise hq ej k0'
                        go_wp2_with fail
                        go_quiet (fail)
                        go_wp2_with fail
                        go_roundg (n - (k + 1))
                        case measure => rw [hg.out]; omega
                        case rel => exact ⟨k + 1, false, by omega, Lib.hid rfl, Lib.hid hv.out.symm, rfl, by go_num, Lib.hid (below_drewN HB2.out _)⟩
                · have hv := Lib.hid (show Lab.okTo D ps (k + 1) = false by rw [hstep.out, ← hok.out]; simp [Lab.goodP, h4])
                  go_wp2_with fail
                  go_quiet (fail)
                  go_wp2_with fail
                  go_roundg (n - (k + 1))
                  case measure => rw [hg.out]; omega
                  case rel => exact ⟨k + 1, false, by omega, Lib.hid rfl, Lib.hid hv.out.symm, rfl, by go_num, Lib.hid (below_drewN HB2.out _)⟩
              · have hv := Lib.hid (show Lab.okTo D ps (k + 1) = false by rw [hstep.out, ← hok.out]; simp [Lab.goodP, h3])
                go_wp2_with fail
                go_quiet (fail)
                go_wp2_with fail
                go_roundg (n - (k + 1))
                case measure => rw [hg.out]; omega
                case rel => exact ⟨k + 1, false, by omega, Lib.hid rfl, Lib.hid hv.out.symm, rfl, by go_num, Lib.hid (below_drewN HB2.out _)⟩
            · have h2i : ¬ (c : Int) ≤ 1073741824 := by omega
              have hv := Lib.hid (show Lab.okTo D ps (k + 1) = false by rw [hstep.out, ← hok.out]; simp [Lab.goodP, h2])
              go_wp2_with fail
              go_quiet (fail)
              go_wp2_with fail
              go_roundg (n - (k + 1))
              case measure => rw [hg.out]; omega
              case rel => exact ⟨k + 1, false, by omega, Lib.hid rfl, Lib.hid hv.out.symm, rfl, by go_num, Lib.hid (below_drewN HB2.out _)⟩
          · have h1i : ¬ (1 : Int) ≤ (c : Int) := by omega
            have hv := Lib.hid (show Lab.okTo D ps (k + 1) = false by rw [hstep.out, ← hok.out]; simp [Lab.goodP, h1])
            go_wp2_with fail
            go_quiet (fail)
            go_wp2_with fail
            go_roundg (n - (k + 1))
            case measure => rw [hg.out]; omega
            case rel => exact ⟨k + 1, false, by omega, Lib.hid rfl, Lib.hid hv.out.symm, rfl, by go_num, Lib.hid (below_drewN HB2.out _)⟩
      · have hkn : k = n := by omega
        subst hkn
        clear hcell
        have hv := Lib.hid (show Lab.right D ps = ok by rw [HR.out]; exact hok.out.symm)
        go_wp2
        go_ret
        exact ⟨by rw [hv.out]; rfl, HW.out.1.trans (hbel.out.mono (by omega))⟩
theorem right_empty (D : Int) (a0 : Option Addr) (c0 : Nat) (w : World) : Calls Try.prog 22 #[.agg #[.int .i64 D, .slice a0 0 c0]] w fun e w' => e = .returned (.bool (Lab.right D [])) ∧ Below w.heap.size w w' := by
  by_cases h1 : 1 ≤ D
  · by_cases h2 : D ≤ 4
    · have hv := Lib.hid (show Lab.right D [] = true by simp [Lab.right, Lab.okTo, h1, h2])
      go_enter Try.func22, Try.ntmps22
      go_wp2
      go_loop [3, 4] (fun s3 i => s3 = .bool true ∧ i = .int .i64 0) (fun s3 i => 0)
      case atStart => exact ⟨rfl, rfl⟩
      case round =>
        obtain ⟨rfl, rfl⟩ := hrel
        go_wp2
        go_ret
        exact ⟨by rw [hv.out]; rfl, (Below.refl _ _).alloc (Nat.le_refl _) _⟩
    · have hv := Lib.hid (show Lab.right D [] = false by simp [Lab.right, Lab.okTo, h1, h2])
      go_enter Try.func22, Try.ntmps22
      go_wp2
      go_loop [3, 4] (fun s3 i => s3 = .bool false ∧ i = .int .i64 0) (fun s3 i => 0)
      case atStart => exact ⟨rfl, rfl⟩
      case round =>
        obtain ⟨rfl, rfl⟩ := hrel
        go_wp2
        go_ret
        exact ⟨by rw [hv.out]; rfl, (Below.refl _ _).alloc (Nat.le_refl _) _⟩
  · have hv := Lib.hid (show Lab.right D [] = false by simp [Lab.right, Lab.okTo, h1])
    go_enter Try.func22, Try.ntmps22
    go_wp2
    go_loop [3, 4] (fun s3 i => s3 = .bool false ∧ i = .int .i64 0) (fun s3 i => 0)
    case atStart => exact ⟨rfl, rfl⟩
    case round =>
      obtain ⟨rfl, rfl⟩ := hrel
      go_wp2
      go_ret
      exact ⟨by rw [hv.out]; rfl, (Below.refl _ _).alloc (Nat.le_refl _) _⟩
theorem right_any (v : Value) (ps : List (Nat × Int)) (D : Int) (w : World) (h : Reads w v ps) :
    Calls Try.prog 22 #[.agg #[.int .i64 D, v]] w fun e w' => e = .returned (.bool (Lab.right D ps)) ∧ Below w.heap.size w w' := by
  rcases h with ⟨rfl, rfl⟩ | ⟨b, off, cap, rfl, h2, h3, h4⟩
  · exact right_empty D _ _ w
  · exact right_some b off cap ps D w h3 h2 h4
end Go.Proofs.Ytmadldgajjgbmaa
