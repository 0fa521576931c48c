import Derived.Test.YtmbdglhihakkjaaRm
namespace Go.Proofs.Ytmbdglhihakkjaa
open Go.RowKit
set_option linter.unusedVariables false
set_option linter.unusedSimpArgs false

set_option maxRecDepth 100000 in
set_option maxHeartbeats 6400000 in
theorem with_any (v1 : Value) (ps : List (Nat × Int)) (D l : Int) (c0 : Nat) (w : World) (hn : ps.length ≤ 8796093022206) (r1 : Reads w v1 ps) (hpos : ∀ c ∈ ps.map (·.1), 1 ≤ c) (hc0 : 1 ≤ c0) :
    Calls Try.prog 56 #[.agg #[.int .i64 D, v1], .int .u32 c0, .int .i64 l] w fun e w' =>
      ∃ v cs, e = .returned (.agg #[.int .i64 D, v]) ∧ Lab.CatsOf ((ps ++ [(c0, (0 : Int))]).map (·.1)) cs ∧
        (∀ m, m = Lab.make D cs (cs.map fun c => if c = c0 then l else Lab.at' D ps c) → w'.ownsRow w.heap.size 61 2 v m.length (F m)) ∧ Below w.heap.size w w' := by
  have R1 := Lib.hid r1
  have HP := Lib.hid (show ∀ c ∈ (ps ++ [(c0, (0 : Int))]).map (·.1), 1 ≤ c by
    intro c hc; rw [List.map_append, List.mem_append] at hc; rcases hc with hc | hc
    · exact hpos c hc
    · simp at hc; omega)
  have HN := Lib.hid hn
  clear r1 hpos hn hc0
  go_enter Try.func56, Try.ntmps56
  go_wp2_with fail
  obtain ⟨W0, eW⟩ : ∃ W0, W0 = (((w.alloc (Obj.cells #[Value.int .i64 D, v1] 29)).alloc (Obj.cells #[Value.int .i64 0, .slice none 0 0] 29)).alloc (Obj.cells #[Value.int .u32 (c0 : Int), Value.int .i64 0] 61)) := ⟨_, rfl⟩
  rw [← eW]
  have hW : Below w.heap.size w W0 ∧ W0.heap.size = w.heap.size + 3 ∧ W0.heap[w.heap.size]? = some (Obj.cells #[Value.int .i64 D, v1] 29) ∧ W0.heap[w.heap.size + 1]? = some (Obj.cells #[Value.int .i64 0, .slice none 0 0] 29) ∧
      W0.heap[w.heap.size + 2]? = some (Obj.cells #[Value.int .u32 (c0 : Int), Value.int .i64 0] 61) := by
    rw [eW]
    refine ⟨(((Below.refl _ _).alloc (Nat.le_refl _) _).alloc (by simp) _).alloc (by simp; omega) _, by simp, ?_, ?_, ?_⟩
    · rw [Below.heap_alloc _ _ _ (by simp; omega), Below.heap_alloc _ _ _ (by simp)]; exact heap_alloc_new w _
    · rw [Below.heap_alloc _ _ _ (by simp)]; have := heap_alloc_new (w.alloc (Obj.cells #[Value.int .i64 D, v1] 29)) (Obj.cells #[Value.int .i64 0, .slice none 0 0] 29); simpa using this
    · have := heap_alloc_new ((w.alloc (Obj.cells #[Value.int .i64 D, v1] 29)).alloc (Obj.cells #[Value.int .i64 0, .slice none 0 0] 29)) (Obj.cells #[Value.int .u32 (c0 : Int), Value.int .i64 0] 61); simpa using this
  have hr2 : Reads W0 (.slice (some ⟨w.heap.size + 1 + 1, 0, none⟩) 1 1) [(c0, (0 : Int))] := by
    refine .inr ⟨w.heap.size + 1 + 1, 0, 1, rfl, by rw [hW.2.1]; omega, by simp, fun i p hp => ?_⟩
    match i, hp with
    | 0, hp =>
      simp at hp; subst hp
      constructor
      · rw [cell_of_row W0 _ _ _ 61 (0, 0) hW.2.2.2.2]; rfl
      · rw [cell_of_row W0 _ _ _ 61 (0, 0) hW.2.2.2.2]; rfl
  have HW := Lib.hid hW
  have HR2 := Lib.hid hr2
  clear hW eW hr2
  refine (cats_any v1 (.slice (some ⟨w.heap.size + 1 + 1, 0, none⟩) 1 1) ps [(c0, (0 : Int))] D 0 W0 (by have := HN.out; simp; omega) (R1.out.below HW.out.1) HR2.out HP.out).mono ?_
  rintro e w1 ⟨vc, cs, rfl, hcs, hown, hb1⟩
  have HCS := Lib.hid hcs
  have HB1 := Lib.hid hb1
  have hH : w.heap.size + 3 ≤ w1.heap.size := by have := hb1.size; have := HW.out.2.1; omega
  have hS : ∀ wx, Below w1.heap.size w1 wx → wx.heap[w.heap.size]? = some (Obj.cells #[Value.int .i64 D, v1] 29) ∧ wx.heap[w.heap.size + 1]? = some (Obj.cells #[Value.int .i64 0, .slice none 0 0] 29) ∧
      Reads wx v1 ps ∧ Below w.heap.size w wx := by
    intro wx hx
    have hw2 : Below (w.heap.size + 3) W0 wx := (HB1.out.mono (by rw [HW.out.2.1]; exact Nat.le_refl _)).trans (hx.mono hH)
    have hw3 : Below w.heap.size w wx := HW.out.1.trans (hw2.mono (by omega))
    refine ⟨?_, ?_, R1.out.below hw3, hw3⟩
    · rw [hw2.block _ (by omega)]; exact HW.out.2.2.1
    · rw [hw2.block _ (by omega)]; exact HW.out.2.2.2.1
  have HS := Lib.hid hS
  have hlen : cs.length ≤ 8796093022207 := by have h := hcs.2.2; have := HN.out; rw [List.length_map, List.length_append] at h; simp at h; omega
  have HRV := Lib.hid (readsV_of_owns hown (by omega))
  obtain ⟨ls, els⟩ : ∃ ls, cs.map (fun c => if c = c0 then l else Lab.at' D ps c) = ls := ⟨_, rfl⟩
  have ELS := Lib.hid els
  clear hcs hb1 hS hown els
  obtain ⟨n, en⟩ : ∃ n, cs.length = n := ⟨_, rfl⟩
  rw [en] at hlen
  have EN := Lib.hid en
  have EL := Lib.hid (show ls.length = n by rw [← ELS.out, List.length_map, EN.out])
  clear en
  have hU : (U cs).length = n := by simp [U, EN.out]
  rcases HRV.out with ⟨rfl, hc⟩ | ⟨bc, oc, cc, rfl, hbc, _, hcc⟩
  · have hn0 : n = 0 := by rw [← hU, hc]; rfl
    subst hn0
    clear hc hU
    go_wp2_with fail
    go_loopg [8, 9] 1 (fun g out i wr => out = .slice none 0 0 ∧ i = .int .i64 0 ∧ w1 = wr)
    case atStart => exact ⟨rfl, rfl, rfl⟩
    case round =>
      obtain ⟨rfl, rfl, rfl⟩ := hrel
      have hbl := Below.refl w1.heap.size w1
      have hv : ReadsV w1 (.slice none 0 0) (V ls) := .inl ⟨rfl, by have h := EL.out; rw [List.eq_nil_of_length_eq_zero h]; rfl⟩
      have hc' : ReadsV w1 (.slice none 0 0) (U cs) := HRV.out
      have hcells := HS.out w1 hbl
      have d1 : w1.cell? ⟨w.heap.size, 0, none⟩ = some (.int .i64 D) := by rw [cell_of_row _ _ 0 _ 29 (0, 0) hcells.1]; rfl
      have HBL := Lib.hid hbl
      have C3 := Lib.hid (make_any _ (.slice none 0 0) cs ls D w1 (by rw [EL.out, EN.out]) (by rw [EN.out]; exact hlen) hc' hv)
      have hwsz := hbl.size
      clear hcells hbl hc' hv
      go_wp2_with fail
      refine C3.out.mono ?_
      rintro e w4 ⟨v, rfl, hmade, hb4⟩
      have hform : v = .slice none 0 0 ∨ ∃ g' n' cap', v = .slice (some ⟨g', 0, none⟩) n' cap' := by
        rcases hmade.2 with ⟨h, _⟩ | ⟨g', cap', cur, h, _⟩
        · exact .inl h
        · exact .inr ⟨_, _, _, h⟩
      rcases hform with rfl | ⟨g', n', cap', rfl⟩
      · have hb5 := HBL.out.trans (hb4.mono hwsz)
        obtain ⟨_, hres, _, hbw⟩ := HS.out w4 hb5
        have k0 : w4.cell? ⟨w.heap.size + 1, 0, none⟩ = some (.int .i64 0) := by rw [cell_of_row _ _ 0 _ 29 (0, 0) hres]; rfl
        have k1 : w4.cell? ⟨w.heap.size + 1, 1, none⟩ = some (.slice none 0 0) := by rw [cell_of_row _ _ 1 _ 29 (0, 0) hres]; rfl
        have f0 : w4.frozen? ⟨w.heap.size + 1, 0, none⟩ = false := frozen_of_row _ _ 0 _ 29 hres
        have f1 : w4.frozen? ⟨w.heap.size + 1, 1, none⟩ = false := frozen_of_row _ _ 1 _ 29 hres
        have hblk : ((w4.setCell ⟨w.heap.size + 1, 0, none⟩ (.int .i64 D)).setCell ⟨w.heap.size + 1, 1, none⟩ (.slice none 0 0)).heap[w.heap.size + 1]? = some (.cells #[.int .i64 D, (.slice none 0 0)] 29) := by
          have e1 := heap_setCell_same w4 (w.heap.size + 1) 0 _ 29 (.int .i64 D) hres
          have e2 := heap_setCell_same _ (w.heap.size + 1) 1 _ 29 (.slice none 0 0) e1
          simpa using e2
        have hne : some (w.heap.size + 1) ≠ (Value.ownBlock (.slice none 0 0)) := by intro e; have := (hmade.lt _ e.symm).1; omega
        have hfin : ((w4.setCell ⟨w.heap.size + 1, 0, none⟩ (.int .i64 D)).setCell ⟨w.heap.size + 1, 1, none⟩ (.slice none 0 0)).ownsRow w.heap.size 61 2 (.slice none 0 0) (Lab.make D cs ls).length (F (Lab.make D cs ls)) :=
          owns_mono (owns_set (owns_set hmade _ _ hne) _ _ hne) (by omega)
        have hbf : Below w.heap.size w ((w4.setCell ⟨w.heap.size + 1, 0, none⟩ (.int .i64 D)).setCell ⟨w.heap.size + 1, 1, none⟩ (.slice none 0 0)) := (hbw.setCell (by simp) _).setCell (by simp) _
        have HFIN := Lib.hid hfin
        have HBF := Lib.hid hbf
        have HBLK := Lib.hid hblk
        clear hmade hb4 hb5 hres hbw hfin hbf hblk hne
        go_wp2
        refine bodyPost_ret (results_cell_row (by rfl) _ _ (w.heap.size + 1) 29 _ (0, 0) _ (by rfl) HBLK.out Try.underlying29 rfl info24) rfl ⟨_, cs, rfl, HCS.out, fun m hm => ?_, HBF.out⟩
        rw [hm, ELS.out]
        exact HFIN.out
      · have hb5 := HBL.out.trans (hb4.mono hwsz)
        obtain ⟨_, hres, _, hbw⟩ := HS.out w4 hb5
        have k0 : w4.cell? ⟨w.heap.size + 1, 0, none⟩ = some (.int .i64 0) := by rw [cell_of_row _ _ 0 _ 29 (0, 0) hres]; rfl
        have k1 : w4.cell? ⟨w.heap.size + 1, 1, none⟩ = some (.slice none 0 0) := by rw [cell_of_row _ _ 1 _ 29 (0, 0) hres]; rfl
        have f0 : w4.frozen? ⟨w.heap.size + 1, 0, none⟩ = false := frozen_of_row _ _ 0 _ 29 hres
        have f1 : w4.frozen? ⟨w.heap.size + 1, 1, none⟩ = false := frozen_of_row _ _ 1 _ 29 hres
        have hblk : ((w4.setCell ⟨w.heap.size + 1, 0, none⟩ (.int .i64 D)).setCell ⟨w.heap.size + 1, 1, none⟩ (.slice (some ⟨g', 0, none⟩) n' cap')).heap[w.heap.size + 1]? = some (.cells #[.int .i64 D, (.slice (some ⟨g', 0, none⟩) n' cap')] 29) := by
          have e1 := heap_setCell_same w4 (w.heap.size + 1) 0 _ 29 (.int .i64 D) hres
          have e2 := heap_setCell_same _ (w.heap.size + 1) 1 _ 29 (.slice (some ⟨g', 0, none⟩) n' cap') e1
          simpa using e2
        have hne : some (w.heap.size + 1) ≠ (Value.ownBlock (.slice (some ⟨g', 0, none⟩) n' cap')) := by intro e; have := (hmade.lt _ e.symm).1; omega
        have hfin : ((w4.setCell ⟨w.heap.size + 1, 0, none⟩ (.int .i64 D)).setCell ⟨w.heap.size + 1, 1, none⟩ (.slice (some ⟨g', 0, none⟩) n' cap')).ownsRow w.heap.size 61 2 (.slice (some ⟨g', 0, none⟩) n' cap') (Lab.make D cs ls).length (F (Lab.make D cs ls)) :=
          owns_mono (owns_set (owns_set hmade _ _ hne) _ _ hne) (by omega)
        have hbf : Below w.heap.size w ((w4.setCell ⟨w.heap.size + 1, 0, none⟩ (.int .i64 D)).setCell ⟨w.heap.size + 1, 1, none⟩ (.slice (some ⟨g', 0, none⟩) n' cap')) := (hbw.setCell (by simp) _).setCell (by simp) _
        have HFIN := Lib.hid hfin
        have HBF := Lib.hid hbf
        have HBLK := Lib.hid hblk
        clear hmade hb4 hb5 hres hbw hfin hbf hblk hne
        go_wp2
        refine bodyPost_ret (results_cell_row (by rfl) _ _ (w.heap.size + 1) 29 _ (0, 0) _ (by rfl) HBLK.out Try.underlying29 rfl info24) rfl ⟨_, cs, rfl, HCS.out, fun m hm => ?_, HBF.out⟩
        rw [hm, ELS.out]
        exact HFIN.out
  · rw [hU]
    have HCC := Lib.hid hcc
    clear hcc hU
    go_wp2_with fail
    go_loopg [8, 9] n (fun g out i wr => ∃ k : Nat, k ≤ n ∧ Hid (g = n - k) ∧ i = .int .i64 k ∧ Hid (wr.ownsRow w1.heap.size 3 1 out k (V (ls.take k)) ∧ Below w1.heap.size w1 wr))
    case atStart => exact ⟨0, by omega, Lib.hid (by omega), rfl, Lib.hid ⟨by rw [List.take_zero]; exact World.ownsRow_nil _ _ _ _, Below.refl _ _⟩⟩
    case round =>
      obtain ⟨k, hk, hg, rfl, hr⟩ := hrel
      by_cases hlt : k < n
      · obtain ⟨c, hc⟩ : ∃ c, cs[k]? = some c := ⟨_, List.getElem?_eq_getElem (by rw [EN.out]; exact hlt)⟩
        have hls : ls[k]? = some (if c = c0 then l else Lab.at' D ps c) := by rw [← ELS.out, List.getElem?_map, hc]; rfl
        have hszr : w1.heap.size ≤ wr.heap.size := hr.out.2.size
        have hmk : ∀ wx, Below w1.heap.size w1 wx → wx.cell? ⟨w.heap.size, 0, none⟩ = some (.int .i64 D) ∧ wx.cell? ⟨w.heap.size, 1, none⟩ = some v1 ∧ wx.cell? ⟨bc, oc + k, none⟩ = some (.int .u32 (c : Nat)) := by
          intro wx h1
          obtain ⟨a1, a2, _⟩ := HS.out wx h1
          refine ⟨?_, ?_, ?_⟩
          · rw [cell_of_row wx _ 0 _ 29 (0, 0) a1]; rfl
          · rw [cell_of_row wx _ 1 _ 29 (0, 0) a1]; rfl
          · rw [h1.cell (p := ⟨bc, _, none⟩) hbc]; exact HCC.out k _ (by unfold U; rw [List.getElem?_map, hc]; rfl)
        have HMK := Lib.hid hmk
        have HLS := Lib.hid hls
        obtain ⟨s1, s2, s5⟩ := hmk wr hr.out.2
        have HT := Lib.hid (fun (wx : World) (h : Below wr.heap.size wr wx) => (hr.out.2.trans (h.mono hszr) : Below w1.heap.size w1 wx))
        obtain ⟨L1, e1⟩ : ∃ L1, Lab.at' D ps c = L1 := ⟨_, rfl⟩
        obtain ⟨j0, hj, hy0, hy1, hy2⟩ := info_parts info3
        clear hmk hls hc
        by_cases hf : c = c0
        · have tf : ((c : Int) == (c0 : Int)) = true := by rw [beq_iff_eq]; omega
          have hst := Lib.hid (show ls[k]? = some l by rw [HLS.out, if_pos hf])
          have hcall := Lib.hid (Below.refl wr.heap.size wr)
          clear hf
          go_wp2_with (at_builtin; refine wpList_append_own _ rfl _ _ 22 rfl w1.heap.size 3 j0 (.int .i64 0) 1 8 Try.underlying22 hj hy0 hy1 hy2 rfl (by decide) _ _ _ rfl (hr.out.1.alloc _) ⟨wr.heap.size, 0, none⟩ 1 1 [.int .i64 l] rfl rfl (one_new _ _ _) (by intro u hu; simp at hu; subst hu; rfl) (by unfold maxLen; omega) (by omega) (by simp; omega) ?_)
          intro v' w3 hown1 hgrow1 _
          have hfin := Lib.hid (((HT.out _ hcall.out).alloc (by have := hcall.out.size; omega) _).grown hgrow1 (by have := hcall.out.size; simp; omega) (fun k hk => (hr.out.1.lt k hk).1))
          have hlast := Lib.hid (show (V (ls.take k) ++ [.int .i64 (l)] : List Value) = V (ls.take (k + 1)) by rw [List.take_add_one, hst.out]; simp [V])
          replace hown1 := Lib.hid hown1
          clear hgrow1
          go_wp2_with fail
          go_roundg (n - (k + 1))
          case measure => rw [hg.out]; omega
          case rel => exact ⟨k + 1, by omega, Lib.hid rfl, by go_num, Lib.hid ⟨by rw [← hlast.out]; exact hown1.out, hfin.out⟩⟩
        · have tf : ((c : Int) == (c0 : Int)) = false := by rw [beq_eq_false_iff_ne]; omega
          have hst := Lib.hid (show ls[k]? = some L1 by rw [HLS.out, if_neg hf, e1])
          have Q1 := Lib.hid (fun (wx : World) (h : Reads wx v1 ps) => e1 ▸ at_any v1 ps D c wx h)
          have hcall := Lib.hid ((Below.refl wr.heap.size wr).drew)
          clear hf e1
          go_upto_region 8 with fail
          go_region_held3 (fun w' => w'.cell? ⟨w.heap.size, 0, none⟩ = some (.int .i64 D) ∧ w'.cell? ⟨w.heap.size, 1, none⟩ = some v1 ∧ w'.cell? ⟨bc, oc + k, none⟩ = some (.int .u32 (c : Nat)))
            (first
              | exact HMK.out _ hfin.out
              | exact HMK.out _ (HT.out _ hcall.out)
              | exact HMK.out _ (HT.out _ (hcall.out.alloc hcall.out.size _)))
            (first
              | (go_at_call_of 55 (Value.agg #[Value.int .i64 D, v1])
                 refine (Q1.out _ (HS.out _ (HT.out _ hcall.out)).2.2.1).mono ?_
                 rintro e wq ⟨rfl, hb'⟩
                 replace hcall := Lib.hid (hcall.out.trans (hb'.mono hcall.out.size))
                 clear hb')
              | (refine step_append_own _ (by rfl) _ _ _ (by rfl) w1.heap.size 3 j0 _ 1 8 Try.underlying22 hj hy0 hy1 hy2 rfl (by omega) u8 k _ (by rfl) ((owns_below hr.out.1 hcall.out).alloc _)
                  ⟨wq.heap.size, 0, none⟩ 1 1 [.int .i64 L1] (by rfl) (by rfl) (one_new _ _ _) (by simp [Value.oneCell']) (by unfold maxLen; omega) (by omega) (by have := hcall.out.size; simp; omega) ?_
                 intro v' w3 hown1 hgrow1 _
                 have hfin := Lib.hid (((HT.out _ hcall.out).alloc (by have := hcall.out.size; omega) _).grown hgrow1 (by have := hcall.out.size; simp; omega) (fun k hk => (hr.out.1.lt k hk).1))
                 have hlast := Lib.hid (show (V (ls.take k) ++ [.int .i64 (L1)] : List Value) = V (ls.take (k + 1)) by rw [List.take_add_one, hst.out]; simp [V])
                 replace hown1 := Lib.hid hown1
                 clear hgrow1))
          all_goals
            go_wp2_with fail
            go_roundg (n - (k + 1))
            case measure => rw [hg.out]; omega
            case rel => exact ⟨k + 1, by omega, Lib.hid rfl, by go_num, Lib.hid ⟨by rw [← hlast.out]; exact hown1.out, hfin.out⟩⟩
      · have hkn : k = n := by omega
        subst hkn
        have hbl := hr.out.2
        have hv : ReadsV wr u8 (V ls) := by
          have h := readsV_of_owns hr.out.1 (by omega)
          rw [List.take_of_length_le (by rw [EL.out]; omega)] at h
          exact h
        have hc' : ReadsV wr (.slice (some ⟨bc, oc, none⟩) k cc) (U cs) := by
          have h := HRV.out.below hbl
          rw [show (U cs).length = k by simp [U, EN.out]] at h
          exact h
        have hcells := HS.out wr hbl
        have d1 : wr.cell? ⟨w.heap.size, 0, none⟩ = some (.int .i64 D) := by rw [cell_of_row _ _ 0 _ 29 (0, 0) hcells.1]; rfl
        have HBL := Lib.hid hbl
        have C3 := Lib.hid (make_any _ u8 cs ls D wr (by rw [EL.out, EN.out]) (by rw [EN.out]; exact hlen) hc' hv)
        have hwsz := hbl.size
        clear hcells hbl hc' hv
        go_wp2_with fail
        refine C3.out.mono ?_
        rintro e w4 ⟨v, rfl, hmade, hb4⟩
        have hform : v = .slice none 0 0 ∨ ∃ g' n' cap', v = .slice (some ⟨g', 0, none⟩) n' cap' := by
          rcases hmade.2 with ⟨h, _⟩ | ⟨g', cap', cur, h, _⟩
          · exact .inl h
          · exact .inr ⟨_, _, _, h⟩
        rcases hform with rfl | ⟨g', n', cap', rfl⟩
        · have hb5 := HBL.out.trans (hb4.mono hwsz)
          obtain ⟨_, hres, _, hbw⟩ := HS.out w4 hb5
          have k0 : w4.cell? ⟨w.heap.size + 1, 0, none⟩ = some (.int .i64 0) := by rw [cell_of_row _ _ 0 _ 29 (0, 0) hres]; rfl
          have k1 : w4.cell? ⟨w.heap.size + 1, 1, none⟩ = some (.slice none 0 0) := by rw [cell_of_row _ _ 1 _ 29 (0, 0) hres]; rfl
          have f0 : w4.frozen? ⟨w.heap.size + 1, 0, none⟩ = false := frozen_of_row _ _ 0 _ 29 hres
          have f1 : w4.frozen? ⟨w.heap.size + 1, 1, none⟩ = false := frozen_of_row _ _ 1 _ 29 hres
          have hblk : ((w4.setCell ⟨w.heap.size + 1, 0, none⟩ (.int .i64 D)).setCell ⟨w.heap.size + 1, 1, none⟩ (.slice none 0 0)).heap[w.heap.size + 1]? = some (.cells #[.int .i64 D, (.slice none 0 0)] 29) := by
            have e1 := heap_setCell_same w4 (w.heap.size + 1) 0 _ 29 (.int .i64 D) hres
            have e2 := heap_setCell_same _ (w.heap.size + 1) 1 _ 29 (.slice none 0 0) e1
            simpa using e2
          have hne : some (w.heap.size + 1) ≠ (Value.ownBlock (.slice none 0 0)) := by intro e; have := (hmade.lt _ e.symm).1; omega
          have hfin : ((w4.setCell ⟨w.heap.size + 1, 0, none⟩ (.int .i64 D)).setCell ⟨w.heap.size + 1, 1, none⟩ (.slice none 0 0)).ownsRow w.heap.size 61 2 (.slice none 0 0) (Lab.make D cs ls).length (F (Lab.make D cs ls)) :=
            owns_mono (owns_set (owns_set hmade _ _ hne) _ _ hne) (by omega)
          have hbf : Below w.heap.size w ((w4.setCell ⟨w.heap.size + 1, 0, none⟩ (.int .i64 D)).setCell ⟨w.heap.size + 1, 1, none⟩ (.slice none 0 0)) := (hbw.setCell (by simp) _).setCell (by simp) _
          have HFIN := Lib.hid hfin
          have HBF := Lib.hid hbf
          have HBLK := Lib.hid hblk
          clear hmade hb4 hb5 hres hbw hfin hbf hblk hne
          go_wp2
          refine bodyPost_ret (results_cell_row (by rfl) _ _ (w.heap.size + 1) 29 _ (0, 0) _ (by rfl) HBLK.out Try.underlying29 rfl info24) rfl ⟨_, cs, rfl, HCS.out, fun m hm => ?_, HBF.out⟩
          rw [hm, ELS.out]
          exact HFIN.out
        · have hb5 := HBL.out.trans (hb4.mono hwsz)
          obtain ⟨_, hres, _, hbw⟩ := HS.out w4 hb5
          have k0 : w4.cell? ⟨w.heap.size + 1, 0, none⟩ = some (.int .i64 0) := by rw [cell_of_row _ _ 0 _ 29 (0, 0) hres]; rfl
          have k1 : w4.cell? ⟨w.heap.size + 1, 1, none⟩ = some (.slice none 0 0) := by rw [cell_of_row _ _ 1 _ 29 (0, 0) hres]; rfl
          have f0 : w4.frozen? ⟨w.heap.size + 1, 0, none⟩ = false := frozen_of_row _ _ 0 _ 29 hres
          have f1 : w4.frozen? ⟨w.heap.size + 1, 1, none⟩ = false := frozen_of_row _ _ 1 _ 29 hres
          have hblk : ((w4.setCell ⟨w.heap.size + 1, 0, none⟩ (.int .i64 D)).setCell ⟨w.heap.size + 1, 1, none⟩ (.slice (some ⟨g', 0, none⟩) n' cap')).heap[w.heap.size + 1]? = some (.cells #[.int .i64 D, (.slice (some ⟨g', 0, none⟩) n' cap')] 29) := by
            have e1 := heap_setCell_same w4 (w.heap.size + 1) 0 _ 29 (.int .i64 D) hres
            have e2 := heap_setCell_same _ (w.heap.size + 1) 1 _ 29 (.slice (some ⟨g', 0, none⟩) n' cap') e1
            simpa using e2
          have hne : some (w.heap.size + 1) ≠ (Value.ownBlock (.slice (some ⟨g', 0, none⟩) n' cap')) := by intro e; have := (hmade.lt _ e.symm).1; omega
          have hfin : ((w4.setCell ⟨w.heap.size + 1, 0, none⟩ (.int .i64 D)).setCell ⟨w.heap.size + 1, 1, none⟩ (.slice (some ⟨g', 0, none⟩) n' cap')).ownsRow w.heap.size 61 2 (.slice (some ⟨g', 0, none⟩) n' cap') (Lab.make D cs ls).length (F (Lab.make D cs ls)) :=
            owns_mono (owns_set (owns_set hmade _ _ hne) _ _ hne) (by omega)
          have hbf : Below w.heap.size w ((w4.setCell ⟨w.heap.size + 1, 0, none⟩ (.int .i64 D)).setCell ⟨w.heap.size + 1, 1, none⟩ (.slice (some ⟨g', 0, none⟩) n' cap')) := (hbw.setCell (by simp) _).setCell (by simp) _
          have HFIN := Lib.hid hfin
          have HBF := Lib.hid hbf
          have HBLK := Lib.hid hblk
          clear hmade hb4 hb5 hres hbw hfin hbf hblk hne
          go_wp2
          refine bodyPost_ret (results_cell_row (by rfl) _ _ (w.heap.size + 1) 29 _ (0, 0) _ (by rfl) HBLK.out Try.underlying29 rfl info24) rfl ⟨_, cs, rfl, HCS.out, fun m hm => ?_, HBF.out⟩
          rw [hm, ELS.out]
          exact HFIN.out
end Go.Proofs.Ytmbdglhihakkjaa
