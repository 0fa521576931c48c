import Derived.Test.YtmbdglhihakkjaaRf
import Derived.Deep.RegionHeld3
namespace Go.Proofs.Ytmbdglhihakkjaa
open Go.RowKit
set_option linter.unusedVariables false
set_option linter.unusedSimpArgs false

theorem info3 : (Try.prog.info? 3).map (fun i => (i.zero, i.size, i.bytes)) = some (some (.int .i64 0), 1, 8) := by kernel_rfl
theorem owns_below {w w' : World} {base : Nat} {e : TypeId} {size : Nat} {v : Value} {n : Nat} {xs : List Value} (h : w.ownsRow base e size v n xs) (hb : Below w.heap.size w w') : w'.ownsRow base e size v n xs :=
  h.kept (row := none) ⟨hb.os, hb.tape, hb.output, hb.size, fun k hk _ => hb.block k hk⟩ (by cases hv : v.ownBlock <;> simp)
set_option maxRecDepth 100000 in
set_option maxHeartbeats 6400000 in
theorem merge_any (j : Bool) (v1 v2 : Value) (ps qs : List (Nat × Int)) (D1 D2 : Int) (w : World) (hn : ps.length + qs.length ≤ 8796093022207) (r1 : Reads w v1 ps) (r2 : Reads w v2 qs)
    (hpos : ∀ c ∈ (ps ++ qs).map (·.1), 1 ≤ c) :
    Calls Try.prog 53 #[.agg #[.int .i64 D1, v1], .agg #[.int .i64 D2, v2], .int .u8 (if j then 106 else 109)] w fun e w' =>
      ∃ v cs, e = .returned (.agg #[.int .i64 (Lab.one j D1 D2), v]) ∧ Lab.CatsOf ((ps ++ qs).map (·.1)) cs ∧
        (∀ m, m = Lab.make (Lab.one j D1 D2) cs (cs.map fun c => Lab.one j (Lab.at' D1 ps c) (Lab.at' D2 qs c)) → w'.ownsRow w.heap.size 61 2 v m.length (F m)) ∧ Below w.heap.size w w' := by
  obtain ⟨i0, hi, hz0, hz1, hz2⟩ := info_parts info3
  obtain ⟨J, ej⟩ : ∃ J : Int, (if j then 106 else 109) = J := ⟨_, rfl⟩
  have C1 := Lib.hid (fun (x y : Int) (w : World) => one_any j x y w)
  rw [ej] at C1 ⊢
  have EJ := Lib.hid ej
  have R1 := Lib.hid r1
  have R2 := Lib.hid r2
  have HP := Lib.hid hpos
  have HN := Lib.hid hn
  clear ej r1 r2 hpos hn
  go_enter Try.func53, Try.ntmps53
  go_wp2_with fail
  obtain ⟨W0, eW⟩ : ∃ W0, W0 = (((w.alloc (Obj.cells #[Value.int .i64 D1, v1] 29)).alloc (Obj.cells #[Value.int .i64 D2, v2] 29)).alloc (Obj.cells #[Value.int .i64 0, .slice none 0 0] 29)) := ⟨_, rfl⟩
  rw [← eW]
  have hW : Below w.heap.size w W0 ∧ W0.heap.size = w.heap.size + 3 ∧ W0.heap[w.heap.size]? = some (Obj.cells #[Value.int .i64 D1, v1] 29) ∧ W0.heap[w.heap.size + 1]? = some (Obj.cells #[Value.int .i64 D2, v2] 29) ∧
      W0.heap[w.heap.size + 2]? = some (Obj.cells #[Value.int .i64 0, .slice none 0 0] 29) := by
    rw [eW]
    refine ⟨(((Below.refl _ _).alloc (Nat.le_refl _) _).alloc (by simp) _).alloc (by simp; omega) _, by simp, ?_, ?_, ?_⟩
    · rw [Below.heap_alloc _ _ _ (by simp; omega), Below.heap_alloc _ _ _ (by simp)]; exact heap_alloc_new w _
    · rw [Below.heap_alloc _ _ _ (by simp)]; have := heap_alloc_new (w.alloc (Obj.cells #[Value.int .i64 D1, v1] 29)) (Obj.cells #[Value.int .i64 D2, v2] 29); simpa using this
    · have := heap_alloc_new ((w.alloc (Obj.cells #[Value.int .i64 D1, v1] 29)).alloc (Obj.cells #[Value.int .i64 D2, v2] 29)) (Obj.cells #[Value.int .i64 0, .slice none 0 0] 29); simpa using this
  have HW := Lib.hid hW
  clear hW eW
  refine (cats_any v1 v2 ps qs D1 D2 W0 (by have := HN.out; omega) (R1.out.below HW.out.1) (R2.out.below HW.out.1) HP.out).mono ?_
  rintro e w1 ⟨vc, cs, rfl, hcs, hown, hb1⟩
  have HCS := Lib.hid hcs
  have HB1 := Lib.hid hb1
  have hH : w.heap.size + 3 ≤ w1.heap.size := by have := hb1.size; have := HW.out.2.1; omega
  have hS : ∀ wx, Below w1.heap.size w1 wx → wx.heap[w.heap.size]? = some (Obj.cells #[Value.int .i64 D1, v1] 29) ∧ wx.heap[w.heap.size + 1]? = some (Obj.cells #[Value.int .i64 D2, v2] 29) ∧
      wx.heap[w.heap.size + 2]? = some (Obj.cells #[Value.int .i64 0, .slice none 0 0] 29) ∧ Reads wx v1 ps ∧ Reads wx v2 qs ∧ Below w.heap.size w wx := by
    intro wx hx
    have hw2 : Below (w.heap.size + 3) W0 wx := (HB1.out.mono (by rw [HW.out.2.1]; exact Nat.le_refl _)).trans (hx.mono hH)
    have hw3 : Below w.heap.size w wx := HW.out.1.trans (hw2.mono (by omega))
    refine ⟨?_, ?_, ?_, R1.out.below hw3, R2.out.below hw3, hw3⟩
    · rw [hw2.block _ (by omega)]; exact HW.out.2.2.1
    · rw [hw2.block _ (by omega)]; exact HW.out.2.2.2.1
    · rw [hw2.block _ (by omega)]; exact HW.out.2.2.2.2
  have HS := Lib.hid hS
  have hlen : cs.length ≤ 8796093022207 := by have h := hcs.2.2; have := HN.out; rw [List.length_map, List.length_append] at h; omega
  have HRV := Lib.hid (readsV_of_owns hown (by omega))
  obtain ⟨ls, els⟩ : ∃ ls, cs.map (fun c => Lab.one j (Lab.at' D1 ps c) (Lab.at' D2 qs c)) = ls := ⟨_, rfl⟩
  have ELS := Lib.hid els
  clear hcs hb1 hS els hown
  obtain ⟨n, en⟩ : ∃ n, cs.length = n := ⟨_, rfl⟩
  rw [en] at hlen
  have EN := Lib.hid en
  have EL := Lib.hid (show ls.length = n by rw [← ELS.out, List.length_map, EN.out])
  clear en
  have hU : (U cs).length = n := by simp [U, EN.out]
  rcases HRV.out with ⟨rfl, hc⟩ | ⟨bc, oc, cc, rfl, hbc, _, hcc⟩
  · have hn0 : n = 0 := by rw [← hU, hc]; rfl
    subst hn0
    clear hc hU
    go_wp2_with fail
    go_loopg [8, 9] 1 (fun g out i wr => out = .slice none 0 0 ∧ i = .int .i64 0 ∧ w1 = wr)
    case atStart => exact ⟨rfl, rfl, rfl⟩
    case round =>
      obtain ⟨rfl, rfl, rfl⟩ := hrel
      have hbl := Below.refl w1.heap.size w1
      have hcells := HS.out w1 hbl
      have d1 : w1.cell? ⟨w.heap.size, 0, none⟩ = some (.int .i64 D1) := by rw [cell_of_row _ _ 0 _ 29 (0, 0) hcells.1]; rfl
      have d2 : w1.cell? ⟨w.heap.size + 1, 0, none⟩ = some (.int .i64 D2) := by rw [cell_of_row _ _ 0 _ 29 (0, 0) hcells.2.1]; rfl
      have HBL := Lib.hid hbl
      have hv : ReadsV w1 (.slice none 0 0) (V ls) := .inl ⟨rfl, by have h := EL.out; rw [List.eq_nil_of_length_eq_zero h]; rfl⟩
      have hc' : ReadsV w1 (.slice none 0 0) (U cs) := HRV.out
      have C2 := Lib.hid (fun (D : Int) => make_any _ (.slice none 0 0) cs ls D w1 (by rw [EL.out, EN.out]) (by rw [EN.out]; exact hlen) hc' hv)
      clear hv hc'
      have hwsz := hbl.size
      clear hcells hbl
      obtain ⟨D, eD⟩ : ∃ D, Lab.one j D1 D2 = D := ⟨_, rfl⟩
      have C3 := Lib.hid (fun (wx : World) => eD ▸ C1.out D1 D2 wx)
      have ED := Lib.hid eD
      clear eD
      go_wp2_with fail
      refine (C3.out _).mono ?_
      rintro e wy ⟨rfl, rfl⟩
      go_wp2_with fail
      refine (C2.out D).mono ?_
      rintro e w4 ⟨v, rfl, hmade, hb4⟩
      have hform : v = .slice none 0 0 ∨ ∃ g' n' cap', v = .slice (some ⟨g', 0, none⟩) n' cap' := by
        rcases hmade.2 with ⟨h, _⟩ | ⟨g', cap', cur, h, _⟩
        · exact .inl h
        · exact .inr ⟨_, _, _, h⟩
      rcases hform with rfl | ⟨g', n', cap', rfl⟩
      · have hb5 := HBL.out.trans (hb4.mono hwsz)
        obtain ⟨_, _, hres, _, _, hbw⟩ := HS.out w4 hb5
        have k0 : w4.cell? ⟨w.heap.size + 1 + 1, 0, none⟩ = some (.int .i64 0) := by rw [cell_of_row _ _ 0 _ 29 (0, 0) hres]; rfl
        have k1 : w4.cell? ⟨w.heap.size + 1 + 1, 1, none⟩ = some (.slice none 0 0) := by rw [cell_of_row _ _ 1 _ 29 (0, 0) hres]; rfl
        have f0 : w4.frozen? ⟨w.heap.size + 1 + 1, 0, none⟩ = false := frozen_of_row _ _ 0 _ 29 hres
        have f1 : w4.frozen? ⟨w.heap.size + 1 + 1, 1, none⟩ = false := frozen_of_row _ _ 1 _ 29 hres
        have hblk : ((w4.setCell ⟨w.heap.size + 1 + 1, 0, none⟩ (.int .i64 D)).setCell ⟨w.heap.size + 1 + 1, 1, none⟩ (.slice none 0 0)).heap[w.heap.size + 1 + 1]? = some (.cells #[.int .i64 D, (.slice none 0 0)] 29) := by
          have e1 := heap_setCell_same w4 (w.heap.size + 2) 0 _ 29 (.int .i64 D) hres
          have e2 := heap_setCell_same _ (w.heap.size + 2) 1 _ 29 (.slice none 0 0) e1
          simpa using e2
        have hne : some (w.heap.size + 1 + 1) ≠ (Value.ownBlock (.slice none 0 0)) := by intro e; have := (hmade.lt _ e.symm).1; omega
        have hfin : ((w4.setCell ⟨w.heap.size + 1 + 1, 0, none⟩ (.int .i64 D)).setCell ⟨w.heap.size + 1 + 1, 1, none⟩ (.slice none 0 0)).ownsRow w.heap.size 61 2 (.slice none 0 0) (Lab.make D cs ls).length (F (Lab.make D cs ls)) :=
          owns_mono (owns_set (owns_set hmade _ _ hne) _ _ hne) (by omega)
        have hbf : Below w.heap.size w ((w4.setCell ⟨w.heap.size + 1 + 1, 0, none⟩ (.int .i64 D)).setCell ⟨w.heap.size + 1 + 1, 1, none⟩ (.slice none 0 0)) := (hbw.setCell (by simp; omega) _).setCell (by simp; omega) _
        have HFIN := Lib.hid hfin
        have HBF := Lib.hid hbf
        have HBLK := Lib.hid hblk
        clear hmade hb4 hb5 hres hbw hfin hbf hblk hne
        go_wp2
        refine bodyPost_ret (results_cell_row (by rfl) _ _ (w.heap.size + 1 + 1) 29 _ (0, 0) _ (by rfl) HBLK.out Try.underlying29 rfl info24) rfl ⟨_, cs, by rw [ED.out], HCS.out, fun m hm => ?_, HBF.out⟩
        rw [hm, ED.out, ELS.out]
        exact HFIN.out
      · have hb5 := HBL.out.trans (hb4.mono hwsz)
        obtain ⟨_, _, hres, _, _, hbw⟩ := HS.out w4 hb5
        have k0 : w4.cell? ⟨w.heap.size + 1 + 1, 0, none⟩ = some (.int .i64 0) := by rw [cell_of_row _ _ 0 _ 29 (0, 0) hres]; rfl
        have k1 : w4.cell? ⟨w.heap.size + 1 + 1, 1, none⟩ = some (.slice none 0 0) := by rw [cell_of_row _ _ 1 _ 29 (0, 0) hres]; rfl
        have f0 : w4.frozen? ⟨w.heap.size + 1 + 1, 0, none⟩ = false := frozen_of_row _ _ 0 _ 29 hres
        have f1 : w4.frozen? ⟨w.heap.size + 1 + 1, 1, none⟩ = false := frozen_of_row _ _ 1 _ 29 hres
        have hblk : ((w4.setCell ⟨w.heap.size + 1 + 1, 0, none⟩ (.int .i64 D)).setCell ⟨w.heap.size + 1 + 1, 1, none⟩ (.slice (some ⟨g', 0, none⟩) n' cap')).heap[w.heap.size + 1 + 1]? = some (.cells #[.int .i64 D, (.slice (some ⟨g', 0, none⟩) n' cap')] 29) := by
          have e1 := heap_setCell_same w4 (w.heap.size + 2) 0 _ 29 (.int .i64 D) hres
          have e2 := heap_setCell_same _ (w.heap.size + 2) 1 _ 29 (.slice (some ⟨g', 0, none⟩) n' cap') e1
          simpa using e2
        have hne : some (w.heap.size + 1 + 1) ≠ (Value.ownBlock (.slice (some ⟨g', 0, none⟩) n' cap')) := by intro e; have := (hmade.lt _ e.symm).1; omega
        have hfin : ((w4.setCell ⟨w.heap.size + 1 + 1, 0, none⟩ (.int .i64 D)).setCell ⟨w.heap.size + 1 + 1, 1, none⟩ (.slice (some ⟨g', 0, none⟩) n' cap')).ownsRow w.heap.size 61 2 (.slice (some ⟨g', 0, none⟩) n' cap') (Lab.make D cs ls).length (F (Lab.make D cs ls)) :=
          owns_mono (owns_set (owns_set hmade _ _ hne) _ _ hne) (by omega)
        have hbf : Below w.heap.size w ((w4.setCell ⟨w.heap.size + 1 + 1, 0, none⟩ (.int .i64 D)).setCell ⟨w.heap.size + 1 + 1, 1, none⟩ (.slice (some ⟨g', 0, none⟩) n' cap')) := (hbw.setCell (by simp; omega) _).setCell (by simp; omega) _
        have HFIN := Lib.hid hfin
        have HBF := Lib.hid hbf
        have HBLK := Lib.hid hblk
        clear hmade hb4 hb5 hres hbw hfin hbf hblk hne
        go_wp2
        refine bodyPost_ret (results_cell_row (by rfl) _ _ (w.heap.size + 1 + 1) 29 _ (0, 0) _ (by rfl) HBLK.out Try.underlying29 rfl info24) rfl ⟨_, cs, by rw [ED.out], HCS.out, fun m hm => ?_, HBF.out⟩
        rw [hm, ED.out, ELS.out]
        exact HFIN.out
  · rw [hU]
    have HCC := Lib.hid hcc
    clear hcc hU
    go_wp2_with fail
    go_loopg [8, 9] n (fun g out i wr => ∃ k : Nat, k ≤ n ∧ Hid (g = n - k) ∧ i = .int .i64 k ∧ Hid (wr.ownsRow w1.heap.size 3 1 out k (V (ls.take k)) ∧ Below w1.heap.size w1 wr))
    case atStart => exact ⟨0, by omega, Lib.hid (by omega), rfl, Lib.hid ⟨by rw [List.take_zero]; exact World.ownsRow_nil _ _ _ _, Below.refl _ _⟩⟩
    case round =>
      obtain ⟨k, hk, hg, rfl, hr⟩ := hrel
      by_cases hlt : k < n
      · obtain ⟨c, hc⟩ : ∃ c, cs[k]? = some c := ⟨_, List.getElem?_eq_getElem (by rw [EN.out]; exact hlt)⟩
        have hls : ls[k]? = some (Lab.one j (Lab.at' D1 ps c) (Lab.at' D2 qs c)) := by rw [← ELS.out, List.getElem?_map, hc]; rfl
        have hszr : w1.heap.size ≤ wr.heap.size := hr.out.2.size
        have hmk : ∀ wx, Below w1.heap.size w1 wx → wx.cell? ⟨w.heap.size, 0, none⟩ = some (.int .i64 D1) ∧ wx.cell? ⟨w.heap.size, 1, none⟩ = some v1 ∧
            wx.cell? ⟨w.heap.size + 1, 0, none⟩ = some (.int .i64 D2) ∧ wx.cell? ⟨w.heap.size + 1, 1, none⟩ = some v2 ∧ wx.cell? ⟨bc, oc + k, none⟩ = some (.int .u32 (c : Nat)) := by
          intro wx h1
          obtain ⟨a1, a2, _⟩ := HS.out wx h1
          refine ⟨?_, ?_, ?_, ?_, ?_⟩
          · rw [cell_of_row wx _ 0 _ 29 (0, 0) a1]; rfl
          · rw [cell_of_row wx _ 1 _ 29 (0, 0) a1]; rfl
          · rw [cell_of_row wx _ 0 _ 29 (0, 0) a2]; rfl
          · rw [cell_of_row wx _ 1 _ 29 (0, 0) a2]; rfl
          · rw [h1.cell (p := ⟨bc, _, none⟩) hbc]; exact HCC.out k _ (by unfold U; rw [List.getElem?_map, hc]; rfl)
        have hrd : ∀ wx, Hid (Below wr.heap.size wr wx) → Reads wx v1 ps ∧ Reads wx v2 qs := by
          intro wx hx
          obtain ⟨_, _, _, a4, a5, _⟩ := HS.out wx (hr.out.2.trans (hx.out.mono hszr))
          exact ⟨a4, a5⟩
        obtain ⟨L1, e1⟩ : ∃ L1, Lab.at' D1 ps c = L1 := ⟨_, rfl⟩
        obtain ⟨L2, e2⟩ : ∃ L2, Lab.at' D2 qs c = L2 := ⟨_, rfl⟩
        rw [e1, e2] at hls
        obtain ⟨L, e3⟩ : ∃ L, Lab.one j L1 L2 = L := ⟨_, rfl⟩
        rw [e3] at hls
        have Q1 := Lib.hid (fun (wx : World) (h : Reads wx v1 ps) => e1 ▸ at_any v1 ps D1 c wx h)
        have Q2 := Lib.hid (fun (wx : World) (h : Reads wx v2 qs) => e2 ▸ at_any v2 qs D2 c wx h)
        have Q3 := Lib.hid (fun (wx : World) => e3 ▸ C1.out L1 L2 wx)
        have HMK := Lib.hid hmk
        have HRD := Lib.hid hrd
        have HLS := Lib.hid hls
        have S0 := hmk wr hr.out.2
        have hcall := Lib.hid ((Below.refl wr.heap.size wr).drew)
        have HT := Lib.hid (fun (wx : World) (h : Below wr.heap.size wr wx) => (hr.out.2.trans (h.mono hszr) : Below w1.heap.size w1 wx))
        clear hmk hrd hls e1 e2 e3 hc
        obtain ⟨s1, s2, s3, s4, s5⟩ := S0
        go_upto_region 6 with fail
        go_region_held3 (fun w' => w'.cell? ⟨w.heap.size, 0, none⟩ = some (.int .i64 D1) ∧ w'.cell? ⟨w.heap.size, 1, none⟩ = some v1 ∧
            w'.cell? ⟨w.heap.size + 1, 0, none⟩ = some (.int .i64 D2) ∧ w'.cell? ⟨w.heap.size + 1, 1, none⟩ = some v2 ∧ w'.cell? ⟨bc, oc + k, none⟩ = some (.int .u32 (c : Nat)))
          (first
            | exact HMK.out _ hfin.out
            | exact HMK.out _ (HT.out _ hcall.out)
            | exact HMK.out _ (HT.out _ (hcall.out.alloc hcall.out.size _)))
          (first
            | (go_at_call_of 55 (Value.agg #[Value.int .i64 D1, v1])
               refine (Q1.out _ (HRD.out _ hcall).1).mono ?_
               rintro e wq ⟨rfl, hb'⟩
               replace hcall := Lib.hid (hcall.out.trans (hb'.mono hcall.out.size))
               clear hb')
            | (go_at_call_of 55 (Value.agg #[Value.int .i64 D2, v2])
               refine (Q2.out _ (HRD.out _ hcall).2).mono ?_
               rintro e wq ⟨rfl, hb'⟩
               replace hcall := Lib.hid (hcall.out.trans (hb'.mono hcall.out.size))
               clear hb')
            | (go_at_call_of 68 (Value.int .i64 L1)
               refine (Q3.out _).mono ?_
               rintro e w' ⟨rfl, rfl⟩)
            | (refine step_append_own _ (by rfl) _ _ _ (by rfl) w1.heap.size 3 i0 _ 1 8 Try.underlying22 hi hz0 hz1 hz2 rfl (by omega) u8 k _ (by rfl) ((owns_below hr.out.1 hcall.out).alloc _)
                ⟨wq.heap.size, 0, none⟩ 1 1 [.int .i64 L] (by rfl) (by rfl) (one_new _ _ _) (by simp [Value.oneCell']) (by unfold maxLen; omega) (by omega) (by have := hcall.out.size; simp; omega) ?_
               intro v' w3 hown1 hgrow1 _
               have hfin := Lib.hid (((HT.out _ hcall.out).alloc (by have := hcall.out.size; omega) _).grown hgrow1 (by have := hcall.out.size; simp; omega) (fun k hk => (hr.out.1.lt k hk).1))
               replace hown1 := Lib.hid hown1
               clear hgrow1))
        all_goals
          have hlast := Lib.hid (show (V (ls.take k) ++ [.int .i64 L] : List Value) = V (ls.take (k + 1)) by rw [List.take_add_one, HLS.out]; simp [V])
          go_wp2_with fail
          go_roundg (n - (k + 1))
          case measure => rw [hg.out]; omega
          case rel => exact ⟨k + 1, by omega, Lib.hid rfl, by go_num, Lib.hid ⟨by rw [← hlast.out]; exact hown1.out, hfin.out⟩⟩
      · have hkn : k = n := by omega
        subst hkn
        have hbl := hr.out.2
        have hcells := HS.out wr hbl
        have d1 : (wr).cell? ⟨w.heap.size, 0, none⟩ = some (.int .i64 D1) := by rw [cell_of_row _ _ 0 _ 29 (0, 0) hcells.1]; rfl
        have d2 : (wr).cell? ⟨w.heap.size + 1, 0, none⟩ = some (.int .i64 D2) := by rw [cell_of_row _ _ 0 _ 29 (0, 0) hcells.2.1]; rfl
        have HBL := Lib.hid hbl
        have hv : ReadsV wr u8 (V ls) := by
          have h := readsV_of_owns hr.out.1 (by omega)
          rw [List.take_of_length_le (by rw [EL.out]; omega)] at h
          exact h
        have hc' : ReadsV wr (.slice (some ⟨bc, oc, none⟩) k cc) (U cs) := by
          have h := HRV.out.below hbl
          rw [show (U cs).length = k by simp [U, EN.out]] at h
          exact h
        have C2 := Lib.hid (fun (D : Int) => make_any _ u8 cs ls D wr (by rw [EL.out, EN.out]) (by rw [EN.out]; exact hlen) hc' hv)
        clear hv hc'
        have hwsz := hbl.size
        clear hcells hbl
        obtain ⟨D, eD⟩ : ∃ D, Lab.one j D1 D2 = D := ⟨_, rfl⟩
        have C3 := Lib.hid (fun (wx : World) => eD ▸ C1.out D1 D2 wx)
        have ED := Lib.hid eD
        clear eD
        go_wp2_with fail
        refine (C3.out _).mono ?_
        rintro e wy ⟨rfl, rfl⟩
        go_wp2_with fail
        refine (C2.out D).mono ?_
        rintro e w4 ⟨v, rfl, hmade, hb4⟩
        have hform : v = .slice none 0 0 ∨ ∃ g' n' cap', v = .slice (some ⟨g', 0, none⟩) n' cap' := by
          rcases hmade.2 with ⟨h, _⟩ | ⟨g', cap', cur, h, _⟩
          · exact .inl h
          · exact .inr ⟨_, _, _, h⟩
        rcases hform with rfl | ⟨g', n', cap', rfl⟩
        · have hb5 := HBL.out.trans (hb4.mono hwsz)
          obtain ⟨_, _, hres, _, _, hbw⟩ := HS.out w4 hb5
          have k0 : w4.cell? ⟨w.heap.size + 1 + 1, 0, none⟩ = some (.int .i64 0) := by rw [cell_of_row _ _ 0 _ 29 (0, 0) hres]; rfl
          have k1 : w4.cell? ⟨w.heap.size + 1 + 1, 1, none⟩ = some (.slice none 0 0) := by rw [cell_of_row _ _ 1 _ 29 (0, 0) hres]; rfl
          have f0 : w4.frozen? ⟨w.heap.size + 1 + 1, 0, none⟩ = false := frozen_of_row _ _ 0 _ 29 hres
          have f1 : w4.frozen? ⟨w.heap.size + 1 + 1, 1, none⟩ = false := frozen_of_row _ _ 1 _ 29 hres
          have hblk : ((w4.setCell ⟨w.heap.size + 1 + 1, 0, none⟩ (.int .i64 D)).setCell ⟨w.heap.size + 1 + 1, 1, none⟩ (.slice none 0 0)).heap[w.heap.size + 1 + 1]? = some (.cells #[.int .i64 D, (.slice none 0 0)] 29) := by
            have e1 := heap_setCell_same w4 (w.heap.size + 2) 0 _ 29 (.int .i64 D) hres
            have e2 := heap_setCell_same _ (w.heap.size + 2) 1 _ 29 (.slice none 0 0) e1
            simpa using e2
          have hne : some (w.heap.size + 1 + 1) ≠ (Value.ownBlock (.slice none 0 0)) := by intro e; have := (hmade.lt _ e.symm).1; omega
          have hfin : ((w4.setCell ⟨w.heap.size + 1 + 1, 0, none⟩ (.int .i64 D)).setCell ⟨w.heap.size + 1 + 1, 1, none⟩ (.slice none 0 0)).ownsRow w.heap.size 61 2 (.slice none 0 0) (Lab.make D cs ls).length (F (Lab.make D cs ls)) :=
            owns_mono (owns_set (owns_set hmade _ _ hne) _ _ hne) (by omega)
          have hbf : Below w.heap.size w ((w4.setCell ⟨w.heap.size + 1 + 1, 0, none⟩ (.int .i64 D)).setCell ⟨w.heap.size + 1 + 1, 1, none⟩ (.slice none 0 0)) := (hbw.setCell (by simp; omega) _).setCell (by simp; omega) _
          have HFIN := Lib.hid hfin
          have HBF := Lib.hid hbf
          have HBLK := Lib.hid hblk
          clear hmade hb4 hb5 hres hbw hfin hbf hblk hne
          go_wp2
          refine bodyPost_ret (results_cell_row (by rfl) _ _ (w.heap.size + 1 + 1) 29 _ (0, 0) _ (by rfl) HBLK.out Try.underlying29 rfl info24) rfl ⟨_, cs, by rw [ED.out], HCS.out, fun m hm => ?_, HBF.out⟩
          rw [hm, ED.out, ELS.out]
          exact HFIN.out
        · have hb5 := HBL.out.trans (hb4.mono hwsz)
          obtain ⟨_, _, hres, _, _, hbw⟩ := HS.out w4 hb5
          have k0 : w4.cell? ⟨w.heap.size + 1 + 1, 0, none⟩ = some (.int .i64 0) := by rw [cell_of_row _ _ 0 _ 29 (0, 0) hres]; rfl
          have k1 : w4.cell? ⟨w.heap.size + 1 + 1, 1, none⟩ = some (.slice none 0 0) := by rw [cell_of_row _ _ 1 _ 29 (0, 0) hres]; rfl
          have f0 : w4.frozen? ⟨w.heap.size + 1 + 1, 0, none⟩ = false := frozen_of_row _ _ 0 _ 29 hres
          have f1 : w4.frozen? ⟨w.heap.size + 1 + 1, 1, none⟩ = false := frozen_of_row _ _ 1 _ 29 hres
          have hblk : ((w4.setCell ⟨w.heap.size + 1 + 1, 0, none⟩ (.int .i64 D)).setCell ⟨w.heap.size + 1 + 1, 1, none⟩ (.slice (some ⟨g', 0, none⟩) n' cap')).heap[w.heap.size + 1 + 1]? = some (.cells #[.int .i64 D, (.slice (some ⟨g', 0, none⟩) n' cap')] 29) := by
            have e1 := heap_setCell_same w4 (w.heap.size + 2) 0 _ 29 (.int .i64 D) hres
            have e2 := heap_setCell_same _ (w.heap.size + 2) 1 _ 29 (.slice (some ⟨g', 0, none⟩) n' cap') e1
            simpa using e2
          have hne : some (w.heap.size + 1 + 1) ≠ (Value.ownBlock (.slice (some ⟨g', 0, none⟩) n' cap')) := by intro e; have := (hmade.lt _ e.symm).1; omega
          have hfin : ((w4.setCell ⟨w.heap.size + 1 + 1, 0, none⟩ (.int .i64 D)).setCell ⟨w.heap.size + 1 + 1, 1, none⟩ (.slice (some ⟨g', 0, none⟩) n' cap')).ownsRow w.heap.size 61 2 (.slice (some ⟨g', 0, none⟩) n' cap') (Lab.make D cs ls).length (F (Lab.make D cs ls)) :=
            owns_mono (owns_set (owns_set hmade _ _ hne) _ _ hne) (by omega)
          have hbf : Below w.heap.size w ((w4.setCell ⟨w.heap.size + 1 + 1, 0, none⟩ (.int .i64 D)).setCell ⟨w.heap.size + 1 + 1, 1, none⟩ (.slice (some ⟨g', 0, none⟩) n' cap')) := (hbw.setCell (by simp; omega) _).setCell (by simp; omega) _
          have HFIN := Lib.hid hfin
          have HBF := Lib.hid hbf
          have HBLK := Lib.hid hblk
          clear hmade hb4 hb5 hres hbw hfin hbf hblk hne
          go_wp2
          refine bodyPost_ret (results_cell_row (by rfl) _ _ (w.heap.size + 1 + 1) 29 _ (0, 0) _ (by rfl) HBLK.out Try.underlying29 rfl info24) rfl ⟨_, cs, by rw [ED.out], HCS.out, fun m hm => ?_, HBF.out⟩
          rw [hm, ED.out, ELS.out]
          exact HFIN.out
end Go.Proofs.Ytmbdglhihakkjaa
-- with Rk
namespace Go.Proofs.Ytmbdglhihakkjaa
open Go.RowKit
set_option linter.unusedVariables false
set_option linter.unusedSimpArgs false

set_option maxRecDepth 100000 in
set_option maxHeartbeats 6400000 in
theorem leq_any (v1 v2 : Value) (ps qs : List (Nat × Int)) (D1 D2 : Int) (w : World) (hn : ps.length + qs.length ≤ 8796093022207) (r1 : Reads w v1 ps) (r2 : Reads w v2 qs)
    (hpos : ∀ c ∈ (ps ++ qs).map (·.1), 1 ≤ c) :
    Calls Try.prog 48 #[.agg #[.int .i64 D1, v1], .agg #[.int .i64 D2, v2]] w fun e w' =>
      ∃ cs, Lab.CatsOf ((ps ++ qs).map (·.1)) cs ∧ e = .returned (.bool (Lab.leq cs D1 ps D2 qs)) ∧ Below w.heap.size w w' := by
  have R1 := Lib.hid r1
  have R2 := Lib.hid r2
  have HP := Lib.hid hpos
  have HN := Lib.hid hn
  clear r1 r2 hpos hn
  go_enter Try.func48, Try.ntmps48
  go_wp2_with fail
  obtain ⟨W0, eW⟩ : ∃ W0, W0 = ((w.alloc (Obj.cells #[Value.int .i64 D1, v1] 29)).alloc (Obj.cells #[Value.int .i64 D2, v2] 29)) := ⟨_, rfl⟩
  rw [← eW]
  have hW : Below w.heap.size w W0 ∧ W0.heap.size = w.heap.size + 2 ∧ W0.heap[w.heap.size]? = some (Obj.cells #[Value.int .i64 D1, v1] 29) ∧ W0.heap[w.heap.size + 1]? = some (Obj.cells #[Value.int .i64 D2, v2] 29) := by
    rw [eW]
    refine ⟨((Below.refl _ _).alloc (Nat.le_refl _) _).alloc (by simp) _, by simp, ?_, ?_⟩
    · rw [Below.heap_alloc _ _ _ (by simp)]; exact heap_alloc_new w _
    · have := heap_alloc_new (w.alloc (Obj.cells #[Value.int .i64 D1, v1] 29)) (Obj.cells #[Value.int .i64 D2, v2] 29); simpa using this
  have HW := Lib.hid hW
  clear hW eW
  refine (cats_any v1 v2 ps qs D1 D2 W0 (by have := HN.out; omega) (R1.out.below HW.out.1) (R2.out.below HW.out.1) HP.out).mono ?_
  rintro e w1 ⟨vc, cs, rfl, hcs, hown, hb1⟩
  have HCS := Lib.hid hcs
  have HB1 := Lib.hid hb1
  have hH : w.heap.size + 2 ≤ w1.heap.size := by have := hb1.size; have := HW.out.2.1; omega
  have hS : ∀ wx, Below w1.heap.size w1 wx → wx.heap[w.heap.size]? = some (Obj.cells #[Value.int .i64 D1, v1] 29) ∧ wx.heap[w.heap.size + 1]? = some (Obj.cells #[Value.int .i64 D2, v2] 29) ∧
      Reads wx v1 ps ∧ Reads wx v2 qs ∧ Below w.heap.size w wx := by
    intro wx hx
    have hw2 : Below (w.heap.size + 2) W0 wx := (HB1.out.mono (by rw [HW.out.2.1]; exact Nat.le_refl _)).trans (hx.mono hH)
    have hw3 : Below w.heap.size w wx := HW.out.1.trans (hw2.mono (by omega))
    refine ⟨?_, ?_, R1.out.below hw3, R2.out.below hw3, hw3⟩
    · rw [hw2.block _ (by omega)]; exact HW.out.2.2.1
    · rw [hw2.block _ (by omega)]; exact HW.out.2.2.2
  have HS := Lib.hid hS
  have hlen : cs.length ≤ 8796093022207 := by have h := hcs.2.2; have := HN.out; rw [List.length_map, List.length_append] at h; omega
  have HRV := Lib.hid (readsV_of_owns hown (by omega))
  clear hcs hb1 hS hown
  obtain ⟨n, en⟩ : ∃ n, cs.length = n := ⟨_, rfl⟩
  rw [en] at hlen
  have EN := Lib.hid en
  clear en
  have hU : (U cs).length = n := by simp [U, EN.out]
  have hcell : ∀ wx, Below w1.heap.size w1 wx → wx.cell? ⟨w.heap.size, 0, none⟩ = some (.int .i64 D1) ∧ wx.cell? ⟨w.heap.size, 1, none⟩ = some v1 ∧
      wx.cell? ⟨w.heap.size + 1, 0, none⟩ = some (.int .i64 D2) ∧ wx.cell? ⟨w.heap.size + 1, 1, none⟩ = some v2 := by
    intro wx h1
    obtain ⟨a1, a2, _⟩ := HS.out wx h1
    refine ⟨?_, ?_, ?_, ?_⟩
    · rw [cell_of_row wx _ 0 _ 29 (0, 0) a1]; rfl
    · rw [cell_of_row wx _ 1 _ 29 (0, 0) a1]; rfl
    · rw [cell_of_row wx _ 0 _ 29 (0, 0) a2]; rfl
    · rw [cell_of_row wx _ 1 _ 29 (0, 0) a2]; rfl
  have HC := Lib.hid hcell
  clear hcell
  obtain ⟨Fq, eF⟩ : ∃ Fq : Nat → Bool, Fq = fun c => decide (Lab.at' D1 ps c ≤ Lab.at' D2 qs c) := ⟨_, rfl⟩
  have hleq : Lab.leq cs D1 ps D2 qs = (cs.all Fq && decide (D1 ≤ D2)) := by rw [eF]; rfl
  have HQ := Lib.hid hleq
  have EF := Lib.hid eF
  clear hleq eF
  rcases HRV.out with ⟨rfl, hc⟩ | ⟨bc, oc, cc, rfl, hbc, _, hcc⟩
  · have hn0 : n = 0 := by rw [← hU, hc]; rfl
    subst hn0
    clear hc hU
    go_wp2_with fail
    go_loopg [6] 1 (fun g i wr => i = .int .i64 0 ∧ w1 = wr)
    case atStart => exact ⟨rfl, rfl⟩
    case round =>
      obtain ⟨rfl, rfl⟩ := hrel
      obtain ⟨s1, s2, s3, s4⟩ := HC.out w1 (Below.refl _ _)
      have hq : Lab.leq cs D1 ps D2 qs = decide (D1 ≤ D2) := by rw [HQ.out, List.eq_nil_of_length_eq_zero EN.out]; simp
      have HQ2 := Lib.hid hq
      clear hq
      go_wp2
      go_ret
      exact ⟨cs, HCS.out, by rw [HQ2.out]; rfl, (HS.out w1 (Below.refl _ _)).2.2.2.2⟩
  · rw [hU]
    have HCC := Lib.hid hcc
    clear hcc hU
    go_wp2_with fail
    go_loopg [6] n (fun g i wr => ∃ k : Nat, k ≤ n ∧ Hid (g = n - k) ∧ i = .int .i64 k ∧ Hid (Below w1.heap.size w1 wr ∧ (cs.take k).all Fq = true))
    case atStart => exact ⟨0, by omega, Lib.hid (by omega), rfl, Lib.hid ⟨Below.refl _ _, by simp⟩⟩
    case round =>
      obtain ⟨k, hk, hg, rfl, hr⟩ := hrel
      obtain ⟨s1, s2, s3, s4⟩ := HC.out wr hr.out.1
      by_cases hlt : k < n
      · obtain ⟨c, hc⟩ : ∃ c, cs[k]? = some c := ⟨_, List.getElem?_eq_getElem (by rw [EN.out]; exact hlt)⟩
        have hszr : w1.heap.size ≤ wr.heap.size := hr.out.1.size
        have hmk : ∀ wx, Below w1.heap.size w1 wx → wx.cell? ⟨w.heap.size, 0, none⟩ = some (.int .i64 D1) ∧ wx.cell? ⟨w.heap.size, 1, none⟩ = some v1 ∧
            wx.cell? ⟨w.heap.size + 1, 0, none⟩ = some (.int .i64 D2) ∧ wx.cell? ⟨w.heap.size + 1, 1, none⟩ = some v2 ∧ wx.cell? ⟨bc, oc + k, none⟩ = some (.int .u32 (c : Nat)) := by
          intro wx h1
          obtain ⟨a1, a2, a3, a4⟩ := HC.out wx h1
          refine ⟨a1, a2, a3, a4, ?_⟩
          rw [h1.cell (p := ⟨bc, _, none⟩) hbc]; exact HCC.out k _ (by unfold U; rw [List.getElem?_map, hc]; rfl)
        have s5 := (hmk wr hr.out.1).2.2.2.2
        obtain ⟨L1, e1⟩ : ∃ L1, Lab.at' D1 ps c = L1 := ⟨_, rfl⟩
        obtain ⟨L2, e2⟩ : ∃ L2, Lab.at' D2 qs c = L2 := ⟨_, rfl⟩
        have hFc : Fq c = decide (L1 ≤ L2) := by rw [EF.out]; show decide (Lab.at' D1 ps c ≤ Lab.at' D2 qs c) = _; rw [e1, e2]
        have Q1 := Lib.hid (fun (wx : World) (h : Reads wx v1 ps) => e1 ▸ at_any v1 ps D1 c wx h)
        have Q2 := Lib.hid (fun (wx : World) (h : Reads wx v2 qs) => e2 ▸ at_any v2 qs D2 c wx h)
        have HMK := Lib.hid hmk
        have hcall := Lib.hid (hr.out.1.drew)
        have HFC := Lib.hid hFc
        have HCK := Lib.hid hc
        clear hmk e1 e2 hFc hc
        go_upto_region 5 with fail
        go_region_held3 (fun w' => w'.cell? ⟨w.heap.size, 0, none⟩ = some (.int .i64 D1) ∧ w'.cell? ⟨w.heap.size, 1, none⟩ = some v1 ∧
            w'.cell? ⟨w.heap.size + 1, 0, none⟩ = some (.int .i64 D2) ∧ w'.cell? ⟨w.heap.size + 1, 1, none⟩ = some v2 ∧ w'.cell? ⟨bc, oc + k, none⟩ = some (.int .u32 (c : Nat)))
          (first
            | exact HMK.out _ hcall.out)
          (first
            | (go_at_call_of 55 (Value.agg #[Value.int .i64 D1, v1])
               refine (Q1.out _ (HS.out _ hcall.out).2.2.1).mono ?_
               rintro e wq ⟨rfl, hb'⟩
               replace hcall := Lib.hid (hcall.out.trans (hb'.mono hcall.out.size))
               clear hb')
            | (go_at_call_of 55 (Value.agg #[Value.int .i64 D2, v2])
               refine (Q2.out _ (HS.out _ hcall.out).2.2.2.1).mono ?_
               rintro e wq ⟨rfl, hb'⟩
               replace hcall := Lib.hid (hcall.out.trans (hb'.mono hcall.out.size))
               clear hb'))
        all_goals
          by_cases hle : L1 ≤ L2
          · have hgt : ¬ L2 < L1 := by omega
            have hal := Lib.hid (Lab.all_snoc HCK.out hr.out.2 (by rw [HFC.out]; exact decide_eq_true hle))
            clear hle
            go_wp2_with fail
            go_roundg (n - (k + 1))
            case measure => rw [hg.out]; omega
            case rel => exact ⟨k + 1, by omega, Lib.hid rfl, by go_num, Lib.hid ⟨hcall.out, hal.out⟩⟩
          · have hgt : L2 < L1 := by omega
            have hq : Lab.leq cs D1 ps D2 qs = false := by rw [HQ.out, Lab.all_stop HCK.out (by rw [HFC.out]; exact decide_eq_false hle)]; rfl
            have HQ2 := Lib.hid hq
            clear hq hle
            go_wp2_with fail
            go_ret
            exact ⟨cs, HCS.out, by rw [HQ2.out]; rfl, (HS.out _ hcall.out).2.2.2.2⟩
      · have hq : Lab.leq cs D1 ps D2 qs = decide (D1 ≤ D2) := by
          have h := hr.out.2
          rw [List.take_of_length_le (by rw [EN.out]; omega)] at h
          rw [HQ.out, h]; simp
        have HQ2 := Lib.hid hq
        clear hq
        go_wp2
        go_ret
        exact ⟨cs, HCS.out, by rw [HQ2.out]; rfl, (HS.out wr hr.out.1).2.2.2.2⟩
end Go.Proofs.Ytmbdglhihakkjaa
