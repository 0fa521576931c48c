/- Trusted. -/
import Derived.Test.YtmbdglhihakkjaaQd
set_option linter.unusedVariables false
set_option linter.unusedSimpArgs false
namespace Go.Proofs.Ytmbdglhihakkjaa
open Go.RowKit
set_option linter.unusedVariables false
set_option linter.unusedSimpArgs false
set_option maxHeartbeats 2000000 in
set_option maxRecDepth 100000 in
theorem trusted_m {w : World} {D0 : Int} {a0 : Option Addr} {n0 c0 : Nat} {P0 : LP} {D1 : Int} {a1 : Option Addr} {n1 c1 : Nat} {P1 : LP} (h0 : LA 100 w D0 a0 n0 c0 P0) (h1 : LA 100 w D1 a1 n1 c1 P1)  : Calls Try.prog 27 #[.agg #[.int .i64 D0, .slice a0 n0 c0], .agg #[.int .i64 D1, .slice a1 n1 c1]] w (BB w (tr D0 P0 P1)) := by
  obtain ⟨W0, e0⟩ : ∃ W0, W0 = ((w.alloc (Obj.cells #[.int .i64 D0, .slice a0 n0 c0] 29)).alloc (Obj.cells #[.int .i64 D1, .slice a1 n1 c1] 29)) := ⟨_, rfl⟩
  have hB : Below w.heap.size w W0 := by rw [e0]; exact (((Below.refl w.heap.size w).alloc (by omega) _).alloc (by simp <;> omega) _)
  have hk0 : W0.heap[w.heap.size]? = some (Obj.cells #[.int .i64 D0, .slice a0 n0 c0] 29) := by
    rw [e0]
    rw [Below.heap_alloc _ _ _ (by simp <;> omega)]
    have := heap_alloc_new w (Obj.cells #[.int .i64 D0, .slice a0 n0 c0] 29); simpa using this
  have hk1 : W0.heap[w.heap.size + 1]? = some (Obj.cells #[.int .i64 D1, .slice a1 n1 c1] 29) := by
    rw [e0]
    have := heap_alloc_new (w.alloc (Obj.cells #[.int .i64 D0, .slice a0 n0 c0] 29)) (Obj.cells #[.int .i64 D1, .slice a1 n1 c1] 29); simpa using this
  have HS := Lib.hid (fun (wx : World) (hx : Below W0.heap.size W0 wx) => (by
      have hw : Below w.heap.size w wx := hB.trans (hx.mono hB.size)
      have r0 := (hx.block _ (Array.getElem?_eq_some_iff.1 hk0).1).trans hk0
      have r1 := (hx.block _ (Array.getElem?_eq_some_iff.1 hk1).1).trans hk1
      exact ⟨hw, by rw [cell_of_row _ _ 0 _ 29 (0, 0) r0]; rfl, by rw [cell_of_row _ _ 1 _ 29 (0, 0) r0]; rfl, by rw [cell_of_row _ _ 0 _ 29 (0, 0) r1]; rfl, by rw [cell_of_row _ _ 1 _ 29 (0, 0) r1]; rfl, h0.below hw, h1.below hw⟩ : Below w.heap.size w wx ∧ wx.cell? ⟨w.heap.size, 0, none⟩ = some (.int .i64 D0) ∧ wx.cell? ⟨w.heap.size, 1, none⟩ = some (.slice a0 n0 c0) ∧ wx.cell? ⟨w.heap.size + 1, 0, none⟩ = some (.int .i64 D1) ∧ wx.cell? ⟨w.heap.size + 1, 1, none⟩ = some (.slice a1 n1 c1) ∧ LA 100 wx D0 a0 n0 c0 P0 ∧ LA 100 wx D1 a1 n1 c1 P1))
  clear h0 h1 hB hk0 hk1
  go_enter Try.func27, Try.ntmps27
  go_upto_region 1 with fail
  rw [← e0]
  clear e0
  have hHeld := Below.refl W0.heap.size W0
  obtain ⟨hbw, _, _, _, _, g0, g1⟩ := HS.out _ hHeld
  have CC := Lib.hid (owns_m g1 (by omega))
  obtain ⟨cs, ecs⟩ : ∃ cs, Lab.owns P1 = cs := ⟨_, rfl⟩
  rw [ecs] at CC
  have ECS := Lib.hid ecs
  obtain ⟨_, f0, f1, f2, f3, _⟩ := HS.out _ hHeld
  have HNL := Lib.hid (show (Lab.owns P1).length ≤ 1000 by have := Lab.owns_le P1; have := g1.2.1; omega)
  rw [ecs] at HNL
  clear hHeld hbw g0 g1 ecs
  go_wp2_with fail
  refine CC.out.mono ?_
  clear CC f0 f1 f2 f3
  rintro e w1 ⟨ao, co, rfl, hor, hb⟩
  obtain ⟨n, en⟩ : ∃ n, cs.length = n := ⟨_, rfl⟩
  rw [en] at HNL ⊢
  have EN := Lib.hid en
  have HO := Lib.hid hor
  have HB1 := Lib.hid hb
  clear hor hb en
  go_wp2_with fail
  go_loopg [11] n (fun gh s11 wr => ∃ k : Nat, k ≤ n ∧ gh = n - k ∧ s11 = .int .i64 k ∧ Hid (∀ j x, j < k → cs[j]? = some x → Lab.at' D0 P0 x = 0 ∨ Lab.at' D0 P0 x = 4) ∧ Hid (Below w1.heap.size w1 wr))
  case atStart => exact ⟨0, by omega, by omega, rfl, Lib.hid (fun j x h => by omega), Lib.hid (Below.refl _ _)⟩
  case round =>
    obtain ⟨k, hk, hg, rfl, hT, hI⟩ := hrel
    by_cases hlt : k < n
    · skip
      obtain ⟨x, hx⟩ : ∃ x, cs[k]? = some x := ⟨_, List.getElem?_eq_getElem (by rw [EN.out]; exact hlt)⟩
      have HX := Lib.hid hx
      obtain ⟨bc, oc, rfl, hbc, hcx⟩ := (HO.out.below hI.out) k x hx
      have HW := Lib.hid (HB1.out.trans (hI.out.mono HB1.out.size))
      obtain ⟨_, f0, f1, f2, f3, _⟩ := HS.out _ HW.out
      obtain ⟨_, _, _, _, _, g0, g1⟩ := HS.out _ HW.out
      obtain ⟨l, el⟩ : ∃ l, Lab.at' D0 P0 x = l := ⟨_, rfl⟩
      have CA := at_m x g0
      rw [el] at CA
      have CA := Lib.hid CA
      have EL := Lib.hid el
      have l1 : (k : Int) < n := by omega
      have l2 : RowKit.wrap64 ((k : Int) + 1) = ((k + 1 : Nat) : Int) := by have := HNL.out; unfold RowKit.wrap64; omega
      have l3 : IntKind.i64.wrap ((k : Int) + 1) = ((k + 1 : Nat) : Int) := by have := HNL.out; rw [IntKind.wrap_i64]; omega
      clear hx el g0 g1
      go_wp2_with fail
      refine CA.out.mono ?_
      rintro e wz ⟨rfl, hb⟩
      have HZ := Lib.hid (hI.out.trans (hb.mono hI.out.size))
      clear hb CA f0 f1 f2 f3 hbc hcx
      by_cases h0 : l = 0
      · subst h0
        have hT2 := Lib.hid (show ∀ j y, j < k + 1 → cs[j]? = some y → Lab.at' D0 P0 y = 0 ∨ Lab.at' D0 P0 y = 4 from fun j y hj hy => by
          by_cases h : j = k
          · subst h; rw [HX.out] at hy; cases hy; rw [EL.out]; omega
          · exact hT.out j y (by omega) hy)
        go_wp2_with fail
        go_roundg (n - (k + 1))
        case rel => exact ⟨k + 1, by omega, rfl, by simp, hT2, HZ⟩
        case measure => first | omega | (simp; omega)
      · by_cases h4 : l = 4
        · subst h4
          have hT2 := Lib.hid (show ∀ j y, j < k + 1 → cs[j]? = some y → Lab.at' D0 P0 y = 0 ∨ Lab.at' D0 P0 y = 4 from fun j y hj hy => by
            by_cases h : j = k
            · subst h; rw [HX.out] at hy; cases hy; rw [EL.out]; omega
            · exact hT.out j y (by omega) hy)
          go_wp2_with fail
          go_roundg (n - (k + 1))
          case rel => exact ⟨k + 1, by omega, rfl, by simp, hT2, HZ⟩
          case measure => first | omega | (simp; omega)
        · skip
          have t0 : (l != 0) = true := by simp [h0]
          have t4 : (l != 4) = true := by simp [h4]
          have hfin : tr D0 P0 P1 = false := by
            cases h : tr D0 P0 P1 with
            | false => rfl
            | true => have := tr_iff.1 h x (by rw [ECS.out]; exact List.mem_of_getElem? HX.out); rw [EL.out] at this; omega
          have HE := Lib.hid (HS.out _ (HB1.out.trans (HZ.out.mono HB1.out.size))).1
          go_wp2_with fail
          go_ret
          first | exact ⟨rfl, HE.out⟩ | exact ⟨by rw [hfin]; rfl, HE.out⟩
    · skip
      have l1 : ¬ (k : Int) < n := by omega
      have hfin : tr D0 P0 P1 = true := tr_iff.2 (fun x hx => by
        rw [ECS.out] at hx
        obtain ⟨j, hj⟩ := List.mem_iff_getElem?.1 hx
        exact hT.out j x (by have := (List.getElem?_eq_some_iff.1 hj).1; rw [EN.out] at this; omega) hj)
      have HE := Lib.hid (HS.out _ (HB1.out.trans (hI.out.mono HB1.out.size))).1
      go_wp2_with fail
      go_ret
      first | exact ⟨rfl, HE.out⟩ | exact ⟨by rw [hfin]; rfl, HE.out⟩
set_option maxHeartbeats 2000000 in
set_option maxRecDepth 100000 in
theorem rtrusted_m {w : World} {D0 : Int} {a0 : Option Addr} {n0 c0 : Nat} {P0 : LP} {D1 : Int} {a1 : Option Addr} {n1 c1 : Nat} {P1 : LP} (h0 : LA 100 w D0 a0 n0 c0 P0) (h1 : LA 100 w D1 a1 n1 c1 P1)  : Calls Try.prog 28 #[.agg #[.int .i64 D0, .slice a0 n0 c0], .agg #[.int .i64 D1, .slice a1 n1 c1]] w (BB w (tr D0 P0 P1)) := by
  obtain ⟨W0, e0⟩ : ∃ W0, W0 = ((w.alloc (Obj.cells #[.int .i64 D0, .slice a0 n0 c0] 29)).alloc (Obj.cells #[.int .i64 D1, .slice a1 n1 c1] 29)) := ⟨_, rfl⟩
  have hB : Below w.heap.size w W0 := by rw [e0]; exact (((Below.refl w.heap.size w).alloc (by omega) _).alloc (by simp <;> omega) _)
  have hk0 : W0.heap[w.heap.size]? = some (Obj.cells #[.int .i64 D0, .slice a0 n0 c0] 29) := by
    rw [e0]
    rw [Below.heap_alloc _ _ _ (by simp <;> omega)]
    have := heap_alloc_new w (Obj.cells #[.int .i64 D0, .slice a0 n0 c0] 29); simpa using this
  have hk1 : W0.heap[w.heap.size + 1]? = some (Obj.cells #[.int .i64 D1, .slice a1 n1 c1] 29) := by
    rw [e0]
    have := heap_alloc_new (w.alloc (Obj.cells #[.int .i64 D0, .slice a0 n0 c0] 29)) (Obj.cells #[.int .i64 D1, .slice a1 n1 c1] 29); simpa using this
  have HS := Lib.hid (fun (wx : World) (hx : Below W0.heap.size W0 wx) => (by
      have hw : Below w.heap.size w wx := hB.trans (hx.mono hB.size)
      have r0 := (hx.block _ (Array.getElem?_eq_some_iff.1 hk0).1).trans hk0
      have r1 := (hx.block _ (Array.getElem?_eq_some_iff.1 hk1).1).trans hk1
      exact ⟨hw, by rw [cell_of_row _ _ 0 _ 29 (0, 0) r0]; rfl, by rw [cell_of_row _ _ 1 _ 29 (0, 0) r0]; rfl, by rw [cell_of_row _ _ 0 _ 29 (0, 0) r1]; rfl, by rw [cell_of_row _ _ 1 _ 29 (0, 0) r1]; rfl, h0.below hw, h1.below hw⟩ : Below w.heap.size w wx ∧ wx.cell? ⟨w.heap.size, 0, none⟩ = some (.int .i64 D0) ∧ wx.cell? ⟨w.heap.size, 1, none⟩ = some (.slice a0 n0 c0) ∧ wx.cell? ⟨w.heap.size + 1, 0, none⟩ = some (.int .i64 D1) ∧ wx.cell? ⟨w.heap.size + 1, 1, none⟩ = some (.slice a1 n1 c1) ∧ LA 100 wx D0 a0 n0 c0 P0 ∧ LA 100 wx D1 a1 n1 c1 P1))
  clear h0 h1 hB hk0 hk1
  go_enter Try.func28, Try.ntmps28
  go_upto_region 1 with fail
  rw [← e0]
  clear e0
  have hHeld := Below.refl W0.heap.size W0
  obtain ⟨hbw, _, _, _, _, g0, g1⟩ := HS.out _ hHeld
  have CC := Lib.hid (rowns_m g1 (by omega))
  obtain ⟨cs, ecs⟩ : ∃ cs, Lab.owns P1 = cs := ⟨_, rfl⟩
  rw [ecs] at CC
  have ECS := Lib.hid ecs
  obtain ⟨_, f0, f1, f2, f3, _⟩ := HS.out _ hHeld
  have HNL := Lib.hid (show (Lab.owns P1).length ≤ 1000 by have := Lab.owns_le P1; have := g1.2.1; omega)
  rw [ecs] at HNL
  clear hHeld hbw g0 g1 ecs
  go_wp2_with fail
  refine CC.out.mono ?_
  clear CC f0 f1 f2 f3
  rintro e w1 ⟨ao, co, rfl, hor, hb⟩
  obtain ⟨n, en⟩ : ∃ n, cs.length = n := ⟨_, rfl⟩
  rw [en] at HNL ⊢
  have EN := Lib.hid en
  have HO := Lib.hid hor
  have HB1 := Lib.hid hb
  clear hor hb en
  go_wp2_with fail
  go_loopg [6] n (fun gh s6 wr => ∃ k : Nat, k ≤ n ∧ gh = n - k ∧ s6 = .int .i64 k ∧ Hid (∀ j x, j < k → cs[j]? = some x → Lab.at' D0 P0 x = 0 ∨ Lab.at' D0 P0 x = 4) ∧ Hid (Below w1.heap.size w1 wr))
  case atStart => exact ⟨0, by omega, by omega, rfl, Lib.hid (fun j x h => by omega), Lib.hid (Below.refl _ _)⟩
  case round =>
    obtain ⟨k, hk, hg, rfl, hT, hI⟩ := hrel
    by_cases hlt : k < n
    · skip
      obtain ⟨x, hx⟩ : ∃ x, cs[k]? = some x := ⟨_, List.getElem?_eq_getElem (by rw [EN.out]; exact hlt)⟩
      have HX := Lib.hid hx
      obtain ⟨bc, oc, rfl, hbc, hcx⟩ := (HO.out.below hI.out) k x hx
      have HW := Lib.hid (HB1.out.trans (hI.out.mono HB1.out.size))
      obtain ⟨_, f0, f1, f2, f3, _⟩ := HS.out _ HW.out
      obtain ⟨_, _, _, _, _, g0, g1⟩ := HS.out _ HW.out
      obtain ⟨l, el⟩ : ∃ l, Lab.at' D0 P0 x = l := ⟨_, rfl⟩
      have CA := rat_m x g0
      rw [el] at CA
      have CA := Lib.hid CA
      have EL := Lib.hid el
      have l1 : (k : Int) < n := by omega
      have l2 : RowKit.wrap64 ((k : Int) + 1) = ((k + 1 : Nat) : Int) := by have := HNL.out; unfold RowKit.wrap64; omega
      have l3 : IntKind.i64.wrap ((k : Int) + 1) = ((k + 1 : Nat) : Int) := by have := HNL.out; rw [IntKind.wrap_i64]; omega
      clear hx el g0 g1
      clear f0 f1 f2 f3
      go_upto_region 5 with fail
      have hcx2 : ∀ wx, Below wr.heap.size wr wx → wx.cell? ⟨bc, oc + k, none⟩ = some (.int .u32 (x : Nat)) := fun wx h => by rw [h.cell (p := ⟨bc, _, none⟩) hbc]; exact hcx
      have HCX := Lib.hid hcx2
      have HSZ := Lib.hid hbc
      clear hbc hcx hcx2
      refine region_AU (Z := fun j => false) (S := fun w' => Below wr.heap.size wr w') (by kernel_rfl) ((Below.refl _ _).drew) (fun hHeld => ?_)
      refine AUS_take (by kernel_rfl) rfl (i := 0) (oi := _) (v := ?vw1) rfl (by kernel_rfl) (by kernel_rfl) (by kernel_rfl) (fun _ _ _ h => h) (Or.inl ⟨by rfl, ?hz1⟩) hHeld ?rst1
      case hz1 => (intro wS hSw; obtain ⟨_, f0, f1, f2, f3, _⟩ := HS.out wS (HW.out.trans (hSw.mono HW.out.size)); have hcx := HCX.out wS hSw; have hbc := Nat.lt_of_lt_of_le HSZ.out hSw.size; clear hSw; go_simp; try with_reducible rfl)
      simp only [Act.put, List.getElem_toArray, List.getElem_cons_zero, List.getElem_cons_succ, List.setIfInBounds_toArray, List.set_cons_zero, List.set_cons_succ]
      refine AUS_take (by kernel_rfl) rfl (i := 1) (oi := _) (v := ?vw2) rfl (by kernel_rfl) (by kernel_rfl) (by kernel_rfl) (fun _ _ _ h => h) (Or.inl ⟨by rfl, ?hz2⟩) hHeld ?rst2
      case hz2 => (intro wS hSw; obtain ⟨_, f0, f1, f2, f3, _⟩ := HS.out wS (HW.out.trans (hSw.mono HW.out.size)); have hcx := HCX.out wS hSw; have hbc := Nat.lt_of_lt_of_le HSZ.out hSw.size; clear hSw; go_simp; try with_reducible rfl)
      simp only [Act.put, List.getElem_toArray, List.getElem_cons_zero, List.getElem_cons_succ, List.setIfInBounds_toArray, List.set_cons_zero, List.set_cons_succ]
      refine AUS_take (by kernel_rfl) rfl (i := 2) (oi := _) (v := ?vw3) rfl (by kernel_rfl) (by kernel_rfl) (by kernel_rfl) (fun _ _ _ h => h) (Or.inl ⟨by rfl, ?hz3⟩) hHeld ?rst3
      case hz3 => (intro wS hSw; obtain ⟨_, f0, f1, f2, f3, _⟩ := HS.out wS (HW.out.trans (hSw.mono HW.out.size)); have hcx := HCX.out wS hSw; have hbc := Nat.lt_of_lt_of_le HSZ.out hSw.size; clear hSw; go_simp; try with_reducible rfl)
      simp only [Act.put, List.getElem_toArray, List.getElem_cons_zero, List.getElem_cons_succ, List.setIfInBounds_toArray, List.set_cons_zero, List.set_cons_succ]
      refine AUS_take (by kernel_rfl) rfl (i := 3) (oi := _) (v := ?vw4) rfl (by kernel_rfl) (by kernel_rfl) (by kernel_rfl) (fun _ _ _ h => h) (Or.inl ⟨by rfl, ?hz4⟩) hHeld ?rst4
      case hz4 => (intro wS hSw; obtain ⟨_, f0, f1, f2, f3, _⟩ := HS.out wS (HW.out.trans (hSw.mono HW.out.size)); have hcx := HCX.out wS hSw; have hbc := Nat.lt_of_lt_of_le HSZ.out hSw.size; clear hSw; go_simp; try with_reducible rfl)
      simp only [Act.put, List.getElem_toArray, List.getElem_cons_zero, List.getElem_cons_succ, List.setIfInBounds_toArray, List.set_cons_zero, List.set_cons_succ]
      refine AUS_take (by kernel_rfl) rfl (i := 4) (oi := _) (v := ?vw5) rfl (by kernel_rfl) (by kernel_rfl) (by kernel_rfl) (fun _ _ _ h => h) (Or.inl ⟨by rfl, ?hz5⟩) hHeld ?rst5
      case hz5 => (intro wS hSw; obtain ⟨_, f0, f1, f2, f3, _⟩ := HS.out wS (HW.out.trans (hSw.mono HW.out.size)); have hcx := HCX.out wS hSw; have hbc := Nat.lt_of_lt_of_le HSZ.out hSw.size; clear hSw; go_simp; try with_reducible rfl)
      simp only [Act.put, List.getElem_toArray, List.getElem_cons_zero, List.getElem_cons_succ, List.setIfInBounds_toArray, List.set_cons_zero, List.set_cons_succ]
      have HH := Lib.hid hHeld
      obtain ⟨_, _, _, _, _, g0, g1⟩ := HS.out _ (HW.out.trans (hHeld.mono HW.out.size))
      have CB := rat_m x g0
      rw [EL.out] at CB
      have CB := Lib.hid CB
      refine AU_one (i := 5) (o := _) (by kernel_rfl) rfl (fun K hK => ?_)
      clear hHeld g0 g1 CA
      go_simp
      refine CB.out.mono ?_
      clear CB
      rintro e wz ⟨rfl, hb⟩
      have hHeld := HH.out.trans (hb.mono HH.out.size)
      clear HH hb
      refine hK.out _ _ (fun _ => hHeld) ?_
      clear hK K
      try simp only [Act.put, List.getElem_toArray, List.getElem_cons_zero, List.getElem_cons_succ, List.setIfInBounds_toArray, List.set_cons_zero, List.set_cons_succ]
      refine AUS_take (by kernel_rfl) rfl (i := 6) (oi := _) (v := ?vw6) rfl (by kernel_rfl) (by kernel_rfl) (by kernel_rfl) (fun _ _ _ h => h) (Or.inl ⟨by rfl, ?hz6⟩) hHeld ?rst6
      case hz6 => (intro wS hSw; skip; clear hSw; go_simp; try with_reducible rfl)
      simp only [Act.put, List.getElem_toArray, List.getElem_cons_zero, List.getElem_cons_succ, List.setIfInBounds_toArray, List.set_cons_zero, List.set_cons_succ]
      have HZ := Lib.hid (hI.out.trans (hHeld.mono hI.out.size))
      clear hHeld
      refine AU_done (by kernel_rfl) ?_ _
      simp only [OnlyN]
      by_cases h0 : l = 0
      · subst h0
        have hT2 := Lib.hid (show ∀ j y, j < k + 1 → cs[j]? = some y → Lab.at' D0 P0 y = 0 ∨ Lab.at' D0 P0 y = 4 from fun j y hj hy => by
          by_cases h : j = k
          · subst h; rw [HX.out] at hy; cases hy; rw [EL.out]; omega
          · exact hT.out j y (by omega) hy)
        go_wp2_with fail
        go_roundg (n - (k + 1))
        case rel => exact ⟨k + 1, by omega, rfl, by simp, hT2, HZ⟩
        case measure => first | omega | (simp; omega)
      · by_cases h4 : l = 4
        · subst h4
          have hT2 := Lib.hid (show ∀ j y, j < k + 1 → cs[j]? = some y → Lab.at' D0 P0 y = 0 ∨ Lab.at' D0 P0 y = 4 from fun j y hj hy => by
            by_cases h : j = k
            · subst h; rw [HX.out] at hy; cases hy; rw [EL.out]; omega
            · exact hT.out j y (by omega) hy)
          go_wp2_with fail
          go_roundg (n - (k + 1))
          case rel => exact ⟨k + 1, by omega, rfl, by simp, hT2, HZ⟩
          case measure => first | omega | (simp; omega)
        · skip
          have t0 : (l != 0) = true := by simp [h0]
          have t4 : (l != 4) = true := by simp [h4]
          have hfin : tr D0 P0 P1 = false := by
            cases h : tr D0 P0 P1 with
            | false => rfl
            | true => have := tr_iff.1 h x (by rw [ECS.out]; exact List.mem_of_getElem? HX.out); rw [EL.out] at this; omega
          have HE := Lib.hid (HS.out _ (HB1.out.trans (HZ.out.mono HB1.out.size))).1
          go_wp2_with fail
          go_ret
          first | exact ⟨rfl, HE.out⟩ | exact ⟨by rw [hfin]; rfl, HE.out⟩
    · skip
      have l1 : ¬ (k : Int) < n := by omega
      have hfin : tr D0 P0 P1 = true := tr_iff.2 (fun x hx => by
        rw [ECS.out] at hx
        obtain ⟨j, hj⟩ := List.mem_iff_getElem?.1 hx
        exact hT.out j x (by have := (List.getElem?_eq_some_iff.1 hj).1; rw [EN.out] at this; omega) hj)
      have HE := Lib.hid (HS.out _ (HB1.out.trans (hI.out.mono HB1.out.size))).1
      go_wp2_with fail
      go_ret
      first | exact ⟨rfl, HE.out⟩ | exact ⟨by rw [hfin]; rfl, HE.out⟩
end Go.Proofs.Ytmbdglhihakkjaa
