/- RulesGates. -/
import Derived.Test.YtmbdglhihakkjaaQn
set_option linter.unusedVariables false
set_option linter.unusedSimpArgs false
namespace Go.Proofs.Ytmbdglhihakkjaa
open Go.RowKit
set_option linter.unusedVariables false
set_option linter.unusedSimpArgs false
set_option maxHeartbeats 40000000 in
set_option maxRecDepth 100000 in
theorem gates_all {w : World} (S0 : Int) {sa0 : Option Addr} {sn0 sc0 : Nat} {ls0 : List Int} (S1 : Int) {sa1 : Option Addr} {sn1 sc1 : Nat} {ls1 : List Int} (x1 : Int) (hx : 0 ≤ x1 ∧ x1 ≤ 4294967295) (h0 : IntsL w (.slice sa0 sn0 sc0) ls0) (h1 : IntsL w (.slice sa1 sn1 sc1) ls1) : Calls Try.prog 8 #[.agg #[.int .i64 S0, .slice sa0 sn0 sc0, .int .i64 S1, .slice sa1 sn1 sc1], .int .u32 x1] w (BB w true) := by
  obtain ⟨D0, eD0⟩ : ∃ D, Lab.seedD S0 = D := ⟨_, rfl⟩
  obtain ⟨P0, eP0⟩ : ∃ P, Lab.seedP S0 ls0 = P := ⟨_, rfl⟩
  have hfs0 := Lab.fine_seed S0 ls0
  rw [eD0, eP0] at hfs0
  have FS0 := Lib.hid hfs0
  have CS0 := Lib.hid (fun (W : World) (h : IntsL W (.slice sa0 sn0 sc0) ls0) => (by have := seed_m S0 sa0 sn0 sc0 ls0 W h; rwa [eD0, eP0] at this : Calls Try.prog 12 #[.agg #[.int .i64 S0, .slice sa0 sn0 sc0]] W (LM 12 W D0 P0)))
  clear hfs0 eD0 eP0
  obtain ⟨D1, eD1⟩ : ∃ D, Lab.seedD S1 = D := ⟨_, rfl⟩
  obtain ⟨P1, eP1⟩ : ∃ P, Lab.seedP S1 ls1 = P := ⟨_, rfl⟩
  have hfs1 := Lab.fine_seed S1 ls1
  rw [eD1, eP1] at hfs1
  have FS1 := Lib.hid hfs1
  have CS1 := Lib.hid (fun (W : World) (h : IntsL W (.slice sa1 sn1 sc1) ls1) => (by have := seed_m S1 sa1 sn1 sc1 ls1 W h; rwa [eD1, eP1] at this : Calls Try.prog 12 #[.agg #[.int .i64 S1, .slice sa1 sn1 sc1]] W (LM 12 W D1 P1)))
  clear hfs1 eD1 eP1
  obtain ⟨W0, e0⟩ : ∃ W0, W0 = (w.alloc (Obj.cells #[.int .i64 S0, .slice sa0 sn0 sc0, .int .i64 S1, .slice sa1 sn1 sc1] 58)) := ⟨_, rfl⟩
  have hB : Below w.heap.size w W0 := by rw [e0]; exact ((Below.refl w.heap.size w).alloc (by omega) _)
  have hk0 : W0.heap[w.heap.size]? = some (Obj.cells #[.int .i64 S0, .slice sa0 sn0 sc0, .int .i64 S1, .slice sa1 sn1 sc1] 58) := by
    rw [e0]
    have := heap_alloc_new w (Obj.cells #[.int .i64 S0, .slice sa0 sn0 sc0, .int .i64 S1, .slice sa1 sn1 sc1] 58); simpa using this
  have HS := Lib.hid (fun (wx : World) (hx : Below W0.heap.size W0 wx) => (by
      have hw : Below w.heap.size w wx := hB.trans (hx.mono hB.size)
      have r0 := block_below hk0 hx
      exact ⟨hw, by rw [cell_of_row _ _ 0 _ 58 (0, 0) r0]; rfl, by rw [cell_of_row _ _ 1 _ 58 (0, 0) r0]; rfl, by rw [cell_of_row _ _ 2 _ 58 (0, 0) r0]; rfl, by rw [cell_of_row _ _ 3 _ 58 (0, 0) r0]; rfl, h0.below hw, h1.below hw⟩ : Below w.heap.size w wx ∧ wx.cell? ⟨w.heap.size, 0, none⟩ = some (.int .i64 S0) ∧ wx.cell? ⟨w.heap.size, 1, none⟩ = some (.slice sa0 sn0 sc0) ∧ wx.cell? ⟨w.heap.size, 2, none⟩ = some (.int .i64 S1) ∧ wx.cell? ⟨w.heap.size, 3, none⟩ = some (.slice sa1 sn1 sc1) ∧ IntsL wx (.slice sa0 sn0 sc0) ls0 ∧ IntsL wx (.slice sa1 sn1 sc1) ls1))
  clear h0 h1 hB hk0
  go_enter Try.func8, Try.ntmps8
  go_wp2_with fail
  rw [← e0]
  clear e0
  refine (fit_m _).mono ?_
  rintro e w1 ⟨rfl, hb1⟩
  have HB1 := Lib.hid hb1
  have HS1 := Lib.hid (fun (wx : World) (hx : Below w1.heap.size w1 wx) => HS.out wx (HB1.out.trans (hx.mono HB1.out.size)))
  clear HS
  have HS := HS1
  clear HS1 HB1 hb1
  obtain ⟨c, hc1, hc2, ec⟩ : ∃ c : Nat, 1 ≤ c ∧ c ≤ 64 ∧ (bits .and .u32 x1 63 + 1) % 4294967296 = (c : Int) := ⟨((bits .and .u32 x1 63 + 1) % 4294967296).toNat, by rw [and63]; omega, by rw [and63]; omega, by rw [and63]; omega⟩
  have HC := Lib.hid (And.intro hc1 hc2)
  have EC := Lib.hid ec
  clear hc1 hc2 ec hx
  go_upto_region 4 with fail
  rw [EC.out]
  have hHeld := Below.refl w1.heap.size w1
  have HH := Lib.hid hHeld
  obtain ⟨_, f0, f1, f2, f3, gs0, gs1⟩ := HS.out _ hHeld
  have CC := Lib.hid (CS0.out _ gs0)
  clear hHeld gs0 gs1
  go_wp2_with fail
  refine CC.out.mono ?_
  clear CC f0 f1 f2 f3
  rintro e wz1 ⟨a20, n20, c20, rfl, l20, hb⟩
  have hHeld := HH.out.trans (hb.mono HH.out.size)
  clear HH hb
  have HH := Lib.hid hHeld
  have CC := Lib.hid (fun W => of_any 4 W)
  clear hHeld
  go_wp2_with fail
  refine (CC.out _).mono ?_
  clear CC
  rintro e wz2 ⟨rfl, hb⟩
  have hHeld := HH.out.trans (hb.mono HH.out.size)
  replace l20 := l20.below hb
  clear HH hb
  have hb3 := below_alloc1 wz2 (Obj.cells #[.int .i64 D0, .slice a20 n20 c20, .int .i64 4, .slice none 0 0] 32)
  obtain ⟨Xt, eX⟩ : ∃ X, X = wz2.alloc (Obj.cells #[.int .i64 D0, .slice a20 n20 c20, .int .i64 4, .slice none 0 0] 32) := ⟨_, rfl⟩
  have HK := Lib.hid (show Xt.heap[wz2.heap.size]? = some (Obj.cells #[.int .i64 D0, .slice a20 n20 c20, .int .i64 4, .slice none 0 0] 32) from by rw [eX]; exact heap_alloc_new _ _)
  have HXt := Lib.hid (show Below w1.heap.size w1 Xt from by rw [eX]; exact hHeld.trans (hb3.mono hHeld.size))
  have HL20 := Lib.hid (show LA 100 Xt D0 a20 n20 c20 P0 from by rw [eX]; exact (l20.la.below hb3).mono (by omega))
  have HL21 := Lib.hid (LA.nil (k := 0) (w := Xt) 4)
  clear hb3 hHeld l20
  go_upto_region 5 with fail
  rw [← eX]
  obtain ⟨Vt, eA⟩ : ∃ A, A = wz2.heap.size := ⟨_, rfl⟩
  rw [← eA] at HK ⊢
  clear eX eA
  have hk0 := HK.out
  have hB := (HS.out Xt HXt.out).1
  have HS := Lib.hid (fun (wx : World) (hx : Below Xt.heap.size Xt wx) => (by
      have hw : Below w.heap.size w wx := hB.trans (hx.mono hB.size)
      have hold := HS.out wx (HXt.out.trans (hx.mono HXt.out.size))
      have r0 := block_below hk0 hx
      exact ⟨hw, hold.2.1, hold.2.2.1, hold.2.2.2.1, hold.2.2.2.2.1, by rw [cell_of_row _ _ 0 _ 32 (0, 0) r0]; rfl, by rw [cell_of_row _ _ 1 _ 32 (0, 0) r0]; rfl, by rw [cell_of_row _ _ 2 _ 32 (0, 0) r0]; rfl, by rw [cell_of_row _ _ 3 _ 32 (0, 0) r0]; rfl, hold.2.2.2.2.2.1, hold.2.2.2.2.2.2, HL20.out.below hx, HL21.out.below hx⟩ : Below w.heap.size w wx ∧ wx.cell? ⟨w.heap.size, 0, none⟩ = some (.int .i64 S0) ∧ wx.cell? ⟨w.heap.size, 1, none⟩ = some (.slice sa0 sn0 sc0) ∧ wx.cell? ⟨w.heap.size, 2, none⟩ = some (.int .i64 S1) ∧ wx.cell? ⟨w.heap.size, 3, none⟩ = some (.slice sa1 sn1 sc1) ∧ wx.cell? ⟨Vt, 0, none⟩ = some (.int .i64 D0) ∧ wx.cell? ⟨Vt, 1, none⟩ = some (.slice a20 n20 c20) ∧ wx.cell? ⟨Vt, 2, none⟩ = some (.int .i64 4) ∧ wx.cell? ⟨Vt, 3, none⟩ = some (.slice none 0 0) ∧ IntsL wx (.slice sa0 sn0 sc0) ls0 ∧ IntsL wx (.slice sa1 sn1 sc1) ls1 ∧ LA 100 wx D0 a20 n20 c20 P0 ∧ LA 0 wx 4 none 0 0 []))
  clear hk0 hB HK
  have hHeld := Below.refl Xt.heap.size Xt
  have HH := Lib.hid hHeld
  obtain ⟨_, f0, f1, f2, f3, f4, f5, f6, f7, gs0, gs1, g20, g21⟩ := HS.out _ hHeld
  have CC := Lib.hid (CS1.out _ gs1)
  clear hHeld gs0 gs1 g20 g21
  go_wp2_with fail
  refine CC.out.mono ?_
  clear CC f0 f1 f2 f3 f4 f5 f6 f7
  rintro e wz3 ⟨a22, n22, c22, rfl, l22, hb⟩
  have hHeld := HH.out.trans (hb.mono HH.out.size)
  clear HH hb
  have HH := Lib.hid hHeld
  have CC := Lib.hid (with_m c 0 l22.la (by have := HC.out; omega) (by have := HC.out; omega) (by omega))
  clear hHeld
  go_wp2_with fail
  refine CC.out.mono ?_
  clear CC
  rintro e wzw ⟨a23, n23, c23, rfl, l23, hb⟩
  have hHeld := HH.out.trans (hb.mono HH.out.size)
  replace l22 := l22.below hb
  clear HH hb
  have HH := Lib.hid hHeld
  have CC := Lib.hid (fun W => of_any 4 W)
  clear hHeld
  go_wp2_with fail
  refine (CC.out _).mono ?_
  clear CC
  rintro e wz4 ⟨rfl, hb⟩
  have hHeld := HH.out.trans (hb.mono HH.out.size)
  replace l22 := l22.below hb
  replace l23 := l23.below hb
  clear HH hb
  have hb3 := below_alloc1 wz4 (Obj.cells #[.int .i64 D1, .slice a23 n23 c23, .int .i64 4, .slice none 0 0] 32)
  obtain ⟨Xg, eX⟩ : ∃ X, X = wz4.alloc (Obj.cells #[.int .i64 D1, .slice a23 n23 c23, .int .i64 4, .slice none 0 0] 32) := ⟨_, rfl⟩
  have HK := Lib.hid (show Xg.heap[wz4.heap.size]? = some (Obj.cells #[.int .i64 D1, .slice a23 n23 c23, .int .i64 4, .slice none 0 0] 32) from by rw [eX]; exact heap_alloc_new _ _)
  have HXg := Lib.hid (show Below Xt.heap.size Xt Xg from by rw [eX]; exact hHeld.trans (hb3.mono hHeld.size))
  have HL23 := Lib.hid (show LA 100 Xg D1 a23 n23 c23 (Lab.put D1 P1 c 0) from by rw [eX]; exact (l23.la.below hb3).mono (by omega))
  have HL24 := Lib.hid (LA.nil (k := 0) (w := Xg) 4)
  clear hb3 hHeld l22 l23
  go_upto_region 6 with fail
  rw [← eX]
  obtain ⟨Vg, eA⟩ : ∃ A, A = wz4.heap.size := ⟨_, rfl⟩
  rw [← eA] at HK ⊢
  clear eX eA
  have hk0 := HK.out
  have hB := (HS.out Xg HXg.out).1
  have HS := Lib.hid (fun (wx : World) (hx : Below Xg.heap.size Xg wx) => (by
      have hw : Below w.heap.size w wx := hB.trans (hx.mono hB.size)
      have hold := HS.out wx (HXg.out.trans (hx.mono HXg.out.size))
      have r0 := block_below hk0 hx
      exact ⟨hw, hold.2.1, hold.2.2.1, hold.2.2.2.1, hold.2.2.2.2.1, hold.2.2.2.2.2.1, hold.2.2.2.2.2.2.1, hold.2.2.2.2.2.2.2.1, hold.2.2.2.2.2.2.2.2.1, by rw [cell_of_row _ _ 0 _ 32 (0, 0) r0]; rfl, by rw [cell_of_row _ _ 1 _ 32 (0, 0) r0]; rfl, by rw [cell_of_row _ _ 2 _ 32 (0, 0) r0]; rfl, by rw [cell_of_row _ _ 3 _ 32 (0, 0) r0]; rfl, hold.2.2.2.2.2.2.2.2.2.1, hold.2.2.2.2.2.2.2.2.2.2.1, hold.2.2.2.2.2.2.2.2.2.2.2.1, hold.2.2.2.2.2.2.2.2.2.2.2.2, HL23.out.below hx, HL24.out.below hx⟩ : Below w.heap.size w wx ∧ wx.cell? ⟨w.heap.size, 0, none⟩ = some (.int .i64 S0) ∧ wx.cell? ⟨w.heap.size, 1, none⟩ = some (.slice sa0 sn0 sc0) ∧ wx.cell? ⟨w.heap.size, 2, none⟩ = some (.int .i64 S1) ∧ wx.cell? ⟨w.heap.size, 3, none⟩ = some (.slice sa1 sn1 sc1) ∧ wx.cell? ⟨Vt, 0, none⟩ = some (.int .i64 D0) ∧ wx.cell? ⟨Vt, 1, none⟩ = some (.slice a20 n20 c20) ∧ wx.cell? ⟨Vt, 2, none⟩ = some (.int .i64 4) ∧ wx.cell? ⟨Vt, 3, none⟩ = some (.slice none 0 0) ∧ wx.cell? ⟨Vg, 0, none⟩ = some (.int .i64 D1) ∧ wx.cell? ⟨Vg, 1, none⟩ = some (.slice a23 n23 c23) ∧ wx.cell? ⟨Vg, 2, none⟩ = some (.int .i64 4) ∧ wx.cell? ⟨Vg, 3, none⟩ = some (.slice none 0 0) ∧ IntsL wx (.slice sa0 sn0 sc0) ls0 ∧ IntsL wx (.slice sa1 sn1 sc1) ls1 ∧ LA 100 wx D0 a20 n20 c20 P0 ∧ LA 0 wx 4 none 0 0 [] ∧ LA 100 wx D1 a23 n23 c23 (Lab.put D1 P1 c 0) ∧ LA 0 wx 4 none 0 0 []))
  clear hk0 hB HK
  have hHeld := Below.refl Xg.heap.size Xg
  have HH := Lib.hid hHeld
  obtain ⟨hbw, _, _, _, _, _, _, _, _, _, _, _, _, gs0, gs1, g20, g21, g23, g24⟩ := HS.out _ hHeld
  have CC := Lib.hid (least_m (g20.mono (by omega)) (g23.mono (by omega)))
  clear hHeld hbw gs0 gs1 g20 g21 g23 g24
  obtain ⟨_, f0, f1, f2, f3, f4, f5, f6, f7, f8, f9, f10, f11, _, _, _, _, _, _⟩ := HS.out _ HH.out
  go_wp2_with fail
  refine CC.out.mono ?_
  clear CC f0 f1 f2 f3 f4 f5 f6 f7 f8 f9 f10 f11
  rintro e wz5 ⟨a2, n2, c2, rfl, l2, hb⟩
  have hHeld := HH.out.trans (hb.mono HH.out.size)
  clear HH hb
  have hb3 := below_alloc1 wz5 (Obj.cells #[.int .i64 (lsD D0 D1), .slice a2 n2 c2] 29)
  obtain ⟨Xm, eX⟩ : ∃ X, X = wz5.alloc (Obj.cells #[.int .i64 (lsD D0 D1), .slice a2 n2 c2] 29) := ⟨_, rfl⟩
  have HK := Lib.hid (show Xm.heap[wz5.heap.size]? = some (Obj.cells #[.int .i64 (lsD D0 D1), .slice a2 n2 c2] 29) from by rw [eX]; exact heap_alloc_new _ _)
  have HXm := Lib.hid (show Below Xg.heap.size Xg Xm from by rw [eX]; exact hHeld.trans (hb3.mono hHeld.size))
  have HL2 := Lib.hid (show LA 1000 Xm (lsD D0 D1) a2 n2 c2 (lsP D0 P0 D1 (Lab.put D1 P1 c 0)) from by rw [eX]; exact (l2.la.below hb3).mono (by omega))
  clear hb3 hHeld l2
  go_upto_region 7 with fail
  rw [← eX]
  obtain ⟨Vm, eA⟩ : ∃ A, A = wz5.heap.size := ⟨_, rfl⟩
  rw [← eA] at HK ⊢
  clear eX eA
  have hk0 := HK.out
  have hB := (HS.out Xm HXm.out).1
  have HS := Lib.hid (fun (wx : World) (hx : Below Xm.heap.size Xm wx) => (by
      have hw : Below w.heap.size w wx := hB.trans (hx.mono hB.size)
      have hold := HS.out wx (HXm.out.trans (hx.mono HXm.out.size))
      have r0 := block_below hk0 hx
      exact ⟨hw, hold.2.1, hold.2.2.1, hold.2.2.2.1, hold.2.2.2.2.1, hold.2.2.2.2.2.1, hold.2.2.2.2.2.2.1, hold.2.2.2.2.2.2.2.1, hold.2.2.2.2.2.2.2.2.1, hold.2.2.2.2.2.2.2.2.2.1, hold.2.2.2.2.2.2.2.2.2.2.1, hold.2.2.2.2.2.2.2.2.2.2.2.1, hold.2.2.2.2.2.2.2.2.2.2.2.2.1, by rw [cell_of_row _ _ 0 _ 29 (0, 0) r0]; rfl, by rw [cell_of_row _ _ 1 _ 29 (0, 0) r0]; rfl, hold.2.2.2.2.2.2.2.2.2.2.2.2.2.1, hold.2.2.2.2.2.2.2.2.2.2.2.2.2.2.1, hold.2.2.2.2.2.2.2.2.2.2.2.2.2.2.2.1, hold.2.2.2.2.2.2.2.2.2.2.2.2.2.2.2.2.1, hold.2.2.2.2.2.2.2.2.2.2.2.2.2.2.2.2.2.1, hold.2.2.2.2.2.2.2.2.2.2.2.2.2.2.2.2.2.2, HL2.out.below hx⟩ : Below w.heap.size w wx ∧ wx.cell? ⟨w.heap.size, 0, none⟩ = some (.int .i64 S0) ∧ wx.cell? ⟨w.heap.size, 1, none⟩ = some (.slice sa0 sn0 sc0) ∧ wx.cell? ⟨w.heap.size, 2, none⟩ = some (.int .i64 S1) ∧ wx.cell? ⟨w.heap.size, 3, none⟩ = some (.slice sa1 sn1 sc1) ∧ wx.cell? ⟨Vt, 0, none⟩ = some (.int .i64 D0) ∧ wx.cell? ⟨Vt, 1, none⟩ = some (.slice a20 n20 c20) ∧ wx.cell? ⟨Vt, 2, none⟩ = some (.int .i64 4) ∧ wx.cell? ⟨Vt, 3, none⟩ = some (.slice none 0 0) ∧ wx.cell? ⟨Vg, 0, none⟩ = some (.int .i64 D1) ∧ wx.cell? ⟨Vg, 1, none⟩ = some (.slice a23 n23 c23) ∧ wx.cell? ⟨Vg, 2, none⟩ = some (.int .i64 4) ∧ wx.cell? ⟨Vg, 3, none⟩ = some (.slice none 0 0) ∧ wx.cell? ⟨Vm, 0, none⟩ = some (.int .i64 (lsD D0 D1)) ∧ wx.cell? ⟨Vm, 1, none⟩ = some (.slice a2 n2 c2) ∧ IntsL wx (.slice sa0 sn0 sc0) ls0 ∧ IntsL wx (.slice sa1 sn1 sc1) ls1 ∧ LA 100 wx D0 a20 n20 c20 P0 ∧ LA 0 wx 4 none 0 0 [] ∧ LA 100 wx D1 a23 n23 c23 (Lab.put D1 P1 c 0) ∧ LA 0 wx 4 none 0 0 [] ∧ LA 1000 wx (lsD D0 D1) a2 n2 c2 (lsP D0 P0 D1 (Lab.put D1 P1 c 0))))
  clear hk0 hB HK
  have hHeld := Below.refl Xm.heap.size Xm
  have HH := Lib.hid hHeld
  obtain ⟨_, f0, f1, f2, f3, f4, f5, f6, f7, f8, f9, f10, f11, f12, f13, gs0, gs1, g20, g21, g23, g24, g2⟩ := HS.out _ hHeld
  have CC := at_m c g2
  rw [gates_owned FS0.out.1 FS1.out.1 HC.out.1 (by have := HC.out; omega)] at CC
  have CC := Lib.hid CC
  clear hHeld gs0 gs1 g20 g21 g23 g24 g2
  go_wp2_with fail
  refine CC.out.mono ?_
  clear CC f0 f1 f2 f3 f4 f5 f6 f7 f8 f9 f10 f11 f12 f13
  rintro e wza ⟨rfl, hb⟩
  have hHeld := HH.out.trans (hb.mono HH.out.size)
  clear HH hb
  go_upto_region 9 with fail
  have EG := Lib.hid (show decide ((lsD D0 1) = D0 ∧ (lsP D0 P0 1 []) = P0) = true from decide_eq_true (gates_none FS0.out.1))
  refine region_AU (Z := fun j => false) (S := fun w' => Below Xm.heap.size Xm w') (by kernel_rfl) (hHeld.drew) (fun hHeld => ?_)
  refine AUS_take (by kernel_rfl) rfl (i := 0) (oi := _) (v := ?vw1) rfl (by kernel_rfl) (by kernel_rfl) (by kernel_rfl) (fun _ _ _ h => h) (Or.inl ⟨by rfl, ?hz1⟩) hHeld ?rst1
  case hz1 => (intro wS hSw; obtain ⟨_, f0, f1, f2, f3, f4, f5, f6, f7, f8, f9, f10, f11, f12, f13, _, _, _, _, _, _, _⟩ := HS.out wS hSw; clear hSw; go_simp; try with_reducible rfl)
  simp only [Act.put, List.getElem_toArray, List.getElem_cons_zero, List.getElem_cons_succ, List.setIfInBounds_toArray, List.set_cons_zero, List.set_cons_succ]
  refine AUS_take (by kernel_rfl) rfl (i := 1) (oi := _) (v := ?vw2) rfl (by kernel_rfl) (by kernel_rfl) (by kernel_rfl) (fun _ _ _ h => h) (Or.inl ⟨by rfl, ?hz2⟩) hHeld ?rst2
  case hz2 => (intro wS hSw; obtain ⟨_, f0, f1, f2, f3, f4, f5, f6, f7, f8, f9, f10, f11, f12, f13, _, _, _, _, _, _, _⟩ := HS.out wS hSw; clear hSw; go_simp; try with_reducible rfl)
  simp only [Act.put, List.getElem_toArray, List.getElem_cons_zero, List.getElem_cons_succ, List.setIfInBounds_toArray, List.set_cons_zero, List.set_cons_succ]
  refine AUS_take (by kernel_rfl) rfl (i := 4) (oi := _) (v := ?vw3) rfl (by kernel_rfl) (by kernel_rfl) (by kernel_rfl) (fun _ _ _ h => h) (Or.inl ⟨by rfl, ?hz3⟩) hHeld ?rst3
  case hz3 => (intro wS hSw; obtain ⟨_, f0, f1, f2, f3, f4, f5, f6, f7, f8, f9, f10, f11, f12, f13, _, _, _, _, _, _, _⟩ := HS.out wS hSw; clear hSw; go_simp; try with_reducible rfl)
  simp only [Act.put, List.getElem_toArray, List.getElem_cons_zero, List.getElem_cons_succ, List.setIfInBounds_toArray, List.set_cons_zero, List.set_cons_succ]
  refine AUS_take (by kernel_rfl) rfl (i := 5) (oi := _) (v := ?vw4) rfl (by kernel_rfl) (by kernel_rfl) (by kernel_rfl) (fun _ _ _ h => h) (Or.inl ⟨by rfl, ?hz4⟩) hHeld ?rst4
  case hz4 => (intro wS hSw; obtain ⟨_, f0, f1, f2, f3, f4, f5, f6, f7, f8, f9, f10, f11, f12, f13, _, _, _, _, _, _, _⟩ := HS.out wS hSw; clear hSw; go_simp; try with_reducible rfl)
  simp only [Act.put, List.getElem_toArray, List.getElem_cons_zero, List.getElem_cons_succ, List.setIfInBounds_toArray, List.set_cons_zero, List.set_cons_succ]
  have HH := Lib.hid hHeld
  obtain ⟨hbw, _, _, _, _, _, _, _, _, _, _, _, _, _, _, gs0, gs1, g20, g21, g23, g24, g2⟩ := HS.out _ hHeld
  refine AU_one (i := 2) (o := _) (by kernel_rfl) rfl (fun K hK => ?_)
  have CC := Lib.hid (fun W => of_any 1 W)
  clear hHeld hbw gs0 gs1 g20 g21 g23 g24 g2
  go_simp
  refine (CC.out _).mono ?_
  clear CC
  rintro e wz6 ⟨rfl, hb⟩
  have hHeld := HH.out.trans (hb.mono HH.out.size)
  clear HH hb
  refine hK.out _ _ (fun _ => hHeld) ?_
  clear hK K
  try simp only [Act.put, List.getElem_toArray, List.getElem_cons_zero, List.getElem_cons_succ, List.setIfInBounds_toArray, List.set_cons_zero, List.set_cons_succ]
  have HH := Lib.hid hHeld
  obtain ⟨hbw, _, _, _, _, _, _, _, _, _, _, _, _, _, _, gs0, gs1, g20, g21, g23, g24, g2⟩ := HS.out _ hHeld
  refine AU_one (i := 3) (o := _) (by kernel_rfl) rfl (fun K hK => ?_)
  have CC := Lib.hid (least_m (g20.mono (by omega)) ((LA.nil (k := 0) 1).mono (by omega)))
  clear hHeld hbw gs0 gs1 g20 g21 g23 g24 g2
  go_simp
  refine CC.out.mono ?_
  clear CC
  rintro e wz7 ⟨a3, n3, c3, rfl, l3, hb⟩
  have hHeld := HH.out.trans (hb.mono HH.out.size)
  clear HH hb
  refine hK.out _ _ (fun _ => hHeld) ?_
  clear hK K
  try simp only [Act.put, List.getElem_toArray, List.getElem_cons_zero, List.getElem_cons_succ, List.setIfInBounds_toArray, List.set_cons_zero, List.set_cons_succ]
  have HH := Lib.hid hHeld
  obtain ⟨hbw, _, _, _, _, _, _, _, _, _, _, _, _, _, _, gs0, gs1, g20, g21, g23, g24, g2⟩ := HS.out _ hHeld
  refine AU_one (i := 6) (o := _) (by kernel_rfl) rfl (fun K hK => ?_)
  have CC := lsame_m l3.la g20
  rw [EG.out] at CC
  have CC := Lib.hid CC
  clear hHeld hbw gs0 gs1 g20 g21 g23 g24 g2
  go_simp
  refine CC.out.mono ?_
  clear CC
  rintro e wz8 ⟨rfl, hb⟩
  have hHeld := HH.out.trans (hb.mono HH.out.size)
  replace l3 := l3.below hb
  clear HH hb
  refine hK.out _ _ (fun _ => hHeld) ?_
  clear hK K
  try simp only [Act.put, List.getElem_toArray, List.getElem_cons_zero, List.getElem_cons_succ, List.setIfInBounds_toArray, List.set_cons_zero, List.set_cons_succ]
  refine AUS_take (by kernel_rfl) rfl (i := 7) (oi := _) (v := ?vw5) rfl (by kernel_rfl) (by kernel_rfl) (by kernel_rfl) (fun _ _ _ h => h) (Or.inl ⟨by rfl, ?hz5⟩) hHeld ?rst5
  case hz5 => (intro wS hSw; obtain ⟨_, f0, f1, f2, f3, f4, f5, f6, f7, f8, f9, f10, f11, f12, f13, _, _, _, _, _, _, _⟩ := HS.out wS hSw; clear hSw; go_simp; try with_reducible rfl)
  simp only [Act.put, List.getElem_toArray, List.getElem_cons_zero, List.getElem_cons_succ, List.setIfInBounds_toArray, List.set_cons_zero, List.set_cons_succ]
  have HE := Lib.hid hHeld
  clear hHeld
  refine AU_done (by kernel_rfl) ?_ _
  simp only [OnlyN]
  have hHeld := HE.out
  clear HE
  have HE := Lib.hid (HS.out _ hHeld).1
  clear hHeld
  go_wp2_with fail
  go_ret
  exact ⟨rfl, HE.out⟩
end Go.Proofs.Ytmbdglhihakkjaa
