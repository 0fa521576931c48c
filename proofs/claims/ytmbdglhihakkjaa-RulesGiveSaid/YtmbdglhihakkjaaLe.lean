/- RulesGive. -/
import Derived.Test.YtmbdglhihakkjaaQn
import Derived.Test.YtmbdglhihakkjaaQf
import Derived.Test.YtmbdglhihakkjaaQj
set_option linter.unusedVariables false
set_option linter.unusedSimpArgs false
namespace Go.Proofs.Ytmbdglhihakkjaa
open Go.RowKit
set_option linter.unusedVariables false
set_option linter.unusedSimpArgs false
set_option maxHeartbeats 40000000 in
set_option maxRecDepth 100000 in
theorem give_all {w : World} (S0 : Int) {sa0 : Option Addr} {sn0 sc0 : Nat} {ls0 : List Int} (S1 : Int) {sa1 : Option Addr} {sn1 sc1 : Nat} {ls1 : List Int} (S2 : Int) {sa2 : Option Addr} {sn2 sc2 : Nat} {ls2 : List Int} (S3 : Int) {sa3 : Option Addr} {sn3 sc3 : Nat} {ls3 : List Int} (S4 : Int) {sa4 : Option Addr} {sn4 sc4 : Nat} {ls4 : List Int} (S5 : Int) {sa5 : Option Addr} {sn5 sc5 : Nat} {ls5 : List Int} (S6 : Int) {sa6 : Option Addr} {sn6 sc6 : Nat} {ls6 : List Int} (x2 : Int) (hx : 0 ≤ x2 ∧ x2 ≤ 4294967295) (h0 : IntsL w (.slice sa0 sn0 sc0) ls0) (h1 : IntsL w (.slice sa1 sn1 sc1) ls1) (h2 : IntsL w (.slice sa2 sn2 sc2) ls2) (h3 : IntsL w (.slice sa3 sn3 sc3) ls3) (h4 : IntsL w (.slice sa4 sn4 sc4) ls4) (h5 : IntsL w (.slice sa5 sn5 sc5) ls5) (h6 : IntsL w (.slice sa6 sn6 sc6) ls6) : Calls Try.prog 4 #[.agg #[.int .i64 S0, .slice sa0 sn0 sc0, .int .i64 S1, .slice sa1 sn1 sc1, .int .i64 S2, .slice sa2 sn2 sc2, .int .i64 S3, .slice sa3 sn3 sc3], .agg #[.int .i64 S4, .slice sa4 sn4 sc4, .int .i64 S5, .slice sa5 sn5 sc5, .int .i64 S6, .slice sa6 sn6 sc6], .int .u32 x2] w (BB w true) := by
  obtain ⟨D0, eD0⟩ : ∃ D, Lab.seedD S0 = D := ⟨_, rfl⟩
  obtain ⟨P0, eP0⟩ : ∃ P, Lab.seedP S0 ls0 = P := ⟨_, rfl⟩
  have hfs0 := Lab.fine_seed S0 ls0
  rw [eD0, eP0] at hfs0
  have FS0 := Lib.hid hfs0
  have CS0 := Lib.hid (fun (W : World) (h : IntsL W (.slice sa0 sn0 sc0) ls0) => (by have := seed_m S0 sa0 sn0 sc0 ls0 W h; rwa [eD0, eP0] at this : Calls Try.prog 12 #[.agg #[.int .i64 S0, .slice sa0 sn0 sc0]] W (LM 12 W D0 P0)))
  clear hfs0 eD0 eP0
  obtain ⟨D1, eD1⟩ : ∃ D, Lab.seedD S1 = D := ⟨_, rfl⟩
  obtain ⟨P1, eP1⟩ : ∃ P, Lab.seedP S1 ls1 = P := ⟨_, rfl⟩
  have hfs1 := Lab.fine_seed S1 ls1
  rw [eD1, eP1] at hfs1
  have FS1 := Lib.hid hfs1
  have CS1 := Lib.hid (fun (W : World) (h : IntsL W (.slice sa1 sn1 sc1) ls1) => (by have := seed_m S1 sa1 sn1 sc1 ls1 W h; rwa [eD1, eP1] at this : Calls Try.prog 12 #[.agg #[.int .i64 S1, .slice sa1 sn1 sc1]] W (LM 12 W D1 P1)))
  clear hfs1 eD1 eP1
  obtain ⟨D2, eD2⟩ : ∃ D, Lab.seedD S2 = D := ⟨_, rfl⟩
  obtain ⟨P2, eP2⟩ : ∃ P, Lab.seedP S2 ls2 = P := ⟨_, rfl⟩
  have hfs2 := Lab.fine_seed S2 ls2
  rw [eD2, eP2] at hfs2
  have FS2 := Lib.hid hfs2
  have CS2 := Lib.hid (fun (W : World) (h : IntsL W (.slice sa2 sn2 sc2) ls2) => (by have := seed_m S2 sa2 sn2 sc2 ls2 W h; rwa [eD2, eP2] at this : Calls Try.prog 12 #[.agg #[.int .i64 S2, .slice sa2 sn2 sc2]] W (LM 12 W D2 P2)))
  clear hfs2 eD2 eP2
  obtain ⟨D3, eD3⟩ : ∃ D, Lab.seedD S3 = D := ⟨_, rfl⟩
  obtain ⟨P3, eP3⟩ : ∃ P, Lab.seedP S3 ls3 = P := ⟨_, rfl⟩
  have hfs3 := Lab.fine_seed S3 ls3
  rw [eD3, eP3] at hfs3
  have FS3 := Lib.hid hfs3
  have CS3 := Lib.hid (fun (W : World) (h : IntsL W (.slice sa3 sn3 sc3) ls3) => (by have := seed_m S3 sa3 sn3 sc3 ls3 W h; rwa [eD3, eP3] at this : Calls Try.prog 12 #[.agg #[.int .i64 S3, .slice sa3 sn3 sc3]] W (LM 12 W D3 P3)))
  clear hfs3 eD3 eP3
  obtain ⟨D4, eD4⟩ : ∃ D, Lab.seedD S4 = D := ⟨_, rfl⟩
  obtain ⟨P4, eP4⟩ : ∃ P, Lab.seedP S4 ls4 = P := ⟨_, rfl⟩
  have hfs4 := Lab.fine_seed S4 ls4
  rw [eD4, eP4] at hfs4
  have FS4 := Lib.hid hfs4
  have CS4 := Lib.hid (fun (W : World) (h : IntsL W (.slice sa4 sn4 sc4) ls4) => (by have := seed_m S4 sa4 sn4 sc4 ls4 W h; rwa [eD4, eP4] at this : Calls Try.prog 12 #[.agg #[.int .i64 S4, .slice sa4 sn4 sc4]] W (LM 12 W D4 P4)))
  clear hfs4 eD4 eP4
  obtain ⟨D5, eD5⟩ : ∃ D, Lab.seedD S5 = D := ⟨_, rfl⟩
  obtain ⟨P5, eP5⟩ : ∃ P, Lab.seedP S5 ls5 = P := ⟨_, rfl⟩
  have hfs5 := Lab.fine_seed S5 ls5
  rw [eD5, eP5] at hfs5
  have FS5 := Lib.hid hfs5
  have CS5 := Lib.hid (fun (W : World) (h : IntsL W (.slice sa5 sn5 sc5) ls5) => (by have := seed_m S5 sa5 sn5 sc5 ls5 W h; rwa [eD5, eP5] at this : Calls Try.prog 12 #[.agg #[.int .i64 S5, .slice sa5 sn5 sc5]] W (LM 12 W D5 P5)))
  clear hfs5 eD5 eP5
  obtain ⟨D6, eD6⟩ : ∃ D, Lab.seedD S6 = D := ⟨_, rfl⟩
  obtain ⟨P6, eP6⟩ : ∃ P, Lab.seedP S6 ls6 = P := ⟨_, rfl⟩
  have hfs6 := Lab.fine_seed S6 ls6
  rw [eD6, eP6] at hfs6
  have FS6 := Lib.hid hfs6
  have CS6 := Lib.hid (fun (W : World) (h : IntsL W (.slice sa6 sn6 sc6) ls6) => (by have := seed_m S6 sa6 sn6 sc6 ls6 W h; rwa [eD6, eP6] at this : Calls Try.prog 12 #[.agg #[.int .i64 S6, .slice sa6 sn6 sc6]] W (LM 12 W D6 P6)))
  clear hfs6 eD6 eP6
  obtain ⟨W0, e0⟩ : ∃ W0, W0 = ((w.alloc (Obj.cells #[.int .i64 S0, .slice sa0 sn0 sc0, .int .i64 S1, .slice sa1 sn1 sc1, .int .i64 S2, .slice sa2 sn2 sc2, .int .i64 S3, .slice sa3 sn3 sc3] 25)).alloc (Obj.cells #[.int .i64 S4, .slice sa4 sn4 sc4, .int .i64 S5, .slice sa5 sn5 sc5, .int .i64 S6, .slice sa6 sn6 sc6] 41)) := ⟨_, rfl⟩
  have hB : Below w.heap.size w W0 := by rw [e0]; exact (((Below.refl w.heap.size w).alloc (by omega) _).alloc (by simp <;> omega) _)
  have hk0 : W0.heap[w.heap.size]? = some (Obj.cells #[.int .i64 S0, .slice sa0 sn0 sc0, .int .i64 S1, .slice sa1 sn1 sc1, .int .i64 S2, .slice sa2 sn2 sc2, .int .i64 S3, .slice sa3 sn3 sc3] 25) := by
    rw [e0]
    rw [Below.heap_alloc _ _ _ (by simp <;> omega)]
    have := heap_alloc_new w (Obj.cells #[.int .i64 S0, .slice sa0 sn0 sc0, .int .i64 S1, .slice sa1 sn1 sc1, .int .i64 S2, .slice sa2 sn2 sc2, .int .i64 S3, .slice sa3 sn3 sc3] 25); simpa using this
  have hk1 : W0.heap[w.heap.size + 1]? = some (Obj.cells #[.int .i64 S4, .slice sa4 sn4 sc4, .int .i64 S5, .slice sa5 sn5 sc5, .int .i64 S6, .slice sa6 sn6 sc6] 41) := by
    rw [e0]
    have := heap_alloc_new (w.alloc (Obj.cells #[.int .i64 S0, .slice sa0 sn0 sc0, .int .i64 S1, .slice sa1 sn1 sc1, .int .i64 S2, .slice sa2 sn2 sc2, .int .i64 S3, .slice sa3 sn3 sc3] 25)) (Obj.cells #[.int .i64 S4, .slice sa4 sn4 sc4, .int .i64 S5, .slice sa5 sn5 sc5, .int .i64 S6, .slice sa6 sn6 sc6] 41); simpa using this
  have HS := Lib.hid (fun (wx : World) (hx : Below W0.heap.size W0 wx) => (by
      have hw : Below w.heap.size w wx := hB.trans (hx.mono hB.size)
      have r0 := block_below hk0 hx
      have r1 := block_below hk1 hx
      exact ⟨hw, by rw [cell_of_row _ _ 0 _ 25 (0, 0) r0]; rfl, by rw [cell_of_row _ _ 1 _ 25 (0, 0) r0]; rfl, by rw [cell_of_row _ _ 2 _ 25 (0, 0) r0]; rfl, by rw [cell_of_row _ _ 3 _ 25 (0, 0) r0]; rfl, by rw [cell_of_row _ _ 4 _ 25 (0, 0) r0]; rfl, by rw [cell_of_row _ _ 5 _ 25 (0, 0) r0]; rfl, by rw [cell_of_row _ _ 6 _ 25 (0, 0) r0]; rfl, by rw [cell_of_row _ _ 7 _ 25 (0, 0) r0]; rfl, by rw [cell_of_row _ _ 0 _ 41 (0, 0) r1]; rfl, by rw [cell_of_row _ _ 1 _ 41 (0, 0) r1]; rfl, by rw [cell_of_row _ _ 2 _ 41 (0, 0) r1]; rfl, by rw [cell_of_row _ _ 3 _ 41 (0, 0) r1]; rfl, by rw [cell_of_row _ _ 4 _ 41 (0, 0) r1]; rfl, by rw [cell_of_row _ _ 5 _ 41 (0, 0) r1]; rfl, h0.below hw, h1.below hw, h2.below hw, h3.below hw, h4.below hw, h5.below hw, h6.below hw⟩ : Below w.heap.size w wx ∧ wx.cell? ⟨w.heap.size, 0, none⟩ = some (.int .i64 S0) ∧ wx.cell? ⟨w.heap.size, 1, none⟩ = some (.slice sa0 sn0 sc0) ∧ wx.cell? ⟨w.heap.size, 2, none⟩ = some (.int .i64 S1) ∧ wx.cell? ⟨w.heap.size, 3, none⟩ = some (.slice sa1 sn1 sc1) ∧ wx.cell? ⟨w.heap.size, 4, none⟩ = some (.int .i64 S2) ∧ wx.cell? ⟨w.heap.size, 5, none⟩ = some (.slice sa2 sn2 sc2) ∧ wx.cell? ⟨w.heap.size, 6, none⟩ = some (.int .i64 S3) ∧ wx.cell? ⟨w.heap.size, 7, none⟩ = some (.slice sa3 sn3 sc3) ∧ wx.cell? ⟨w.heap.size + 1, 0, none⟩ = some (.int .i64 S4) ∧ wx.cell? ⟨w.heap.size + 1, 1, none⟩ = some (.slice sa4 sn4 sc4) ∧ wx.cell? ⟨w.heap.size + 1, 2, none⟩ = some (.int .i64 S5) ∧ wx.cell? ⟨w.heap.size + 1, 3, none⟩ = some (.slice sa5 sn5 sc5) ∧ wx.cell? ⟨w.heap.size + 1, 4, none⟩ = some (.int .i64 S6) ∧ wx.cell? ⟨w.heap.size + 1, 5, none⟩ = some (.slice sa6 sn6 sc6) ∧ IntsL wx (.slice sa0 sn0 sc0) ls0 ∧ IntsL wx (.slice sa1 sn1 sc1) ls1 ∧ IntsL wx (.slice sa2 sn2 sc2) ls2 ∧ IntsL wx (.slice sa3 sn3 sc3) ls3 ∧ IntsL wx (.slice sa4 sn4 sc4) ls4 ∧ IntsL wx (.slice sa5 sn5 sc5) ls5 ∧ IntsL wx (.slice sa6 sn6 sc6) ls6))
  clear h0 h1 h2 h3 h4 h5 h6 hB hk0 hk1
  go_enter Try.func4, Try.ntmps4
  go_wp2_with fail
  rw [← e0]
  clear e0
  refine (fit_m _).mono ?_
  rintro e w1 ⟨rfl, hb1⟩
  have HB1 := Lib.hid hb1
  have HS1 := Lib.hid (fun (wx : World) (hx : Below w1.heap.size w1 wx) => HS.out wx (HB1.out.trans (hx.mono HB1.out.size)))
  clear HS
  have HS := HS1
  clear HS1 HB1 hb1
  obtain ⟨c, hc1, hc2, ec⟩ : ∃ c : Nat, 1 ≤ c ∧ c ≤ 64 ∧ (bits .and .u32 x2 63 + 1) % 4294967296 = (c : Int) := ⟨((bits .and .u32 x2 63 + 1) % 4294967296).toNat, by rw [and63]; omega, by rw [and63]; omega, by rw [and63]; omega⟩
  have HC := Lib.hid (And.intro hc1 hc2)
  have EC := Lib.hid ec
  clear hc1 hc2 ec hx
  go_upto_region 3 with fail
  have KS0 := Lib.hid (fun (W : World) (h : Below w1.heap.size w1 W) => (by obtain ⟨_, _, _, _, _, _, _, _, _, _, _, _, _, _, _, hi, _, _, _, _, _, _⟩ := HS.out W h; exact CS0.out W hi : Calls Try.prog 12 #[.agg #[.int .i64 S0, .slice sa0 sn0 sc0]] W (LM 12 W D0 P0)))
  have KS1 := Lib.hid (fun (W : World) (h : Below w1.heap.size w1 W) => (by obtain ⟨_, _, _, _, _, _, _, _, _, _, _, _, _, _, _, _, hi, _, _, _, _, _⟩ := HS.out W h; exact CS1.out W hi : Calls Try.prog 12 #[.agg #[.int .i64 S1, .slice sa1 sn1 sc1]] W (LM 12 W D1 P1)))
  have KS2 := Lib.hid (fun (W : World) (h : Below w1.heap.size w1 W) => (by obtain ⟨_, _, _, _, _, _, _, _, _, _, _, _, _, _, _, _, _, hi, _, _, _, _⟩ := HS.out W h; exact CS2.out W hi : Calls Try.prog 12 #[.agg #[.int .i64 S2, .slice sa2 sn2 sc2]] W (LM 12 W D2 P2)))
  have KS3 := Lib.hid (fun (W : World) (h : Below w1.heap.size w1 W) => (by obtain ⟨_, _, _, _, _, _, _, _, _, _, _, _, _, _, _, _, _, _, hi, _, _, _⟩ := HS.out W h; exact CS3.out W hi : Calls Try.prog 12 #[.agg #[.int .i64 S3, .slice sa3 sn3 sc3]] W (LM 12 W D3 P3)))
  have KS4 := Lib.hid (fun (W : World) (h : Below w1.heap.size w1 W) => (by obtain ⟨_, _, _, _, _, _, _, _, _, _, _, _, _, _, _, _, _, _, _, hi, _, _⟩ := HS.out W h; exact CS4.out W hi : Calls Try.prog 12 #[.agg #[.int .i64 S4, .slice sa4 sn4 sc4]] W (LM 12 W D4 P4)))
  have KS5 := Lib.hid (fun (W : World) (h : Below w1.heap.size w1 W) => (by obtain ⟨_, _, _, _, _, _, _, _, _, _, _, _, _, _, _, _, _, _, _, _, hi, _⟩ := HS.out W h; exact CS5.out W hi : Calls Try.prog 12 #[.agg #[.int .i64 S5, .slice sa5 sn5 sc5]] W (LM 12 W D5 P5)))
  have KS6 := Lib.hid (fun (W : World) (h : Below w1.heap.size w1 W) => (by obtain ⟨_, _, _, _, _, _, _, _, _, _, _, _, _, _, _, _, _, _, _, _, _, hi⟩ := HS.out W h; exact CS6.out W hi : Calls Try.prog 12 #[.agg #[.int .i64 S6, .slice sa6 sn6 sc6]] W (LM 12 W D6 P6)))
  go_cut [7, 8, 20, 21, 22, 23, 24, 25, 26, 27, 28, 29, 30, 31, 32, 33] (fun s7 s8 s20 s21 s22 s23 s24 s25 s26 s27 s28 s29 s30 s31 s32 s33 wx => ∃ V7 a20 n20 c20 a21 n21 c21 V8 a22 n22 c22 a23 n23 c23, s7 = .pointer (some ⟨V7, 0, none⟩) ∧ s8 = .pointer (some ⟨V8, 0, none⟩) ∧ Hid (VW wx V7 32 D0 a20 n20 c20 P0 D1 a21 n21 c21 P1 ∧ VW wx V8 33 D0 a22 n22 c22 P0 D1 a23 n23 c23 P1 ∧ Below w1.heap.size w1 wx))
  case first =>
    refine wp_region_any (by kernel_rfl) ?_
    refine wpAny_inv (I := fun L a wz => ∃ y7 y8 y20 y21 y22 y23 y24 y25 y26 y27 y28 y29 y30 y31 y32 y33 : Value, a = { tmps := #[.agg #[.int .i64 S0, .slice sa0 sn0 sc0, .int .i64 S1, .slice sa1 sn1 sc1, .int .i64 S2, .slice sa2 sn2 sc2, .int .i64 S3, .slice sa3 sn3 sc3], .agg #[.int .i64 S4, .slice sa4 sn4 sc4, .int .i64 S5, .slice sa5 sn5 sc5, .int .i64 S6, .slice sa6 sn6 sc6], .int .u32 x2, .pointer (some ⟨w.heap.size, 0, none⟩), .pointer (some ⟨w.heap.size + 1, 0, none⟩), undef, .bool false, y7, y8, undef, undef, undef, undef, undef, undef, undef, undef, undef, .bool true, .bool false, y20, y21, y22, y23, y24, y25, y26, y27, y28, y29, y30, y31, y32, y33, undef, undef, undef, undef, undef, undef, undef, undef, undef, undef, undef, undef, undef, undef, undef, undef, undef, undef, undef, undef, undef, undef, undef, undef, undef, undef, undef, undef, undef, undef, undef, undef, undef, undef, undef, undef, undef, undef, undef, undef, undef, undef, undef, undef, undef, undef, undef, undef, undef, undef, undef, undef, undef, undef, undef, undef, undef, undef, undef, undef, undef, undef, undef, undef, undef, undef, undef, undef, undef, undef, undef, undef, undef, undef, undef, undef, undef, undef, undef, undef, undef, undef, undef, undef, undef, undef, undef, undef, undef, undef, undef], defers := [] } ∧ Hid (L.size = 18 ∧ Below w1.heap.size w1 wz ∧ (L[0]? = some true → y20 = .pointer (some ⟨w.heap.size, 0, none⟩)) ∧ (L[1]? = some true → y21 = .agg #[.int .i64 S0, .slice sa0 sn0 sc0]) ∧ (L[2]? = some true → CV w1 wz D0 P0 y22) ∧ (L[3]? = some true → y23 = .pointer (some ⟨w.heap.size, 2, none⟩)) ∧ (L[4]? = some true → y24 = .agg #[.int .i64 S1, .slice sa1 sn1 sc1]) ∧ (L[5]? = some true → CV w1 wz D1 P1 y25) ∧ (L[6]? = some true → BV w1 wz D0 P0 D1 P1 y26) ∧ (L[7]? = some true → y27 = .pointer (some ⟨w.heap.size, 0, none⟩)) ∧ (L[8]? = some true → y28 = .agg #[.int .i64 S0, .slice sa0 sn0 sc0]) ∧ (L[9]? = some true → CV w1 wz D0 P0 y29) ∧ (L[10]? = some true → y30 = .pointer (some ⟨w.heap.size, 2, none⟩)) ∧ (L[11]? = some true → y31 = .agg #[.int .i64 S1, .slice sa1 sn1 sc1]) ∧ (L[12]? = some true → CV w1 wz D1 P1 y32) ∧ (L[13]? = some true → BV w1 wz D0 P0 D1 P1 y33) ∧ (L[14]? = some true → N4 w1 wz 32 y7) ∧ (L[15]? = some true → N4 w1 wz 33 y8) ∧ (L[14]? = some true → L[15]? = some true → y7 ≠ y8) ∧ (L[16]? = some true → HV wz 32 y7 y26) ∧ (L[17]? = some true → HV wz 33 y8 y33) ∧ (L[6]? = some true → (L[2]? = some true ∧ L[5]? = some true)) ∧ (L[13]? = some true → (L[9]? = some true ∧ L[12]? = some true)) ∧ (L[16]? = some true → (L[14]? = some true ∧ L[6]? = some true)) ∧ (L[17]? = some true → (L[15]? = some true ∧ L[13]? = some true)))) ?step1 ?fin1 _ _ _ _ ⟨_, _, _, _, _, _, _, _, _, _, _, _, _, _, _, _, rfl, Lib.hid ⟨by rfl, Below.drew (Below.refl _ _), gone (by rfl), gone (by rfl), gone (by rfl), gone (by rfl), gone (by rfl), gone (by rfl), gone (by rfl), gone (by rfl), gone (by rfl), gone (by rfl), gone (by rfl), gone (by rfl), gone (by rfl), gone (by rfl), gone (by rfl), gone (by rfl), gone (by rfl), gone (by rfl), gone (by rfl), gone (by rfl), gone (by rfl), gone (by rfl), gone (by rfl)⟩⟩ (by decide)
    case step1 =>
      intro L a wz i o hI ho hL hdeps K hK
      obtain ⟨y7, y8, y20, y21, y22, y23, y24, y25, y26, y27, y28, y29, y30, y31, y32, y33, rfl, hinv⟩ := hI
      have hi : i < 18 := by have := (Array.getElem?_eq_some_iff.1 ho).1; exact this
      obtain ⟨hN, hbel, z0, z1, z2, z3, z4, z5, z6, z7, z8, z9, z10, z11, z12, z13, z14, z15, z16, z17, z18, z19, z20, z21, z22⟩ := hinv.out
      obtain rfl | rfl | rfl | rfl | rfl | rfl | rfl | rfl | rfl | rfl | rfl | rfl | rfl | rfl | rfl | rfl | rfl | rfl : i = 0 ∨ i = 1 ∨ i = 2 ∨ i = 3 ∨ i = 4 ∨ i = 5 ∨ i = 6 ∨ i = 7 ∨ i = 8 ∨ i = 9 ∨ i = 10 ∨ i = 11 ∨ i = 12 ∨ i = 13 ∨ i = 14 ∨ i = 15 ∨ i = 16 ∨ i = 17 := by omega
      · as_aux_lemma =>
        obtain rfl := Option.some.inj ho
        have Z := hinv
        clear hinv ho hbel hN hdeps z0 z1 z2 z3 z4 z5 z6 z7 z8 z9 z10 z11 z12 z13 z14 z15 z16 z17 z18 z19 z20 z21 z22
        go_simp
        obtain ⟨hN, hbel, z0, z1, z2, z3, z4, z5, z6, z7, z8, z9, z10, z11, z12, z13, z14, z15, z16, z17, z18, z19, z20, z21, z22⟩ := Z.out
        exact hK _ _ ⟨_, _, _, _, _, _, _, _, _, _, _, _, _, _, _, _, rfl, Lib.hid ⟨by simpa using hN, hbel, fun _ => rfl, fun g0 => (z1 ((set_other (by decide)).symm.trans g0)), fun g0 => (z2 ((set_other (by decide)).symm.trans g0)), fun g0 => (z3 ((set_other (by decide)).symm.trans g0)), fun g0 => (z4 ((set_other (by decide)).symm.trans g0)), fun g0 => (z5 ((set_other (by decide)).symm.trans g0)), fun g0 => (z6 ((set_other (by decide)).symm.trans g0)), fun g0 => (z7 ((set_other (by decide)).symm.trans g0)), fun g0 => (z8 ((set_other (by decide)).symm.trans g0)), fun g0 => (z9 ((set_other (by decide)).symm.trans g0)), fun g0 => (z10 ((set_other (by decide)).symm.trans g0)), fun g0 => (z11 ((set_other (by decide)).symm.trans g0)), fun g0 => (z12 ((set_other (by decide)).symm.trans g0)), fun g0 => (z13 ((set_other (by decide)).symm.trans g0)), fun g0 => (z14 ((set_other (by decide)).symm.trans g0)), fun g0 => (z15 ((set_other (by decide)).symm.trans g0)), fun g0 g1 => (z16 ((set_other (by decide)).symm.trans g0) ((set_other (by decide)).symm.trans g1)), fun g0 => (z17 ((set_other (by decide)).symm.trans g0)), fun g0 => (z18 ((set_other (by decide)).symm.trans g0)), fun g0 => ⟨set_keep (z19 ((set_other (by decide)).symm.trans g0)).1, set_keep (z19 ((set_other (by decide)).symm.trans g0)).2⟩, fun g0 => ⟨set_keep (z20 ((set_other (by decide)).symm.trans g0)).1, set_keep (z20 ((set_other (by decide)).symm.trans g0)).2⟩, fun g0 => ⟨set_keep (z21 ((set_other (by decide)).symm.trans g0)).1, set_keep (z21 ((set_other (by decide)).symm.trans g0)).2⟩, fun g0 => ⟨set_keep (z22 ((set_other (by decide)).symm.trans g0)).1, set_keep (z22 ((set_other (by decide)).symm.trans g0)).2⟩⟩⟩
      · as_aux_lemma =>
        obtain rfl := Option.some.inj ho
        have e0 := z0 (dep (by simp [Region.binds] at hdeps ⊢; simp [hdeps]))
        subst e0
        obtain ⟨_, b0, b1, _, _, _, _, _, _, _, _, _, _, _, _, _, _, _, _, _, _, _⟩ := HS.out wz hbel
        have Z := hinv
        clear hinv ho hbel hN hdeps z0 z1 z2 z3 z4 z5 z6 z7 z8 z9 z10 z11 z12 z13 z14 z15 z16 z17 z18 z19 z20 z21 z22
        go_simp
        obtain ⟨hN, hbel, z0, z1, z2, z3, z4, z5, z6, z7, z8, z9, z10, z11, z12, z13, z14, z15, z16, z17, z18, z19, z20, z21, z22⟩ := Z.out
        exact hK _ _ ⟨_, _, _, _, _, _, _, _, _, _, _, _, _, _, _, _, rfl, Lib.hid ⟨by simpa using hN, hbel, fun g0 => (z0 ((set_other (by decide)).symm.trans g0)), fun _ => rfl, fun g0 => (z2 ((set_other (by decide)).symm.trans g0)), fun g0 => (z3 ((set_other (by decide)).symm.trans g0)), fun g0 => (z4 ((set_other (by decide)).symm.trans g0)), fun g0 => (z5 ((set_other (by decide)).symm.trans g0)), fun g0 => (z6 ((set_other (by decide)).symm.trans g0)), fun g0 => (z7 ((set_other (by decide)).symm.trans g0)), fun g0 => (z8 ((set_other (by decide)).symm.trans g0)), fun g0 => (z9 ((set_other (by decide)).symm.trans g0)), fun g0 => (z10 ((set_other (by decide)).symm.trans g0)), fun g0 => (z11 ((set_other (by decide)).symm.trans g0)), fun g0 => (z12 ((set_other (by decide)).symm.trans g0)), fun g0 => (z13 ((set_other (by decide)).symm.trans g0)), fun g0 => (z14 ((set_other (by decide)).symm.trans g0)), fun g0 => (z15 ((set_other (by decide)).symm.trans g0)), fun g0 g1 => (z16 ((set_other (by decide)).symm.trans g0) ((set_other (by decide)).symm.trans g1)), fun g0 => (z17 ((set_other (by decide)).symm.trans g0)), fun g0 => (z18 ((set_other (by decide)).symm.trans g0)), fun g0 => ⟨set_keep (z19 ((set_other (by decide)).symm.trans g0)).1, set_keep (z19 ((set_other (by decide)).symm.trans g0)).2⟩, fun g0 => ⟨set_keep (z20 ((set_other (by decide)).symm.trans g0)).1, set_keep (z20 ((set_other (by decide)).symm.trans g0)).2⟩, fun g0 => ⟨set_keep (z21 ((set_other (by decide)).symm.trans g0)).1, set_keep (z21 ((set_other (by decide)).symm.trans g0)).2⟩, fun g0 => ⟨set_keep (z22 ((set_other (by decide)).symm.trans g0)).1, set_keep (z22 ((set_other (by decide)).symm.trans g0)).2⟩⟩⟩
      · as_aux_lemma =>
        obtain rfl := Option.some.inj ho
        have e0 := z1 (dep (by simp [Region.binds] at hdeps ⊢; simp [hdeps]))
        subst e0
        have CC := Lib.hid (KS0.out wz hbel)
        have Z := hinv
        clear hinv ho hbel hN hdeps z0 z1 z2 z3 z4 z5 z6 z7 z8 z9 z10 z11 z12 z13 z14 z15 z16 z17 z18 z19 z20 z21 z22
        go_simp
        refine CC.out.mono ?_
        rintro e wq ⟨a, n, c, rfl, how, hb'⟩
        obtain ⟨hN, hbel, z0, z1, z2, z3, z4, z5, z6, z7, z8, z9, z10, z11, z12, z13, z14, z15, z16, z17, z18, z19, z20, z21, z22⟩ := Z.out
        exact hK _ _ ⟨_, _, _, _, _, _, _, _, _, _, _, _, _, _, _, _, rfl, Lib.hid ⟨by simpa using hN, hbel.trans (hb'.mono hbel.size), fun g0 => (z0 ((set_other (by decide)).symm.trans g0)), fun g0 => (z1 ((set_other (by decide)).symm.trans g0)), fun _ => ⟨a, n, c, rfl, how.base hbel.size⟩, fun g0 => (z3 ((set_other (by decide)).symm.trans g0)), fun g0 => (z4 ((set_other (by decide)).symm.trans g0)), fun g0 => (z5 ((set_other (by decide)).symm.trans g0)).below hb', fun g0 => not_done hL (z19 (((set_other (by decide)).symm.trans g0))).1, fun g0 => (z7 ((set_other (by decide)).symm.trans g0)), fun g0 => (z8 ((set_other (by decide)).symm.trans g0)), fun g0 => (z9 ((set_other (by decide)).symm.trans g0)).below hb', fun g0 => (z10 ((set_other (by decide)).symm.trans g0)), fun g0 => (z11 ((set_other (by decide)).symm.trans g0)), fun g0 => (z12 ((set_other (by decide)).symm.trans g0)).below hb', fun g0 => (z13 ((set_other (by decide)).symm.trans g0)).below hb', fun g0 => (z14 ((set_other (by decide)).symm.trans g0)).below hb', fun g0 => (z15 ((set_other (by decide)).symm.trans g0)).below hb', fun g0 g1 => (z16 ((set_other (by decide)).symm.trans g0) ((set_other (by decide)).symm.trans g1)), fun g0 => (z17 ((set_other (by decide)).symm.trans g0)).below hb', fun g0 => (z18 ((set_other (by decide)).symm.trans g0)).below hb', fun g0 => not_done hL (z19 (((set_other (by decide)).symm.trans g0))).1, fun g0 => ⟨set_keep (z20 ((set_other (by decide)).symm.trans g0)).1, set_keep (z20 ((set_other (by decide)).symm.trans g0)).2⟩, fun g0 => ⟨set_keep (z21 ((set_other (by decide)).symm.trans g0)).1, set_keep (z21 ((set_other (by decide)).symm.trans g0)).2⟩, fun g0 => ⟨set_keep (z22 ((set_other (by decide)).symm.trans g0)).1, set_keep (z22 ((set_other (by decide)).symm.trans g0)).2⟩⟩⟩
      · as_aux_lemma =>
        obtain rfl := Option.some.inj ho
        have Z := hinv
        clear hinv ho hbel hN hdeps z0 z1 z2 z3 z4 z5 z6 z7 z8 z9 z10 z11 z12 z13 z14 z15 z16 z17 z18 z19 z20 z21 z22
        go_simp
        obtain ⟨hN, hbel, z0, z1, z2, z3, z4, z5, z6, z7, z8, z9, z10, z11, z12, z13, z14, z15, z16, z17, z18, z19, z20, z21, z22⟩ := Z.out
        exact hK _ _ ⟨_, _, _, _, _, _, _, _, _, _, _, _, _, _, _, _, rfl, Lib.hid ⟨by simpa using hN, hbel, fun g0 => (z0 ((set_other (by decide)).symm.trans g0)), fun g0 => (z1 ((set_other (by decide)).symm.trans g0)), fun g0 => (z2 ((set_other (by decide)).symm.trans g0)), fun _ => rfl, fun g0 => (z4 ((set_other (by decide)).symm.trans g0)), fun g0 => (z5 ((set_other (by decide)).symm.trans g0)), fun g0 => (z6 ((set_other (by decide)).symm.trans g0)), fun g0 => (z7 ((set_other (by decide)).symm.trans g0)), fun g0 => (z8 ((set_other (by decide)).symm.trans g0)), fun g0 => (z9 ((set_other (by decide)).symm.trans g0)), fun g0 => (z10 ((set_other (by decide)).symm.trans g0)), fun g0 => (z11 ((set_other (by decide)).symm.trans g0)), fun g0 => (z12 ((set_other (by decide)).symm.trans g0)), fun g0 => (z13 ((set_other (by decide)).symm.trans g0)), fun g0 => (z14 ((set_other (by decide)).symm.trans g0)), fun g0 => (z15 ((set_other (by decide)).symm.trans g0)), fun g0 g1 => (z16 ((set_other (by decide)).symm.trans g0) ((set_other (by decide)).symm.trans g1)), fun g0 => (z17 ((set_other (by decide)).symm.trans g0)), fun g0 => (z18 ((set_other (by decide)).symm.trans g0)), fun g0 => ⟨set_keep (z19 ((set_other (by decide)).symm.trans g0)).1, set_keep (z19 ((set_other (by decide)).symm.trans g0)).2⟩, fun g0 => ⟨set_keep (z20 ((set_other (by decide)).symm.trans g0)).1, set_keep (z20 ((set_other (by decide)).symm.trans g0)).2⟩, fun g0 => ⟨set_keep (z21 ((set_other (by decide)).symm.trans g0)).1, set_keep (z21 ((set_other (by decide)).symm.trans g0)).2⟩, fun g0 => ⟨set_keep (z22 ((set_other (by decide)).symm.trans g0)).1, set_keep (z22 ((set_other (by decide)).symm.trans g0)).2⟩⟩⟩
      · as_aux_lemma =>
        obtain rfl := Option.some.inj ho
        have e0 := z3 (dep (by simp [Region.binds] at hdeps ⊢; simp [hdeps]))
        subst e0
        obtain ⟨_, _, _, b0, b1, _, _, _, _, _, _, _, _, _, _, _, _, _, _, _, _, _⟩ := HS.out wz hbel
        have Z := hinv
        clear hinv ho hbel hN hdeps z0 z1 z2 z3 z4 z5 z6 z7 z8 z9 z10 z11 z12 z13 z14 z15 z16 z17 z18 z19 z20 z21 z22
        go_simp
        obtain ⟨hN, hbel, z0, z1, z2, z3, z4, z5, z6, z7, z8, z9, z10, z11, z12, z13, z14, z15, z16, z17, z18, z19, z20, z21, z22⟩ := Z.out
        exact hK _ _ ⟨_, _, _, _, _, _, _, _, _, _, _, _, _, _, _, _, rfl, Lib.hid ⟨by simpa using hN, hbel, fun g0 => (z0 ((set_other (by decide)).symm.trans g0)), fun g0 => (z1 ((set_other (by decide)).symm.trans g0)), fun g0 => (z2 ((set_other (by decide)).symm.trans g0)), fun g0 => (z3 ((set_other (by decide)).symm.trans g0)), fun _ => rfl, fun g0 => (z5 ((set_other (by decide)).symm.trans g0)), fun g0 => (z6 ((set_other (by decide)).symm.trans g0)), fun g0 => (z7 ((set_other (by decide)).symm.trans g0)), fun g0 => (z8 ((set_other (by decide)).symm.trans g0)), fun g0 => (z9 ((set_other (by decide)).symm.trans g0)), fun g0 => (z10 ((set_other (by decide)).symm.trans g0)), fun g0 => (z11 ((set_other (by decide)).symm.trans g0)), fun g0 => (z12 ((set_other (by decide)).symm.trans g0)), fun g0 => (z13 ((set_other (by decide)).symm.trans g0)), fun g0 => (z14 ((set_other (by decide)).symm.trans g0)), fun g0 => (z15 ((set_other (by decide)).symm.trans g0)), fun g0 g1 => (z16 ((set_other (by decide)).symm.trans g0) ((set_other (by decide)).symm.trans g1)), fun g0 => (z17 ((set_other (by decide)).symm.trans g0)), fun g0 => (z18 ((set_other (by decide)).symm.trans g0)), fun g0 => ⟨set_keep (z19 ((set_other (by decide)).symm.trans g0)).1, set_keep (z19 ((set_other (by decide)).symm.trans g0)).2⟩, fun g0 => ⟨set_keep (z20 ((set_other (by decide)).symm.trans g0)).1, set_keep (z20 ((set_other (by decide)).symm.trans g0)).2⟩, fun g0 => ⟨set_keep (z21 ((set_other (by decide)).symm.trans g0)).1, set_keep (z21 ((set_other (by decide)).symm.trans g0)).2⟩, fun g0 => ⟨set_keep (z22 ((set_other (by decide)).symm.trans g0)).1, set_keep (z22 ((set_other (by decide)).symm.trans g0)).2⟩⟩⟩
      · as_aux_lemma =>
        obtain rfl := Option.some.inj ho
        have e0 := z4 (dep (by simp [Region.binds] at hdeps ⊢; simp [hdeps]))
        subst e0
        have CC := Lib.hid (KS1.out wz hbel)
        have Z := hinv
        clear hinv ho hbel hN hdeps z0 z1 z2 z3 z4 z5 z6 z7 z8 z9 z10 z11 z12 z13 z14 z15 z16 z17 z18 z19 z20 z21 z22
        go_simp
        refine CC.out.mono ?_
        rintro e wq ⟨a, n, c, rfl, how, hb'⟩
        obtain ⟨hN, hbel, z0, z1, z2, z3, z4, z5, z6, z7, z8, z9, z10, z11, z12, z13, z14, z15, z16, z17, z18, z19, z20, z21, z22⟩ := Z.out
        exact hK _ _ ⟨_, _, _, _, _, _, _, _, _, _, _, _, _, _, _, _, rfl, Lib.hid ⟨by simpa using hN, hbel.trans (hb'.mono hbel.size), fun g0 => (z0 ((set_other (by decide)).symm.trans g0)), fun g0 => (z1 ((set_other (by decide)).symm.trans g0)), fun g0 => (z2 ((set_other (by decide)).symm.trans g0)).below hb', fun g0 => (z3 ((set_other (by decide)).symm.trans g0)), fun g0 => (z4 ((set_other (by decide)).symm.trans g0)), fun _ => ⟨a, n, c, rfl, how.base hbel.size⟩, fun g0 => not_done hL (z19 (((set_other (by decide)).symm.trans g0))).2, fun g0 => (z7 ((set_other (by decide)).symm.trans g0)), fun g0 => (z8 ((set_other (by decide)).symm.trans g0)), fun g0 => (z9 ((set_other (by decide)).symm.trans g0)).below hb', fun g0 => (z10 ((set_other (by decide)).symm.trans g0)), fun g0 => (z11 ((set_other (by decide)).symm.trans g0)), fun g0 => (z12 ((set_other (by decide)).symm.trans g0)).below hb', fun g0 => (z13 ((set_other (by decide)).symm.trans g0)).below hb', fun g0 => (z14 ((set_other (by decide)).symm.trans g0)).below hb', fun g0 => (z15 ((set_other (by decide)).symm.trans g0)).below hb', fun g0 g1 => (z16 ((set_other (by decide)).symm.trans g0) ((set_other (by decide)).symm.trans g1)), fun g0 => (z17 ((set_other (by decide)).symm.trans g0)).below hb', fun g0 => (z18 ((set_other (by decide)).symm.trans g0)).below hb', fun g0 => not_done hL (z19 (((set_other (by decide)).symm.trans g0))).2, fun g0 => ⟨set_keep (z20 ((set_other (by decide)).symm.trans g0)).1, set_keep (z20 ((set_other (by decide)).symm.trans g0)).2⟩, fun g0 => ⟨set_keep (z21 ((set_other (by decide)).symm.trans g0)).1, set_keep (z21 ((set_other (by decide)).symm.trans g0)).2⟩, fun g0 => ⟨set_keep (z22 ((set_other (by decide)).symm.trans g0)).1, set_keep (z22 ((set_other (by decide)).symm.trans g0)).2⟩⟩⟩
      · as_aux_lemma =>
        obtain rfl := Option.some.inj ho
        have hd1 : L[2]? = some true := (dep (by simp [Region.binds] at hdeps ⊢; simp [hdeps]))
        have hd2 : L[5]? = some true := (dep (by simp [Region.binds] at hdeps ⊢; simp [hdeps]))
        obtain ⟨a, n, c, e1, hl1⟩ := z2 hd1
        obtain ⟨b, m, d, e2, hl2⟩ := z5 hd2
        subst e1 e2
        have HL1 := Lib.hid hl1
        have HL2 := Lib.hid hl2
        clear hl1 hl2
        have Z := hinv
        clear hinv ho hbel hN hdeps z0 z1 z2 z3 z4 z5 z6 z7 z8 z9 z10 z11 z12 z13 z14 z15 z16 z17 z18 z19 z20 z21 z22
        go_simp
        obtain ⟨hN, hbel, z0, z1, z2, z3, z4, z5, z6, z7, z8, z9, z10, z11, z12, z13, z14, z15, z16, z17, z18, z19, z20, z21, z22⟩ := Z.out
        exact hK _ _ ⟨_, _, _, _, _, _, _, _, _, _, _, _, _, _, _, _, rfl, Lib.hid ⟨by simpa using hN, hbel, fun g0 => (z0 ((set_other (by decide)).symm.trans g0)), fun g0 => (z1 ((set_other (by decide)).symm.trans g0)), fun g0 => (z2 ((set_other (by decide)).symm.trans g0)), fun g0 => (z3 ((set_other (by decide)).symm.trans g0)), fun g0 => (z4 ((set_other (by decide)).symm.trans g0)), fun g0 => (z5 ((set_other (by decide)).symm.trans g0)), fun _ => ⟨a, n, c, b, m, d, rfl, HL1.out, HL2.out⟩, fun g0 => (z7 ((set_other (by decide)).symm.trans g0)), fun g0 => (z8 ((set_other (by decide)).symm.trans g0)), fun g0 => (z9 ((set_other (by decide)).symm.trans g0)), fun g0 => (z10 ((set_other (by decide)).symm.trans g0)), fun g0 => (z11 ((set_other (by decide)).symm.trans g0)), fun g0 => (z12 ((set_other (by decide)).symm.trans g0)), fun g0 => (z13 ((set_other (by decide)).symm.trans g0)), fun g0 => (z14 ((set_other (by decide)).symm.trans g0)), fun g0 => (z15 ((set_other (by decide)).symm.trans g0)), fun g0 g1 => (z16 ((set_other (by decide)).symm.trans g0) ((set_other (by decide)).symm.trans g1)), fun g0 => not_done hL (z21 (((set_other (by decide)).symm.trans g0))).2, fun g0 => (z18 ((set_other (by decide)).symm.trans g0)), fun _ => ⟨set_keep hd1, set_keep hd2⟩, fun g0 => ⟨set_keep (z20 ((set_other (by decide)).symm.trans g0)).1, set_keep (z20 ((set_other (by decide)).symm.trans g0)).2⟩, fun g0 => not_done hL (z21 (((set_other (by decide)).symm.trans g0))).2, fun g0 => ⟨set_keep (z22 ((set_other (by decide)).symm.trans g0)).1, set_keep (z22 ((set_other (by decide)).symm.trans g0)).2⟩⟩⟩
      · as_aux_lemma =>
        obtain rfl := Option.some.inj ho
        have Z := hinv
        clear hinv ho hbel hN hdeps z0 z1 z2 z3 z4 z5 z6 z7 z8 z9 z10 z11 z12 z13 z14 z15 z16 z17 z18 z19 z20 z21 z22
        go_simp
        obtain ⟨hN, hbel, z0, z1, z2, z3, z4, z5, z6, z7, z8, z9, z10, z11, z12, z13, z14, z15, z16, z17, z18, z19, z20, z21, z22⟩ := Z.out
        exact hK _ _ ⟨_, _, _, _, _, _, _, _, _, _, _, _, _, _, _, _, rfl, Lib.hid ⟨by simpa using hN, hbel, fun g0 => (z0 ((set_other (by decide)).symm.trans g0)), fun g0 => (z1 ((set_other (by decide)).symm.trans g0)), fun g0 => (z2 ((set_other (by decide)).symm.trans g0)), fun g0 => (z3 ((set_other (by decide)).symm.trans g0)), fun g0 => (z4 ((set_other (by decide)).symm.trans g0)), fun g0 => (z5 ((set_other (by decide)).symm.trans g0)), fun g0 => (z6 ((set_other (by decide)).symm.trans g0)), fun _ => rfl, fun g0 => (z8 ((set_other (by decide)).symm.trans g0)), fun g0 => (z9 ((set_other (by decide)).symm.trans g0)), fun g0 => (z10 ((set_other (by decide)).symm.trans g0)), fun g0 => (z11 ((set_other (by decide)).symm.trans g0)), fun g0 => (z12 ((set_other (by decide)).symm.trans g0)), fun g0 => (z13 ((set_other (by decide)).symm.trans g0)), fun g0 => (z14 ((set_other (by decide)).symm.trans g0)), fun g0 => (z15 ((set_other (by decide)).symm.trans g0)), fun g0 g1 => (z16 ((set_other (by decide)).symm.trans g0) ((set_other (by decide)).symm.trans g1)), fun g0 => (z17 ((set_other (by decide)).symm.trans g0)), fun g0 => (z18 ((set_other (by decide)).symm.trans g0)), fun g0 => ⟨set_keep (z19 ((set_other (by decide)).symm.trans g0)).1, set_keep (z19 ((set_other (by decide)).symm.trans g0)).2⟩, fun g0 => ⟨set_keep (z20 ((set_other (by decide)).symm.trans g0)).1, set_keep (z20 ((set_other (by decide)).symm.trans g0)).2⟩, fun g0 => ⟨set_keep (z21 ((set_other (by decide)).symm.trans g0)).1, set_keep (z21 ((set_other (by decide)).symm.trans g0)).2⟩, fun g0 => ⟨set_keep (z22 ((set_other (by decide)).symm.trans g0)).1, set_keep (z22 ((set_other (by decide)).symm.trans g0)).2⟩⟩⟩
      · as_aux_lemma =>
        obtain rfl := Option.some.inj ho
        have e0 := z7 (dep (by simp [Region.binds] at hdeps ⊢; simp [hdeps]))
        subst e0
        obtain ⟨_, b0, b1, _, _, _, _, _, _, _, _, _, _, _, _, _, _, _, _, _, _, _⟩ := HS.out wz hbel
        have Z := hinv
        clear hinv ho hbel hN hdeps z0 z1 z2 z3 z4 z5 z6 z7 z8 z9 z10 z11 z12 z13 z14 z15 z16 z17 z18 z19 z20 z21 z22
        go_simp
        obtain ⟨hN, hbel, z0, z1, z2, z3, z4, z5, z6, z7, z8, z9, z10, z11, z12, z13, z14, z15, z16, z17, z18, z19, z20, z21, z22⟩ := Z.out
        exact hK _ _ ⟨_, _, _, _, _, _, _, _, _, _, _, _, _, _, _, _, rfl, Lib.hid ⟨by simpa using hN, hbel, fun g0 => (z0 ((set_other (by decide)).symm.trans g0)), fun g0 => (z1 ((set_other (by decide)).symm.trans g0)), fun g0 => (z2 ((set_other (by decide)).symm.trans g0)), fun g0 => (z3 ((set_other (by decide)).symm.trans g0)), fun g0 => (z4 ((set_other (by decide)).symm.trans g0)), fun g0 => (z5 ((set_other (by decide)).symm.trans g0)), fun g0 => (z6 ((set_other (by decide)).symm.trans g0)), fun g0 => (z7 ((set_other (by decide)).symm.trans g0)), fun _ => rfl, fun g0 => (z9 ((set_other (by decide)).symm.trans g0)), fun g0 => (z10 ((set_other (by decide)).symm.trans g0)), fun g0 => (z11 ((set_other (by decide)).symm.trans g0)), fun g0 => (z12 ((set_other (by decide)).symm.trans g0)), fun g0 => (z13 ((set_other (by decide)).symm.trans g0)), fun g0 => (z14 ((set_other (by decide)).symm.trans g0)), fun g0 => (z15 ((set_other (by decide)).symm.trans g0)), fun g0 g1 => (z16 ((set_other (by decide)).symm.trans g0) ((set_other (by decide)).symm.trans g1)), fun g0 => (z17 ((set_other (by decide)).symm.trans g0)), fun g0 => (z18 ((set_other (by decide)).symm.trans g0)), fun g0 => ⟨set_keep (z19 ((set_other (by decide)).symm.trans g0)).1, set_keep (z19 ((set_other (by decide)).symm.trans g0)).2⟩, fun g0 => ⟨set_keep (z20 ((set_other (by decide)).symm.trans g0)).1, set_keep (z20 ((set_other (by decide)).symm.trans g0)).2⟩, fun g0 => ⟨set_keep (z21 ((set_other (by decide)).symm.trans g0)).1, set_keep (z21 ((set_other (by decide)).symm.trans g0)).2⟩, fun g0 => ⟨set_keep (z22 ((set_other (by decide)).symm.trans g0)).1, set_keep (z22 ((set_other (by decide)).symm.trans g0)).2⟩⟩⟩
      · as_aux_lemma =>
        obtain rfl := Option.some.inj ho
        have e0 := z8 (dep (by simp [Region.binds] at hdeps ⊢; simp [hdeps]))
        subst e0
        have CC := Lib.hid (KS0.out wz hbel)
        have Z := hinv
        clear hinv ho hbel hN hdeps z0 z1 z2 z3 z4 z5 z6 z7 z8 z9 z10 z11 z12 z13 z14 z15 z16 z17 z18 z19 z20 z21 z22
        go_simp
        refine CC.out.mono ?_
        rintro e wq ⟨a, n, c, rfl, how, hb'⟩
        obtain ⟨hN, hbel, z0, z1, z2, z3, z4, z5, z6, z7, z8, z9, z10, z11, z12, z13, z14, z15, z16, z17, z18, z19, z20, z21, z22⟩ := Z.out
        exact hK _ _ ⟨_, _, _, _, _, _, _, _, _, _, _, _, _, _, _, _, rfl, Lib.hid ⟨by simpa using hN, hbel.trans (hb'.mono hbel.size), fun g0 => (z0 ((set_other (by decide)).symm.trans g0)), fun g0 => (z1 ((set_other (by decide)).symm.trans g0)), fun g0 => (z2 ((set_other (by decide)).symm.trans g0)).below hb', fun g0 => (z3 ((set_other (by decide)).symm.trans g0)), fun g0 => (z4 ((set_other (by decide)).symm.trans g0)), fun g0 => (z5 ((set_other (by decide)).symm.trans g0)).below hb', fun g0 => (z6 ((set_other (by decide)).symm.trans g0)).below hb', fun g0 => (z7 ((set_other (by decide)).symm.trans g0)), fun g0 => (z8 ((set_other (by decide)).symm.trans g0)), fun _ => ⟨a, n, c, rfl, how.base hbel.size⟩, fun g0 => (z10 ((set_other (by decide)).symm.trans g0)), fun g0 => (z11 ((set_other (by decide)).symm.trans g0)), fun g0 => (z12 ((set_other (by decide)).symm.trans g0)).below hb', fun g0 => not_done hL (z20 (((set_other (by decide)).symm.trans g0))).1, fun g0 => (z14 ((set_other (by decide)).symm.trans g0)).below hb', fun g0 => (z15 ((set_other (by decide)).symm.trans g0)).below hb', fun g0 g1 => (z16 ((set_other (by decide)).symm.trans g0) ((set_other (by decide)).symm.trans g1)), fun g0 => (z17 ((set_other (by decide)).symm.trans g0)).below hb', fun g0 => (z18 ((set_other (by decide)).symm.trans g0)).below hb', fun g0 => ⟨set_keep (z19 ((set_other (by decide)).symm.trans g0)).1, set_keep (z19 ((set_other (by decide)).symm.trans g0)).2⟩, fun g0 => not_done hL (z20 (((set_other (by decide)).symm.trans g0))).1, fun g0 => ⟨set_keep (z21 ((set_other (by decide)).symm.trans g0)).1, set_keep (z21 ((set_other (by decide)).symm.trans g0)).2⟩, fun g0 => ⟨set_keep (z22 ((set_other (by decide)).symm.trans g0)).1, set_keep (z22 ((set_other (by decide)).symm.trans g0)).2⟩⟩⟩
      · as_aux_lemma =>
        obtain rfl := Option.some.inj ho
        have Z := hinv
        clear hinv ho hbel hN hdeps z0 z1 z2 z3 z4 z5 z6 z7 z8 z9 z10 z11 z12 z13 z14 z15 z16 z17 z18 z19 z20 z21 z22
        go_simp
        obtain ⟨hN, hbel, z0, z1, z2, z3, z4, z5, z6, z7, z8, z9, z10, z11, z12, z13, z14, z15, z16, z17, z18, z19, z20, z21, z22⟩ := Z.out
        exact hK _ _ ⟨_, _, _, _, _, _, _, _, _, _, _, _, _, _, _, _, rfl, Lib.hid ⟨by simpa using hN, hbel, fun g0 => (z0 ((set_other (by decide)).symm.trans g0)), fun g0 => (z1 ((set_other (by decide)).symm.trans g0)), fun g0 => (z2 ((set_other (by decide)).symm.trans g0)), fun g0 => (z3 ((set_other (by decide)).symm.trans g0)), fun g0 => (z4 ((set_other (by decide)).symm.trans g0)), fun g0 => (z5 ((set_other (by decide)).symm.trans g0)), fun g0 => (z6 ((set_other (by decide)).symm.trans g0)), fun g0 => (z7 ((set_other (by decide)).symm.trans g0)), fun g0 => (z8 ((set_other (by decide)).symm.trans g0)), fun g0 => (z9 ((set_other (by decide)).symm.trans g0)), fun _ => rfl, fun g0 => (z11 ((set_other (by decide)).symm.trans g0)), fun g0 => (z12 ((set_other (by decide)).symm.trans g0)), fun g0 => (z13 ((set_other (by decide)).symm.trans g0)), fun g0 => (z14 ((set_other (by decide)).symm.trans g0)), fun g0 => (z15 ((set_other (by decide)).symm.trans g0)), fun g0 g1 => (z16 ((set_other (by decide)).symm.trans g0) ((set_other (by decide)).symm.trans g1)), fun g0 => (z17 ((set_other (by decide)).symm.trans g0)), fun g0 => (z18 ((set_other (by decide)).symm.trans g0)), fun g0 => ⟨set_keep (z19 ((set_other (by decide)).symm.trans g0)).1, set_keep (z19 ((set_other (by decide)).symm.trans g0)).2⟩, fun g0 => ⟨set_keep (z20 ((set_other (by decide)).symm.trans g0)).1, set_keep (z20 ((set_other (by decide)).symm.trans g0)).2⟩, fun g0 => ⟨set_keep (z21 ((set_other (by decide)).symm.trans g0)).1, set_keep (z21 ((set_other (by decide)).symm.trans g0)).2⟩, fun g0 => ⟨set_keep (z22 ((set_other (by decide)).symm.trans g0)).1, set_keep (z22 ((set_other (by decide)).symm.trans g0)).2⟩⟩⟩
      · as_aux_lemma =>
        obtain rfl := Option.some.inj ho
        have e0 := z10 (dep (by simp [Region.binds] at hdeps ⊢; simp [hdeps]))
        subst e0
        obtain ⟨_, _, _, b0, b1, _, _, _, _, _, _, _, _, _, _, _, _, _, _, _, _, _⟩ := HS.out wz hbel
        have Z := hinv
        clear hinv ho hbel hN hdeps z0 z1 z2 z3 z4 z5 z6 z7 z8 z9 z10 z11 z12 z13 z14 z15 z16 z17 z18 z19 z20 z21 z22
        go_simp
        obtain ⟨hN, hbel, z0, z1, z2, z3, z4, z5, z6, z7, z8, z9, z10, z11, z12, z13, z14, z15, z16, z17, z18, z19, z20, z21, z22⟩ := Z.out
        exact hK _ _ ⟨_, _, _, _, _, _, _, _, _, _, _, _, _, _, _, _, rfl, Lib.hid ⟨by simpa using hN, hbel, fun g0 => (z0 ((set_other (by decide)).symm.trans g0)), fun g0 => (z1 ((set_other (by decide)).symm.trans g0)), fun g0 => (z2 ((set_other (by decide)).symm.trans g0)), fun g0 => (z3 ((set_other (by decide)).symm.trans g0)), fun g0 => (z4 ((set_other (by decide)).symm.trans g0)), fun g0 => (z5 ((set_other (by decide)).symm.trans g0)), fun g0 => (z6 ((set_other (by decide)).symm.trans g0)), fun g0 => (z7 ((set_other (by decide)).symm.trans g0)), fun g0 => (z8 ((set_other (by decide)).symm.trans g0)), fun g0 => (z9 ((set_other (by decide)).symm.trans g0)), fun g0 => (z10 ((set_other (by decide)).symm.trans g0)), fun _ => rfl, fun g0 => (z12 ((set_other (by decide)).symm.trans g0)), fun g0 => (z13 ((set_other (by decide)).symm.trans g0)), fun g0 => (z14 ((set_other (by decide)).symm.trans g0)), fun g0 => (z15 ((set_other (by decide)).symm.trans g0)), fun g0 g1 => (z16 ((set_other (by decide)).symm.trans g0) ((set_other (by decide)).symm.trans g1)), fun g0 => (z17 ((set_other (by decide)).symm.trans g0)), fun g0 => (z18 ((set_other (by decide)).symm.trans g0)), fun g0 => ⟨set_keep (z19 ((set_other (by decide)).symm.trans g0)).1, set_keep (z19 ((set_other (by decide)).symm.trans g0)).2⟩, fun g0 => ⟨set_keep (z20 ((set_other (by decide)).symm.trans g0)).1, set_keep (z20 ((set_other (by decide)).symm.trans g0)).2⟩, fun g0 => ⟨set_keep (z21 ((set_other (by decide)).symm.trans g0)).1, set_keep (z21 ((set_other (by decide)).symm.trans g0)).2⟩, fun g0 => ⟨set_keep (z22 ((set_other (by decide)).symm.trans g0)).1, set_keep (z22 ((set_other (by decide)).symm.trans g0)).2⟩⟩⟩
      · as_aux_lemma =>
        obtain rfl := Option.some.inj ho
        have e0 := z11 (dep (by simp [Region.binds] at hdeps ⊢; simp [hdeps]))
        subst e0
        have CC := Lib.hid (KS1.out wz hbel)
        have Z := hinv
        clear hinv ho hbel hN hdeps z0 z1 z2 z3 z4 z5 z6 z7 z8 z9 z10 z11 z12 z13 z14 z15 z16 z17 z18 z19 z20 z21 z22
        go_simp
        refine CC.out.mono ?_
        rintro e wq ⟨a, n, c, rfl, how, hb'⟩
        obtain ⟨hN, hbel, z0, z1, z2, z3, z4, z5, z6, z7, z8, z9, z10, z11, z12, z13, z14, z15, z16, z17, z18, z19, z20, z21, z22⟩ := Z.out
        exact hK _ _ ⟨_, _, _, _, _, _, _, _, _, _, _, _, _, _, _, _, rfl, Lib.hid ⟨by simpa using hN, hbel.trans (hb'.mono hbel.size), fun g0 => (z0 ((set_other (by decide)).symm.trans g0)), fun g0 => (z1 ((set_other (by decide)).symm.trans g0)), fun g0 => (z2 ((set_other (by decide)).symm.trans g0)).below hb', fun g0 => (z3 ((set_other (by decide)).symm.trans g0)), fun g0 => (z4 ((set_other (by decide)).symm.trans g0)), fun g0 => (z5 ((set_other (by decide)).symm.trans g0)).below hb', fun g0 => (z6 ((set_other (by decide)).symm.trans g0)).below hb', fun g0 => (z7 ((set_other (by decide)).symm.trans g0)), fun g0 => (z8 ((set_other (by decide)).symm.trans g0)), fun g0 => (z9 ((set_other (by decide)).symm.trans g0)).below hb', fun g0 => (z10 ((set_other (by decide)).symm.trans g0)), fun g0 => (z11 ((set_other (by decide)).symm.trans g0)), fun _ => ⟨a, n, c, rfl, how.base hbel.size⟩, fun g0 => not_done hL (z20 (((set_other (by decide)).symm.trans g0))).2, fun g0 => (z14 ((set_other (by decide)).symm.trans g0)).below hb', fun g0 => (z15 ((set_other (by decide)).symm.trans g0)).below hb', fun g0 g1 => (z16 ((set_other (by decide)).symm.trans g0) ((set_other (by decide)).symm.trans g1)), fun g0 => (z17 ((set_other (by decide)).symm.trans g0)).below hb', fun g0 => (z18 ((set_other (by decide)).symm.trans g0)).below hb', fun g0 => ⟨set_keep (z19 ((set_other (by decide)).symm.trans g0)).1, set_keep (z19 ((set_other (by decide)).symm.trans g0)).2⟩, fun g0 => not_done hL (z20 (((set_other (by decide)).symm.trans g0))).2, fun g0 => ⟨set_keep (z21 ((set_other (by decide)).symm.trans g0)).1, set_keep (z21 ((set_other (by decide)).symm.trans g0)).2⟩, fun g0 => ⟨set_keep (z22 ((set_other (by decide)).symm.trans g0)).1, set_keep (z22 ((set_other (by decide)).symm.trans g0)).2⟩⟩⟩
      · as_aux_lemma =>
        obtain rfl := Option.some.inj ho
        have hd1 : L[9]? = some true := (dep (by simp [Region.binds] at hdeps ⊢; simp [hdeps]))
        have hd2 : L[12]? = some true := (dep (by simp [Region.binds] at hdeps ⊢; simp [hdeps]))
        obtain ⟨a, n, c, e1, hl1⟩ := z9 hd1
        obtain ⟨b, m, d, e2, hl2⟩ := z12 hd2
        subst e1 e2
        have HL1 := Lib.hid hl1
        have HL2 := Lib.hid hl2
        clear hl1 hl2
        have Z := hinv
        clear hinv ho hbel hN hdeps z0 z1 z2 z3 z4 z5 z6 z7 z8 z9 z10 z11 z12 z13 z14 z15 z16 z17 z18 z19 z20 z21 z22
        go_simp
        obtain ⟨hN, hbel, z0, z1, z2, z3, z4, z5, z6, z7, z8, z9, z10, z11, z12, z13, z14, z15, z16, z17, z18, z19, z20, z21, z22⟩ := Z.out
        exact hK _ _ ⟨_, _, _, _, _, _, _, _, _, _, _, _, _, _, _, _, rfl, Lib.hid ⟨by simpa using hN, hbel, fun g0 => (z0 ((set_other (by decide)).symm.trans g0)), fun g0 => (z1 ((set_other (by decide)).symm.trans g0)), fun g0 => (z2 ((set_other (by decide)).symm.trans g0)), fun g0 => (z3 ((set_other (by decide)).symm.trans g0)), fun g0 => (z4 ((set_other (by decide)).symm.trans g0)), fun g0 => (z5 ((set_other (by decide)).symm.trans g0)), fun g0 => (z6 ((set_other (by decide)).symm.trans g0)), fun g0 => (z7 ((set_other (by decide)).symm.trans g0)), fun g0 => (z8 ((set_other (by decide)).symm.trans g0)), fun g0 => (z9 ((set_other (by decide)).symm.trans g0)), fun g0 => (z10 ((set_other (by decide)).symm.trans g0)), fun g0 => (z11 ((set_other (by decide)).symm.trans g0)), fun g0 => (z12 ((set_other (by decide)).symm.trans g0)), fun _ => ⟨a, n, c, b, m, d, rfl, HL1.out, HL2.out⟩, fun g0 => (z14 ((set_other (by decide)).symm.trans g0)), fun g0 => (z15 ((set_other (by decide)).symm.trans g0)), fun g0 g1 => (z16 ((set_other (by decide)).symm.trans g0) ((set_other (by decide)).symm.trans g1)), fun g0 => (z17 ((set_other (by decide)).symm.trans g0)), fun g0 => not_done hL (z22 (((set_other (by decide)).symm.trans g0))).2, fun g0 => ⟨set_keep (z19 ((set_other (by decide)).symm.trans g0)).1, set_keep (z19 ((set_other (by decide)).symm.trans g0)).2⟩, fun _ => ⟨set_keep hd1, set_keep hd2⟩, fun g0 => ⟨set_keep (z21 ((set_other (by decide)).symm.trans g0)).1, set_keep (z21 ((set_other (by decide)).symm.trans g0)).2⟩, fun g0 => not_done hL (z22 (((set_other (by decide)).symm.trans g0))).2⟩⟩
      · as_aux_lemma =>
        obtain rfl := Option.some.inj ho
        have Z := hinv
        clear hinv ho hbel hN hdeps z0 z1 z2 z3 z4 z5 z6 z7 z8 z9 z10 z11 z12 z13 z14 z15 z16 z17 z18 z19 z20 z21 z22
        go_simp
        obtain ⟨hN, hbel, z0, z1, z2, z3, z4, z5, z6, z7, z8, z9, z10, z11, z12, z13, z14, z15, z16, z17, z18, z19, z20, z21, z22⟩ := Z.out
        have hb' := below_alloc1 wz (Obj.cells #[.int .i64 0, .slice none 0 0, .int .i64 0, .slice none 0 0] 32)
        exact hK _ _ ⟨_, _, _, _, _, _, _, _, _, _, _, _, _, _, _, _, rfl, Lib.hid ⟨by simpa using hN, hbel.trans (hb'.mono hbel.size), fun g0 => (z0 ((set_other (by decide)).symm.trans g0)), fun g0 => (z1 ((set_other (by decide)).symm.trans g0)), fun g0 => (z2 ((set_other (by decide)).symm.trans g0)).below hb', fun g0 => (z3 ((set_other (by decide)).symm.trans g0)), fun g0 => (z4 ((set_other (by decide)).symm.trans g0)), fun g0 => (z5 ((set_other (by decide)).symm.trans g0)).below hb', fun g0 => (z6 ((set_other (by decide)).symm.trans g0)).below hb', fun g0 => (z7 ((set_other (by decide)).symm.trans g0)), fun g0 => (z8 ((set_other (by decide)).symm.trans g0)), fun g0 => (z9 ((set_other (by decide)).symm.trans g0)).below hb', fun g0 => (z10 ((set_other (by decide)).symm.trans g0)), fun g0 => (z11 ((set_other (by decide)).symm.trans g0)), fun g0 => (z12 ((set_other (by decide)).symm.trans g0)).below hb', fun g0 => (z13 ((set_other (by decide)).symm.trans g0)).below hb', fun _ => N4.new _ _ _ _ _ _ hbel.size, fun g0 => (z15 ((set_other (by decide)).symm.trans g0)).below hb', fun g0 g1 => ((z15 ((set_other (by decide)).symm.trans g1)).lt).symm, fun g0 => not_done hL (z21 (((set_other (by decide)).symm.trans g0))).1, fun g0 => (z18 ((set_other (by decide)).symm.trans g0)).below hb', fun g0 => ⟨set_keep (z19 ((set_other (by decide)).symm.trans g0)).1, set_keep (z19 ((set_other (by decide)).symm.trans g0)).2⟩, fun g0 => ⟨set_keep (z20 ((set_other (by decide)).symm.trans g0)).1, set_keep (z20 ((set_other (by decide)).symm.trans g0)).2⟩, fun g0 => not_done hL (z21 (((set_other (by decide)).symm.trans g0))).1, fun g0 => ⟨set_keep (z22 ((set_other (by decide)).symm.trans g0)).1, set_keep (z22 ((set_other (by decide)).symm.trans g0)).2⟩⟩⟩
      · as_aux_lemma =>
        obtain rfl := Option.some.inj ho
        have Z := hinv
        clear hinv ho hbel hN hdeps z0 z1 z2 z3 z4 z5 z6 z7 z8 z9 z10 z11 z12 z13 z14 z15 z16 z17 z18 z19 z20 z21 z22
        go_simp
        obtain ⟨hN, hbel, z0, z1, z2, z3, z4, z5, z6, z7, z8, z9, z10, z11, z12, z13, z14, z15, z16, z17, z18, z19, z20, z21, z22⟩ := Z.out
        have hb' := below_alloc1 wz (Obj.cells #[.int .i64 0, .slice none 0 0, .int .i64 0, .slice none 0 0] 33)
        exact hK _ _ ⟨_, _, _, _, _, _, _, _, _, _, _, _, _, _, _, _, rfl, Lib.hid ⟨by simpa using hN, hbel.trans (hb'.mono hbel.size), fun g0 => (z0 ((set_other (by decide)).symm.trans g0)), fun g0 => (z1 ((set_other (by decide)).symm.trans g0)), fun g0 => (z2 ((set_other (by decide)).symm.trans g0)).below hb', fun g0 => (z3 ((set_other (by decide)).symm.trans g0)), fun g0 => (z4 ((set_other (by decide)).symm.trans g0)), fun g0 => (z5 ((set_other (by decide)).symm.trans g0)).below hb', fun g0 => (z6 ((set_other (by decide)).symm.trans g0)).below hb', fun g0 => (z7 ((set_other (by decide)).symm.trans g0)), fun g0 => (z8 ((set_other (by decide)).symm.trans g0)), fun g0 => (z9 ((set_other (by decide)).symm.trans g0)).below hb', fun g0 => (z10 ((set_other (by decide)).symm.trans g0)), fun g0 => (z11 ((set_other (by decide)).symm.trans g0)), fun g0 => (z12 ((set_other (by decide)).symm.trans g0)).below hb', fun g0 => (z13 ((set_other (by decide)).symm.trans g0)).below hb', fun g0 => (z14 ((set_other (by decide)).symm.trans g0)).below hb', fun _ => N4.new _ _ _ _ _ _ hbel.size, fun g0 g1 => (z14 ((set_other (by decide)).symm.trans g0)).lt, fun g0 => (z17 ((set_other (by decide)).symm.trans g0)).below hb', fun g0 => not_done hL (z22 (((set_other (by decide)).symm.trans g0))).1, fun g0 => ⟨set_keep (z19 ((set_other (by decide)).symm.trans g0)).1, set_keep (z19 ((set_other (by decide)).symm.trans g0)).2⟩, fun g0 => ⟨set_keep (z20 ((set_other (by decide)).symm.trans g0)).1, set_keep (z20 ((set_other (by decide)).symm.trans g0)).2⟩, fun g0 => ⟨set_keep (z21 ((set_other (by decide)).symm.trans g0)).1, set_keep (z21 ((set_other (by decide)).symm.trans g0)).2⟩, fun g0 => not_done hL (z22 (((set_other (by decide)).symm.trans g0))).1⟩⟩
      · as_aux_lemma =>
        obtain rfl := Option.some.inj ho
        have hds : L[14]? = some true ∧ L[15]? = some true ∧ L[6]? = some true := by
          simp [Region.binds] at hdeps
          refine ⟨?_, ?_, ?_⟩ <;> (refine dep ?_; simp [hdeps])
        obtain ⟨d14, d15, d6⟩ := hds
        obtain ⟨A0, hA1, hA2, x0, u0, v0, t0, hA3⟩ := z14 d14
        obtain ⟨a, n, c, b, m, d, hc1, hc2, hc3⟩ := z6 d6
        subst hA1 hc1
        obtain ⟨⟨s0, s1, s2, s3⟩, ⟨s5, s6, s7, s8⟩, s4⟩ := old4 wz A0 32 _ _ _ _ (.int .i64 D0) (.slice a n c) (.int .i64 D1) (.slice b m d) hA3
        clear hc3
        have S4 := Lib.hid s4
        have HA3 := Lib.hid hA3
        have HA2 := Lib.hid hA2
        clear s4 hA2 hA3 hc2
        have Z := hinv
        clear hinv ho hbel hN hdeps z0 z1 z2 z3 z4 z5 z6 z7 z8 z9 z10 z11 z12 z13 z14 z15 z16 z17 z18 z19 z20 z21 z22
        go_simp
        clear s0 s1 s2 s3 s5 s6 s7 s8
        obtain ⟨hN, hbel, z0, z1, z2, z3, z4, z5, z6, z7, z8, z9, z10, z11, z12, z13, z14, z15, z16, z17, z18, z19, z20, z21, z22⟩ := Z.out
        have hbut := but_set4 wz A0 (.int .i64 D0) (.slice a n c) (.int .i64 D1) (.slice b m d)
        exact hK _ _ ⟨_, _, _, _, _, _, _, _, _, _, _, _, _, _, _, _, rfl, Lib.hid ⟨by simpa using hN, below_set4 hbel HA2.out (.int .i64 D0) (.slice a n c) (.int .i64 D1) (.slice b m d), fun g0 => (z0 ((set_other (by decide)).symm.trans g0)), fun g0 => (z1 ((set_other (by decide)).symm.trans g0)), fun g0 => (z2 ((set_other (by decide)).symm.trans g0)).set4 HA3.out (by decide) (.int .i64 D0) (.slice a n c) (.int .i64 D1) (.slice b m d), fun g0 => (z3 ((set_other (by decide)).symm.trans g0)), fun g0 => (z4 ((set_other (by decide)).symm.trans g0)), fun g0 => (z5 ((set_other (by decide)).symm.trans g0)).set4 HA3.out (by decide) (.int .i64 D0) (.slice a n c) (.int .i64 D1) (.slice b m d), fun g0 => (z6 ((set_other (by decide)).symm.trans g0)).set4 HA3.out (by decide) (.int .i64 D0) (.slice a n c) (.int .i64 D1) (.slice b m d), fun g0 => (z7 ((set_other (by decide)).symm.trans g0)), fun g0 => (z8 ((set_other (by decide)).symm.trans g0)), fun g0 => (z9 ((set_other (by decide)).symm.trans g0)).set4 HA3.out (by decide) (.int .i64 D0) (.slice a n c) (.int .i64 D1) (.slice b m d), fun g0 => (z10 ((set_other (by decide)).symm.trans g0)), fun g0 => (z11 ((set_other (by decide)).symm.trans g0)), fun g0 => (z12 ((set_other (by decide)).symm.trans g0)).set4 HA3.out (by decide) (.int .i64 D0) (.slice a n c) (.int .i64 D1) (.slice b m d), fun g0 => (z13 ((set_other (by decide)).symm.trans g0)).set4 HA3.out (by decide) (.int .i64 D0) (.slice a n c) (.int .i64 D1) (.slice b m d), fun g0 => ⟨A0, rfl, HA2.out, _, _, _, _, S4.out⟩, fun g0 => (z15 ((set_other (by decide)).symm.trans g0)).but hbut ((z16 d14 d15)).symm, fun g0 g1 => (z16 ((set_other (by decide)).symm.trans g0) ((set_other (by decide)).symm.trans g1)), fun _ => ⟨A0, _, rfl, rfl, S4.out⟩, fun g0 => (z18 ((set_other (by decide)).symm.trans g0)).but hbut ((z16 d14 d15)).symm, fun g0 => ⟨set_keep (z19 ((set_other (by decide)).symm.trans g0)).1, set_keep (z19 ((set_other (by decide)).symm.trans g0)).2⟩, fun g0 => ⟨set_keep (z20 ((set_other (by decide)).symm.trans g0)).1, set_keep (z20 ((set_other (by decide)).symm.trans g0)).2⟩, fun _ => ⟨set_keep d14, set_keep d6⟩, fun g0 => ⟨set_keep (z22 ((set_other (by decide)).symm.trans g0)).1, set_keep (z22 ((set_other (by decide)).symm.trans g0)).2⟩⟩⟩
      · as_aux_lemma =>
        obtain rfl := Option.some.inj ho
        have hds : L[15]? = some true ∧ L[14]? = some true ∧ L[13]? = some true := by
          simp [Region.binds] at hdeps
          refine ⟨?_, ?_, ?_⟩ <;> (refine dep ?_; simp [hdeps])
        obtain ⟨d15, d14, d13⟩ := hds
        obtain ⟨A0, hA1, hA2, x0, u0, v0, t0, hA3⟩ := z15 d15
        obtain ⟨a, n, c, b, m, d, hc1, hc2, hc3⟩ := z13 d13
        subst hA1 hc1
        obtain ⟨⟨s0, s1, s2, s3⟩, ⟨s5, s6, s7, s8⟩, s4⟩ := old4 wz A0 33 _ _ _ _ (.int .i64 D0) (.slice a n c) (.int .i64 D1) (.slice b m d) hA3
        clear hc3
        have S4 := Lib.hid s4
        have HA3 := Lib.hid hA3
        have HA2 := Lib.hid hA2
        clear s4 hA2 hA3 hc2
        have Z := hinv
        clear hinv ho hbel hN hdeps z0 z1 z2 z3 z4 z5 z6 z7 z8 z9 z10 z11 z12 z13 z14 z15 z16 z17 z18 z19 z20 z21 z22
        go_simp
        clear s0 s1 s2 s3 s5 s6 s7 s8
        obtain ⟨hN, hbel, z0, z1, z2, z3, z4, z5, z6, z7, z8, z9, z10, z11, z12, z13, z14, z15, z16, z17, z18, z19, z20, z21, z22⟩ := Z.out
        have hbut := but_set4 wz A0 (.int .i64 D0) (.slice a n c) (.int .i64 D1) (.slice b m d)
        exact hK _ _ ⟨_, _, _, _, _, _, _, _, _, _, _, _, _, _, _, _, rfl, Lib.hid ⟨by simpa using hN, below_set4 hbel HA2.out (.int .i64 D0) (.slice a n c) (.int .i64 D1) (.slice b m d), fun g0 => (z0 ((set_other (by decide)).symm.trans g0)), fun g0 => (z1 ((set_other (by decide)).symm.trans g0)), fun g0 => (z2 ((set_other (by decide)).symm.trans g0)).set4 HA3.out (by decide) (.int .i64 D0) (.slice a n c) (.int .i64 D1) (.slice b m d), fun g0 => (z3 ((set_other (by decide)).symm.trans g0)), fun g0 => (z4 ((set_other (by decide)).symm.trans g0)), fun g0 => (z5 ((set_other (by decide)).symm.trans g0)).set4 HA3.out (by decide) (.int .i64 D0) (.slice a n c) (.int .i64 D1) (.slice b m d), fun g0 => (z6 ((set_other (by decide)).symm.trans g0)).set4 HA3.out (by decide) (.int .i64 D0) (.slice a n c) (.int .i64 D1) (.slice b m d), fun g0 => (z7 ((set_other (by decide)).symm.trans g0)), fun g0 => (z8 ((set_other (by decide)).symm.trans g0)), fun g0 => (z9 ((set_other (by decide)).symm.trans g0)).set4 HA3.out (by decide) (.int .i64 D0) (.slice a n c) (.int .i64 D1) (.slice b m d), fun g0 => (z10 ((set_other (by decide)).symm.trans g0)), fun g0 => (z11 ((set_other (by decide)).symm.trans g0)), fun g0 => (z12 ((set_other (by decide)).symm.trans g0)).set4 HA3.out (by decide) (.int .i64 D0) (.slice a n c) (.int .i64 D1) (.slice b m d), fun g0 => (z13 ((set_other (by decide)).symm.trans g0)).set4 HA3.out (by decide) (.int .i64 D0) (.slice a n c) (.int .i64 D1) (.slice b m d), fun g0 => (z14 ((set_other (by decide)).symm.trans g0)).but hbut (z16 d14 d15), fun g0 => ⟨A0, rfl, HA2.out, _, _, _, _, S4.out⟩, fun g0 g1 => (z16 ((set_other (by decide)).symm.trans g0) ((set_other (by decide)).symm.trans g1)), fun g0 => (z17 ((set_other (by decide)).symm.trans g0)).but hbut (z16 d14 d15), fun _ => ⟨A0, _, rfl, rfl, S4.out⟩, fun g0 => ⟨set_keep (z19 ((set_other (by decide)).symm.trans g0)).1, set_keep (z19 ((set_other (by decide)).symm.trans g0)).2⟩, fun g0 => ⟨set_keep (z20 ((set_other (by decide)).symm.trans g0)).1, set_keep (z20 ((set_other (by decide)).symm.trans g0)).2⟩, fun g0 => ⟨set_keep (z21 ((set_other (by decide)).symm.trans g0)).1, set_keep (z21 ((set_other (by decide)).symm.trans g0)).2⟩, fun _ => ⟨set_keep d15, set_keep d13⟩⟩⟩
    case fin1 =>
      intro L a wz hI hr
      obtain ⟨y7, y8, y20, y21, y22, y23, y24, y25, y26, y27, y28, y29, y30, y31, y32, y33, rfl, hinv⟩ := hI
      obtain ⟨hN, hbel, z0, z1, z2, z3, z4, z5, z6, z7, z8, z9, z10, z11, z12, z13, z14, z15, z16, z17, z18, z19, z20, z21, z22⟩ := hinv.out
      have f0 : L[0]? = some true := by
        cases hb : L[0]? with
        | none => have := (Array.getElem?_eq_none_iff.1 hb); omega
        | some b =>
          cases b with
          | true => rfl
          | false => exact (ready_nil hr hb (by rfl) (by simp [Region.binds])).elim
      have f1 : L[1]? = some true := by
        cases hb : L[1]? with
        | none => have := (Array.getElem?_eq_none_iff.1 hb); omega
        | some b =>
          cases b with
          | true => rfl
          | false => exact (ready_nil hr hb (by rfl) (by simp [Region.binds, f0])).elim
      have f2 : L[2]? = some true := by
        cases hb : L[2]? with
        | none => have := (Array.getElem?_eq_none_iff.1 hb); omega
        | some b =>
          cases b with
          | true => rfl
          | false => exact (ready_nil hr hb (by rfl) (by simp [Region.binds, f0, f1])).elim
      have f3 : L[3]? = some true := by
        cases hb : L[3]? with
        | none => have := (Array.getElem?_eq_none_iff.1 hb); omega
        | some b =>
          cases b with
          | true => rfl
          | false => exact (ready_nil hr hb (by rfl) (by simp [Region.binds, f0, f1, f2])).elim
      have f4 : L[4]? = some true := by
        cases hb : L[4]? with
        | none => have := (Array.getElem?_eq_none_iff.1 hb); omega
        | some b =>
          cases b with
          | true => rfl
          | false => exact (ready_nil hr hb (by rfl) (by simp [Region.binds, f0, f1, f2, f3])).elim
      have f5 : L[5]? = some true := by
        cases hb : L[5]? with
        | none => have := (Array.getElem?_eq_none_iff.1 hb); omega
        | some b =>
          cases b with
          | true => rfl
          | false => exact (ready_nil hr hb (by rfl) (by simp [Region.binds, f0, f1, f2, f3, f4])).elim
      have f6 : L[6]? = some true := by
        cases hb : L[6]? with
        | none => have := (Array.getElem?_eq_none_iff.1 hb); omega
        | some b =>
          cases b with
          | true => rfl
          | false => exact (ready_nil hr hb (by rfl) (by simp [Region.binds, f0, f1, f2, f3, f4, f5])).elim
      have f7 : L[7]? = some true := by
        cases hb : L[7]? with
        | none => have := (Array.getElem?_eq_none_iff.1 hb); omega
        | some b =>
          cases b with
          | true => rfl
          | false => exact (ready_nil hr hb (by rfl) (by simp [Region.binds, f0, f1, f2, f3, f4, f5, f6])).elim
      have f8 : L[8]? = some true := by
        cases hb : L[8]? with
        | none => have := (Array.getElem?_eq_none_iff.1 hb); omega
        | some b =>
          cases b with
          | true => rfl
          | false => exact (ready_nil hr hb (by rfl) (by simp [Region.binds, f0, f1, f2, f3, f4, f5, f6, f7])).elim
      have f9 : L[9]? = some true := by
        cases hb : L[9]? with
        | none => have := (Array.getElem?_eq_none_iff.1 hb); omega
        | some b =>
          cases b with
          | true => rfl
          | false => exact (ready_nil hr hb (by rfl) (by simp [Region.binds, f0, f1, f2, f3, f4, f5, f6, f7, f8])).elim
      have f10 : L[10]? = some true := by
        cases hb : L[10]? with
        | none => have := (Array.getElem?_eq_none_iff.1 hb); omega
        | some b =>
          cases b with
          | true => rfl
          | false => exact (ready_nil hr hb (by rfl) (by simp [Region.binds, f0, f1, f2, f3, f4, f5, f6, f7, f8, f9])).elim
      have f11 : L[11]? = some true := by
        cases hb : L[11]? with
        | none => have := (Array.getElem?_eq_none_iff.1 hb); omega
        | some b =>
          cases b with
          | true => rfl
          | false => exact (ready_nil hr hb (by rfl) (by simp [Region.binds, f0, f1, f2, f3, f4, f5, f6, f7, f8, f9, f10])).elim
      have f12 : L[12]? = some true := by
        cases hb : L[12]? with
        | none => have := (Array.getElem?_eq_none_iff.1 hb); omega
        | some b =>
          cases b with
          | true => rfl
          | false => exact (ready_nil hr hb (by rfl) (by simp [Region.binds, f0, f1, f2, f3, f4, f5, f6, f7, f8, f9, f10, f11])).elim
      have f13 : L[13]? = some true := by
        cases hb : L[13]? with
        | none => have := (Array.getElem?_eq_none_iff.1 hb); omega
        | some b =>
          cases b with
          | true => rfl
          | false => exact (ready_nil hr hb (by rfl) (by simp [Region.binds, f0, f1, f2, f3, f4, f5, f6, f7, f8, f9, f10, f11, f12])).elim
      have f14 : L[14]? = some true := by
        cases hb : L[14]? with
        | none => have := (Array.getElem?_eq_none_iff.1 hb); omega
        | some b =>
          cases b with
          | true => rfl
          | false => exact (ready_nil hr hb (by rfl) (by simp [Region.binds, f0, f1, f2, f3, f4, f5, f6, f7, f8, f9, f10, f11, f12, f13])).elim
      have f15 : L[15]? = some true := by
        cases hb : L[15]? with
        | none => have := (Array.getElem?_eq_none_iff.1 hb); omega
        | some b =>
          cases b with
          | true => rfl
          | false => exact (ready_nil hr hb (by rfl) (by simp [Region.binds, f0, f1, f2, f3, f4, f5, f6, f7, f8, f9, f10, f11, f12, f13, f14])).elim
      have f16 : L[16]? = some true := by
        cases hb : L[16]? with
        | none => have := (Array.getElem?_eq_none_iff.1 hb); omega
        | some b =>
          cases b with
          | true => rfl
          | false => exact (ready_nil hr hb (by rfl) (by simp [Region.binds, f0, f1, f2, f3, f4, f5, f6, f7, f8, f9, f10, f11, f12, f13, f14, f15])).elim
      have f17 : L[17]? = some true := by
        cases hb : L[17]? with
        | none => have := (Array.getElem?_eq_none_iff.1 hb); omega
        | some b =>
          cases b with
          | true => rfl
          | false => exact (ready_nil hr hb (by rfl) (by simp [Region.binds, f0, f1, f2, f3, f4, f5, f6, f7, f8, f9, f10, f11, f12, f13, f14, f15, f16])).elim
      obtain ⟨B0, cs, hp0, hy0, hh0⟩ := z17 f16
      obtain ⟨a0, n0, c0, b0, m0, d0, hz, hl0, hm0⟩ := z6 f6
      rw [hz] at hy0
      obtain rfl := (Value.agg.inj hy0).symm
      subst hp0
      obtain ⟨B1, cs, hp1, hy1, hh1⟩ := z18 f17
      obtain ⟨a1, n1, c1, b1, m1, d1, hz, hl1, hm1⟩ := z13 f13
      rw [hz] at hy1
      obtain rfl := (Value.agg.inj hy1).symm
      subst hp1
      have HF := Lib.hid (show VW wz B0 32 D0 a0 n0 c0 P0 D1 b0 m0 d0 P1 ∧ VW wz B1 33 D0 a1 n1 c1 P0 D1 b1 m1 d1 P1 ∧ Below w1.heap.size w1 wz from ⟨⟨hh0, hl0.la.mono (by omega), hm0.la.mono (by omega)⟩, ⟨hh1, hl1.la.mono (by omega), hm1.la.mono (by omega)⟩, hbel⟩)
      go_wp2_with fail
      go_meet
      exact ⟨_, _, _, _, _, _, _, _, _, _, _, _, _, _, rfl, rfl, HF⟩
  case rest =>
    obtain ⟨V7, a20, n20, c20, a21, n21, c21, V8, a22, n22, c22, a23, n23, c23, rfl, rfl, HF⟩ := hcut
    obtain ⟨X1, rfl⟩ : ∃ X, X = wc := ⟨_, rfl⟩
    obtain ⟨hv7, hv8, hX⟩ := HF.out
    have HX := Lib.hid hX
    have hB := (HS.out X1 hX).1
    have HS := Lib.hid (fun (wx : World) (hx : Below X1.heap.size X1 wx) => (by
        have hw : Below w.heap.size w wx := hB.trans (hx.mono hB.size)
        have hold := HS.out wx (HX.out.trans (hx.mono HX.out.size))
        have r0 := block_below hv7.1 hx
        have r1 := block_below hv8.1 hx
        exact ⟨hw, hold.2.1, hold.2.2.1, hold.2.2.2.1, hold.2.2.2.2.1, hold.2.2.2.2.2.1, hold.2.2.2.2.2.2.1, hold.2.2.2.2.2.2.2.1, hold.2.2.2.2.2.2.2.2.1, hold.2.2.2.2.2.2.2.2.2.1, hold.2.2.2.2.2.2.2.2.2.2.1, hold.2.2.2.2.2.2.2.2.2.2.2.1, hold.2.2.2.2.2.2.2.2.2.2.2.2.1, hold.2.2.2.2.2.2.2.2.2.2.2.2.2.1, hold.2.2.2.2.2.2.2.2.2.2.2.2.2.2.1, by rw [cell_of_row _ _ 0 _ 32 (0, 0) r0]; rfl, by rw [cell_of_row _ _ 1 _ 32 (0, 0) r0]; rfl, by rw [cell_of_row _ _ 2 _ 32 (0, 0) r0]; rfl, by rw [cell_of_row _ _ 3 _ 32 (0, 0) r0]; rfl, by rw [cell_of_row _ _ 0 _ 33 (0, 0) r1]; rfl, by rw [cell_of_row _ _ 1 _ 33 (0, 0) r1]; rfl, by rw [cell_of_row _ _ 2 _ 33 (0, 0) r1]; rfl, by rw [cell_of_row _ _ 3 _ 33 (0, 0) r1]; rfl, hold.2.2.2.2.2.2.2.2.2.2.2.2.2.2.2.1, hold.2.2.2.2.2.2.2.2.2.2.2.2.2.2.2.2.1, hold.2.2.2.2.2.2.2.2.2.2.2.2.2.2.2.2.2.1, hold.2.2.2.2.2.2.2.2.2.2.2.2.2.2.2.2.2.2.1, hold.2.2.2.2.2.2.2.2.2.2.2.2.2.2.2.2.2.2.2.1, hold.2.2.2.2.2.2.2.2.2.2.2.2.2.2.2.2.2.2.2.2.1, hold.2.2.2.2.2.2.2.2.2.2.2.2.2.2.2.2.2.2.2.2.2, hv7.2.1.below hx, hv7.2.2.below hx, hv8.2.1.below hx, hv8.2.2.below hx⟩ : Below w.heap.size w wx ∧ wx.cell? ⟨w.heap.size, 0, none⟩ = some (.int .i64 S0) ∧ wx.cell? ⟨w.heap.size, 1, none⟩ = some (.slice sa0 sn0 sc0) ∧ wx.cell? ⟨w.heap.size, 2, none⟩ = some (.int .i64 S1) ∧ wx.cell? ⟨w.heap.size, 3, none⟩ = some (.slice sa1 sn1 sc1) ∧ wx.cell? ⟨w.heap.size, 4, none⟩ = some (.int .i64 S2) ∧ wx.cell? ⟨w.heap.size, 5, none⟩ = some (.slice sa2 sn2 sc2) ∧ wx.cell? ⟨w.heap.size, 6, none⟩ = some (.int .i64 S3) ∧ wx.cell? ⟨w.heap.size, 7, none⟩ = some (.slice sa3 sn3 sc3) ∧ wx.cell? ⟨w.heap.size + 1, 0, none⟩ = some (.int .i64 S4) ∧ wx.cell? ⟨w.heap.size + 1, 1, none⟩ = some (.slice sa4 sn4 sc4) ∧ wx.cell? ⟨w.heap.size + 1, 2, none⟩ = some (.int .i64 S5) ∧ wx.cell? ⟨w.heap.size + 1, 3, none⟩ = some (.slice sa5 sn5 sc5) ∧ wx.cell? ⟨w.heap.size + 1, 4, none⟩ = some (.int .i64 S6) ∧ wx.cell? ⟨w.heap.size + 1, 5, none⟩ = some (.slice sa6 sn6 sc6) ∧ wx.cell? ⟨V7, 0, none⟩ = some (.int .i64 D0) ∧ wx.cell? ⟨V7, 1, none⟩ = some (.slice a20 n20 c20) ∧ wx.cell? ⟨V7, 2, none⟩ = some (.int .i64 D1) ∧ wx.cell? ⟨V7, 3, none⟩ = some (.slice a21 n21 c21) ∧ wx.cell? ⟨V8, 0, none⟩ = some (.int .i64 D0) ∧ wx.cell? ⟨V8, 1, none⟩ = some (.slice a22 n22 c22) ∧ wx.cell? ⟨V8, 2, none⟩ = some (.int .i64 D1) ∧ wx.cell? ⟨V8, 3, none⟩ = some (.slice a23 n23 c23) ∧ IntsL wx (.slice sa0 sn0 sc0) ls0 ∧ IntsL wx (.slice sa1 sn1 sc1) ls1 ∧ IntsL wx (.slice sa2 sn2 sc2) ls2 ∧ IntsL wx (.slice sa3 sn3 sc3) ls3 ∧ IntsL wx (.slice sa4 sn4 sc4) ls4 ∧ IntsL wx (.slice sa5 sn5 sc5) ls5 ∧ IntsL wx (.slice sa6 sn6 sc6) ls6 ∧ LA 12 wx D0 a20 n20 c20 P0 ∧ LA 12 wx D1 a21 n21 c21 P1 ∧ LA 12 wx D0 a22 n22 c22 P0 ∧ LA 12 wx D1 a23 n23 c23 P1))
    clear hv7 hv8 hX hB HF KS0 KS1 KS2 KS3 KS4 KS5 KS6
    clear HX
    go_upto_region 4 with fail
    have KS0 := Lib.hid (fun (W : World) (h : Below X1.heap.size X1 W) => (by obtain ⟨_, _, _, _, _, _, _, _, _, _, _, _, _, _, _, _, _, _, _, _, _, _, _, hi, _, _, _, _, _, _, _, _, _, _⟩ := HS.out W h; exact CS0.out W hi : Calls Try.prog 12 #[.agg #[.int .i64 S0, .slice sa0 sn0 sc0]] W (LM 12 W D0 P0)))
    have KS1 := Lib.hid (fun (W : World) (h : Below X1.heap.size X1 W) => (by obtain ⟨_, _, _, _, _, _, _, _, _, _, _, _, _, _, _, _, _, _, _, _, _, _, _, _, hi, _, _, _, _, _, _, _, _, _⟩ := HS.out W h; exact CS1.out W hi : Calls Try.prog 12 #[.agg #[.int .i64 S1, .slice sa1 sn1 sc1]] W (LM 12 W D1 P1)))
    have KS2 := Lib.hid (fun (W : World) (h : Below X1.heap.size X1 W) => (by obtain ⟨_, _, _, _, _, _, _, _, _, _, _, _, _, _, _, _, _, _, _, _, _, _, _, _, _, hi, _, _, _, _, _, _, _, _⟩ := HS.out W h; exact CS2.out W hi : Calls Try.prog 12 #[.agg #[.int .i64 S2, .slice sa2 sn2 sc2]] W (LM 12 W D2 P2)))
    have KS3 := Lib.hid (fun (W : World) (h : Below X1.heap.size X1 W) => (by obtain ⟨_, _, _, _, _, _, _, _, _, _, _, _, _, _, _, _, _, _, _, _, _, _, _, _, _, _, hi, _, _, _, _, _, _, _⟩ := HS.out W h; exact CS3.out W hi : Calls Try.prog 12 #[.agg #[.int .i64 S3, .slice sa3 sn3 sc3]] W (LM 12 W D3 P3)))
    have KS4 := Lib.hid (fun (W : World) (h : Below X1.heap.size X1 W) => (by obtain ⟨_, _, _, _, _, _, _, _, _, _, _, _, _, _, _, _, _, _, _, _, _, _, _, _, _, _, _, hi, _, _, _, _, _, _⟩ := HS.out W h; exact CS4.out W hi : Calls Try.prog 12 #[.agg #[.int .i64 S4, .slice sa4 sn4 sc4]] W (LM 12 W D4 P4)))
    have KS5 := Lib.hid (fun (W : World) (h : Below X1.heap.size X1 W) => (by obtain ⟨_, _, _, _, _, _, _, _, _, _, _, _, _, _, _, _, _, _, _, _, _, _, _, _, _, _, _, _, hi, _, _, _, _, _⟩ := HS.out W h; exact CS5.out W hi : Calls Try.prog 12 #[.agg #[.int .i64 S5, .slice sa5 sn5 sc5]] W (LM 12 W D5 P5)))
    have KS6 := Lib.hid (fun (W : World) (h : Below X1.heap.size X1 W) => (by obtain ⟨_, _, _, _, _, _, _, _, _, _, _, _, _, _, _, _, _, _, _, _, _, _, _, _, _, _, _, _, _, hi, _, _, _, _⟩ := HS.out W h; exact CS6.out W hi : Calls Try.prog 12 #[.agg #[.int .i64 S6, .slice sa6 sn6 sc6]] W (LM 12 W D6 P6)))
    go_cut [9, 10, 34, 35, 36, 37, 38, 39, 40, 41, 42, 43, 44, 45, 46, 47] (fun s9 s10 s34 s35 s36 s37 s38 s39 s40 s41 s42 s43 s44 s45 s46 s47 wx => ∃ V9 a24 n24 c24 a25 n25 c25 V10 a26 n26 c26 a27 n27 c27, s9 = .pointer (some ⟨V9, 0, none⟩) ∧ s10 = .pointer (some ⟨V10, 0, none⟩) ∧ Hid (VW wx V9 32 D2 a24 n24 c24 P2 D3 a25 n25 c25 P3 ∧ VW wx V10 33 D2 a26 n26 c26 P2 D3 a27 n27 c27 P3 ∧ Below X1.heap.size X1 wx))
    case first =>
      refine wp_region_any (by kernel_rfl) ?_
      refine wpAny_inv (I := fun L a wz => ∃ y9 y10 y34 y35 y36 y37 y38 y39 y40 y41 y42 y43 y44 y45 y46 y47 : Value, a = { tmps := #[.agg #[.int .i64 S0, .slice sa0 sn0 sc0, .int .i64 S1, .slice sa1 sn1 sc1, .int .i64 S2, .slice sa2 sn2 sc2, .int .i64 S3, .slice sa3 sn3 sc3], .agg #[.int .i64 S4, .slice sa4 sn4 sc4, .int .i64 S5, .slice sa5 sn5 sc5, .int .i64 S6, .slice sa6 sn6 sc6], .int .u32 x2, .pointer (some ⟨w.heap.size, 0, none⟩), .pointer (some ⟨w.heap.size + 1, 0, none⟩), undef, .bool false, .pointer (some ⟨V7, 0, none⟩), .pointer (some ⟨V8, 0, none⟩), y9, y10, undef, undef, undef, undef, undef, undef, undef, u18, u19, u20, u21, u22, u23, u24, u25, u26, u27, u28, u29, u30, u31, u32, u33, y34, y35, y36, y37, y38, y39, y40, y41, y42, y43, y44, y45, y46, y47, u48, u49, u50, u51, u52, u53, u54, u55, u56, u57, u58, u59, u60, u61, u62, u63, u64, u65, u66, u67, u68, u69, u70, u71, u72, u73, u74, u75, u76, u77, u78, u79, u80, u81, u82, u83, u84, u85, u86, u87, u88, u89, u90, u91, u92, u93, u94, u95, u96, u97, u98, u99, u100, u101, u102, u103, u104, u105, u106, u107, u108, u109, u110, u111, u112, u113, u114, u115, u116, u117, u118, u119, u120, u121, u122, u123, u124], defers := [] } ∧ Hid (L.size = 18 ∧ Below X1.heap.size X1 wz ∧ (L[0]? = some true → y34 = .pointer (some ⟨w.heap.size, 4, none⟩)) ∧ (L[1]? = some true → y35 = .agg #[.int .i64 S2, .slice sa2 sn2 sc2]) ∧ (L[2]? = some true → CV X1 wz D2 P2 y36) ∧ (L[3]? = some true → y37 = .pointer (some ⟨w.heap.size, 6, none⟩)) ∧ (L[4]? = some true → y38 = .agg #[.int .i64 S3, .slice sa3 sn3 sc3]) ∧ (L[5]? = some true → CV X1 wz D3 P3 y39) ∧ (L[6]? = some true → BV X1 wz D2 P2 D3 P3 y40) ∧ (L[7]? = some true → y41 = .pointer (some ⟨w.heap.size, 4, none⟩)) ∧ (L[8]? = some true → y42 = .agg #[.int .i64 S2, .slice sa2 sn2 sc2]) ∧ (L[9]? = some true → CV X1 wz D2 P2 y43) ∧ (L[10]? = some true → y44 = .pointer (some ⟨w.heap.size, 6, none⟩)) ∧ (L[11]? = some true → y45 = .agg #[.int .i64 S3, .slice sa3 sn3 sc3]) ∧ (L[12]? = some true → CV X1 wz D3 P3 y46) ∧ (L[13]? = some true → BV X1 wz D2 P2 D3 P3 y47) ∧ (L[14]? = some true → N4 X1 wz 32 y9) ∧ (L[15]? = some true → N4 X1 wz 33 y10) ∧ (L[14]? = some true → L[15]? = some true → y9 ≠ y10) ∧ (L[16]? = some true → HV wz 32 y9 y40) ∧ (L[17]? = some true → HV wz 33 y10 y47) ∧ (L[6]? = some true → (L[2]? = some true ∧ L[5]? = some true)) ∧ (L[13]? = some true → (L[9]? = some true ∧ L[12]? = some true)) ∧ (L[16]? = some true → (L[14]? = some true ∧ L[6]? = some true)) ∧ (L[17]? = some true → (L[15]? = some true ∧ L[13]? = some true)))) ?step2 ?fin2 _ _ _ _ ⟨_, _, _, _, _, _, _, _, _, _, _, _, _, _, _, _, rfl, Lib.hid ⟨by rfl, Below.drew (Below.refl _ _), gone (by rfl), gone (by rfl), gone (by rfl), gone (by rfl), gone (by rfl), gone (by rfl), gone (by rfl), gone (by rfl), gone (by rfl), gone (by rfl), gone (by rfl), gone (by rfl), gone (by rfl), gone (by rfl), gone (by rfl), gone (by rfl), gone (by rfl), gone (by rfl), gone (by rfl), gone (by rfl), gone (by rfl), gone (by rfl), gone (by rfl)⟩⟩ (by decide)
      case step2 =>
        intro L a wz i o hI ho hL hdeps K hK
        obtain ⟨y9, y10, y34, y35, y36, y37, y38, y39, y40, y41, y42, y43, y44, y45, y46, y47, rfl, hinv⟩ := hI
        have hi : i < 18 := by have := (Array.getElem?_eq_some_iff.1 ho).1; exact this
        obtain ⟨hN, hbel, z0, z1, z2, z3, z4, z5, z6, z7, z8, z9, z10, z11, z12, z13, z14, z15, z16, z17, z18, z19, z20, z21, z22⟩ := hinv.out
        obtain rfl | rfl | rfl | rfl | rfl | rfl | rfl | rfl | rfl | rfl | rfl | rfl | rfl | rfl | rfl | rfl | rfl | rfl : i = 0 ∨ i = 1 ∨ i = 2 ∨ i = 3 ∨ i = 4 ∨ i = 5 ∨ i = 6 ∨ i = 7 ∨ i = 8 ∨ i = 9 ∨ i = 10 ∨ i = 11 ∨ i = 12 ∨ i = 13 ∨ i = 14 ∨ i = 15 ∨ i = 16 ∨ i = 17 := by omega
        · as_aux_lemma =>
          obtain rfl := Option.some.inj ho
          have Z := hinv
          clear hinv ho hbel hN hdeps z0 z1 z2 z3 z4 z5 z6 z7 z8 z9 z10 z11 z12 z13 z14 z15 z16 z17 z18 z19 z20 z21 z22
          go_simp
          obtain ⟨hN, hbel, z0, z1, z2, z3, z4, z5, z6, z7, z8, z9, z10, z11, z12, z13, z14, z15, z16, z17, z18, z19, z20, z21, z22⟩ := Z.out
          exact hK _ _ ⟨_, _, _, _, _, _, _, _, _, _, _, _, _, _, _, _, rfl, Lib.hid ⟨by simpa using hN, hbel, fun _ => rfl, fun g0 => (z1 ((set_other (by decide)).symm.trans g0)), fun g0 => (z2 ((set_other (by decide)).symm.trans g0)), fun g0 => (z3 ((set_other (by decide)).symm.trans g0)), fun g0 => (z4 ((set_other (by decide)).symm.trans g0)), fun g0 => (z5 ((set_other (by decide)).symm.trans g0)), fun g0 => (z6 ((set_other (by decide)).symm.trans g0)), fun g0 => (z7 ((set_other (by decide)).symm.trans g0)), fun g0 => (z8 ((set_other (by decide)).symm.trans g0)), fun g0 => (z9 ((set_other (by decide)).symm.trans g0)), fun g0 => (z10 ((set_other (by decide)).symm.trans g0)), fun g0 => (z11 ((set_other (by decide)).symm.trans g0)), fun g0 => (z12 ((set_other (by decide)).symm.trans g0)), fun g0 => (z13 ((set_other (by decide)).symm.trans g0)), fun g0 => (z14 ((set_other (by decide)).symm.trans g0)), fun g0 => (z15 ((set_other (by decide)).symm.trans g0)), fun g0 g1 => (z16 ((set_other (by decide)).symm.trans g0) ((set_other (by decide)).symm.trans g1)), fun g0 => (z17 ((set_other (by decide)).symm.trans g0)), fun g0 => (z18 ((set_other (by decide)).symm.trans g0)), fun g0 => ⟨set_keep (z19 ((set_other (by decide)).symm.trans g0)).1, set_keep (z19 ((set_other (by decide)).symm.trans g0)).2⟩, fun g0 => ⟨set_keep (z20 ((set_other (by decide)).symm.trans g0)).1, set_keep (z20 ((set_other (by decide)).symm.trans g0)).2⟩, fun g0 => ⟨set_keep (z21 ((set_other (by decide)).symm.trans g0)).1, set_keep (z21 ((set_other (by decide)).symm.trans g0)).2⟩, fun g0 => ⟨set_keep (z22 ((set_other (by decide)).symm.trans g0)).1, set_keep (z22 ((set_other (by decide)).symm.trans g0)).2⟩⟩⟩
        · as_aux_lemma =>
          obtain rfl := Option.some.inj ho
          have e0 := z0 (dep (by simp [Region.binds] at hdeps ⊢; simp [hdeps]))
          subst e0
          obtain ⟨_, _, _, _, _, b0, b1, _, _, _, _, _, _, _, _, _, _, _, _, _, _, _, _, _, _, _, _, _, _, _, _, _, _, _⟩ := HS.out wz hbel
          have Z := hinv
          clear hinv ho hbel hN hdeps z0 z1 z2 z3 z4 z5 z6 z7 z8 z9 z10 z11 z12 z13 z14 z15 z16 z17 z18 z19 z20 z21 z22
          go_simp
          obtain ⟨hN, hbel, z0, z1, z2, z3, z4, z5, z6, z7, z8, z9, z10, z11, z12, z13, z14, z15, z16, z17, z18, z19, z20, z21, z22⟩ := Z.out
          exact hK _ _ ⟨_, _, _, _, _, _, _, _, _, _, _, _, _, _, _, _, rfl, Lib.hid ⟨by simpa using hN, hbel, fun g0 => (z0 ((set_other (by decide)).symm.trans g0)), fun _ => rfl, fun g0 => (z2 ((set_other (by decide)).symm.trans g0)), fun g0 => (z3 ((set_other (by decide)).symm.trans g0)), fun g0 => (z4 ((set_other (by decide)).symm.trans g0)), fun g0 => (z5 ((set_other (by decide)).symm.trans g0)), fun g0 => (z6 ((set_other (by decide)).symm.trans g0)), fun g0 => (z7 ((set_other (by decide)).symm.trans g0)), fun g0 => (z8 ((set_other (by decide)).symm.trans g0)), fun g0 => (z9 ((set_other (by decide)).symm.trans g0)), fun g0 => (z10 ((set_other (by decide)).symm.trans g0)), fun g0 => (z11 ((set_other (by decide)).symm.trans g0)), fun g0 => (z12 ((set_other (by decide)).symm.trans g0)), fun g0 => (z13 ((set_other (by decide)).symm.trans g0)), fun g0 => (z14 ((set_other (by decide)).symm.trans g0)), fun g0 => (z15 ((set_other (by decide)).symm.trans g0)), fun g0 g1 => (z16 ((set_other (by decide)).symm.trans g0) ((set_other (by decide)).symm.trans g1)), fun g0 => (z17 ((set_other (by decide)).symm.trans g0)), fun g0 => (z18 ((set_other (by decide)).symm.trans g0)), fun g0 => ⟨set_keep (z19 ((set_other (by decide)).symm.trans g0)).1, set_keep (z19 ((set_other (by decide)).symm.trans g0)).2⟩, fun g0 => ⟨set_keep (z20 ((set_other (by decide)).symm.trans g0)).1, set_keep (z20 ((set_other (by decide)).symm.trans g0)).2⟩, fun g0 => ⟨set_keep (z21 ((set_other (by decide)).symm.trans g0)).1, set_keep (z21 ((set_other (by decide)).symm.trans g0)).2⟩, fun g0 => ⟨set_keep (z22 ((set_other (by decide)).symm.trans g0)).1, set_keep (z22 ((set_other (by decide)).symm.trans g0)).2⟩⟩⟩
        · as_aux_lemma =>
          obtain rfl := Option.some.inj ho
          have e0 := z1 (dep (by simp [Region.binds] at hdeps ⊢; simp [hdeps]))
          subst e0
          have CC := Lib.hid (KS2.out wz hbel)
          have Z := hinv
          clear hinv ho hbel hN hdeps z0 z1 z2 z3 z4 z5 z6 z7 z8 z9 z10 z11 z12 z13 z14 z15 z16 z17 z18 z19 z20 z21 z22
          go_simp
          refine CC.out.mono ?_
          rintro e wq ⟨a, n, c, rfl, how, hb'⟩
          obtain ⟨hN, hbel, z0, z1, z2, z3, z4, z5, z6, z7, z8, z9, z10, z11, z12, z13, z14, z15, z16, z17, z18, z19, z20, z21, z22⟩ := Z.out
          exact hK _ _ ⟨_, _, _, _, _, _, _, _, _, _, _, _, _, _, _, _, rfl, Lib.hid ⟨by simpa using hN, hbel.trans (hb'.mono hbel.size), fun g0 => (z0 ((set_other (by decide)).symm.trans g0)), fun g0 => (z1 ((set_other (by decide)).symm.trans g0)), fun _ => ⟨a, n, c, rfl, how.base hbel.size⟩, fun g0 => (z3 ((set_other (by decide)).symm.trans g0)), fun g0 => (z4 ((set_other (by decide)).symm.trans g0)), fun g0 => (z5 ((set_other (by decide)).symm.trans g0)).below hb', fun g0 => not_done hL (z19 (((set_other (by decide)).symm.trans g0))).1, fun g0 => (z7 ((set_other (by decide)).symm.trans g0)), fun g0 => (z8 ((set_other (by decide)).symm.trans g0)), fun g0 => (z9 ((set_other (by decide)).symm.trans g0)).below hb', fun g0 => (z10 ((set_other (by decide)).symm.trans g0)), fun g0 => (z11 ((set_other (by decide)).symm.trans g0)), fun g0 => (z12 ((set_other (by decide)).symm.trans g0)).below hb', fun g0 => (z13 ((set_other (by decide)).symm.trans g0)).below hb', fun g0 => (z14 ((set_other (by decide)).symm.trans g0)).below hb', fun g0 => (z15 ((set_other (by decide)).symm.trans g0)).below hb', fun g0 g1 => (z16 ((set_other (by decide)).symm.trans g0) ((set_other (by decide)).symm.trans g1)), fun g0 => (z17 ((set_other (by decide)).symm.trans g0)).below hb', fun g0 => (z18 ((set_other (by decide)).symm.trans g0)).below hb', fun g0 => not_done hL (z19 (((set_other (by decide)).symm.trans g0))).1, fun g0 => ⟨set_keep (z20 ((set_other (by decide)).symm.trans g0)).1, set_keep (z20 ((set_other (by decide)).symm.trans g0)).2⟩, fun g0 => ⟨set_keep (z21 ((set_other (by decide)).symm.trans g0)).1, set_keep (z21 ((set_other (by decide)).symm.trans g0)).2⟩, fun g0 => ⟨set_keep (z22 ((set_other (by decide)).symm.trans g0)).1, set_keep (z22 ((set_other (by decide)).symm.trans g0)).2⟩⟩⟩
        · as_aux_lemma =>
          obtain rfl := Option.some.inj ho
          have Z := hinv
          clear hinv ho hbel hN hdeps z0 z1 z2 z3 z4 z5 z6 z7 z8 z9 z10 z11 z12 z13 z14 z15 z16 z17 z18 z19 z20 z21 z22
          go_simp
          obtain ⟨hN, hbel, z0, z1, z2, z3, z4, z5, z6, z7, z8, z9, z10, z11, z12, z13, z14, z15, z16, z17, z18, z19, z20, z21, z22⟩ := Z.out
          exact hK _ _ ⟨_, _, _, _, _, _, _, _, _, _, _, _, _, _, _, _, rfl, Lib.hid ⟨by simpa using hN, hbel, fun g0 => (z0 ((set_other (by decide)).symm.trans g0)), fun g0 => (z1 ((set_other (by decide)).symm.trans g0)), fun g0 => (z2 ((set_other (by decide)).symm.trans g0)), fun _ => rfl, fun g0 => (z4 ((set_other (by decide)).symm.trans g0)), fun g0 => (z5 ((set_other (by decide)).symm.trans g0)), fun g0 => (z6 ((set_other (by decide)).symm.trans g0)), fun g0 => (z7 ((set_other (by decide)).symm.trans g0)), fun g0 => (z8 ((set_other (by decide)).symm.trans g0)), fun g0 => (z9 ((set_other (by decide)).symm.trans g0)), fun g0 => (z10 ((set_other (by decide)).symm.trans g0)), fun g0 => (z11 ((set_other (by decide)).symm.trans g0)), fun g0 => (z12 ((set_other (by decide)).symm.trans g0)), fun g0 => (z13 ((set_other (by decide)).symm.trans g0)), fun g0 => (z14 ((set_other (by decide)).symm.trans g0)), fun g0 => (z15 ((set_other (by decide)).symm.trans g0)), fun g0 g1 => (z16 ((set_other (by decide)).symm.trans g0) ((set_other (by decide)).symm.trans g1)), fun g0 => (z17 ((set_other (by decide)).symm.trans g0)), fun g0 => (z18 ((set_other (by decide)).symm.trans g0)), fun g0 => ⟨set_keep (z19 ((set_other (by decide)).symm.trans g0)).1, set_keep (z19 ((set_other (by decide)).symm.trans g0)).2⟩, fun g0 => ⟨set_keep (z20 ((set_other (by decide)).symm.trans g0)).1, set_keep (z20 ((set_other (by decide)).symm.trans g0)).2⟩, fun g0 => ⟨set_keep (z21 ((set_other (by decide)).symm.trans g0)).1, set_keep (z21 ((set_other (by decide)).symm.trans g0)).2⟩, fun g0 => ⟨set_keep (z22 ((set_other (by decide)).symm.trans g0)).1, set_keep (z22 ((set_other (by decide)).symm.trans g0)).2⟩⟩⟩
        · as_aux_lemma =>
          obtain rfl := Option.some.inj ho
          have e0 := z3 (dep (by simp [Region.binds] at hdeps ⊢; simp [hdeps]))
          subst e0
          obtain ⟨_, _, _, _, _, _, _, b0, b1, _, _, _, _, _, _, _, _, _, _, _, _, _, _, _, _, _, _, _, _, _, _, _, _, _⟩ := HS.out wz hbel
          have Z := hinv
          clear hinv ho hbel hN hdeps z0 z1 z2 z3 z4 z5 z6 z7 z8 z9 z10 z11 z12 z13 z14 z15 z16 z17 z18 z19 z20 z21 z22
          go_simp
          obtain ⟨hN, hbel, z0, z1, z2, z3, z4, z5, z6, z7, z8, z9, z10, z11, z12, z13, z14, z15, z16, z17, z18, z19, z20, z21, z22⟩ := Z.out
          exact hK _ _ ⟨_, _, _, _, _, _, _, _, _, _, _, _, _, _, _, _, rfl, Lib.hid ⟨by simpa using hN, hbel, fun g0 => (z0 ((set_other (by decide)).symm.trans g0)), fun g0 => (z1 ((set_other (by decide)).symm.trans g0)), fun g0 => (z2 ((set_other (by decide)).symm.trans g0)), fun g0 => (z3 ((set_other (by decide)).symm.trans g0)), fun _ => rfl, fun g0 => (z5 ((set_other (by decide)).symm.trans g0)), fun g0 => (z6 ((set_other (by decide)).symm.trans g0)), fun g0 => (z7 ((set_other (by decide)).symm.trans g0)), fun g0 => (z8 ((set_other (by decide)).symm.trans g0)), fun g0 => (z9 ((set_other (by decide)).symm.trans g0)), fun g0 => (z10 ((set_other (by decide)).symm.trans g0)), fun g0 => (z11 ((set_other (by decide)).symm.trans g0)), fun g0 => (z12 ((set_other (by decide)).symm.trans g0)), fun g0 => (z13 ((set_other (by decide)).symm.trans g0)), fun g0 => (z14 ((set_other (by decide)).symm.trans g0)), fun g0 => (z15 ((set_other (by decide)).symm.trans g0)), fun g0 g1 => (z16 ((set_other (by decide)).symm.trans g0) ((set_other (by decide)).symm.trans g1)), fun g0 => (z17 ((set_other (by decide)).symm.trans g0)), fun g0 => (z18 ((set_other (by decide)).symm.trans g0)), fun g0 => ⟨set_keep (z19 ((set_other (by decide)).symm.trans g0)).1, set_keep (z19 ((set_other (by decide)).symm.trans g0)).2⟩, fun g0 => ⟨set_keep (z20 ((set_other (by decide)).symm.trans g0)).1, set_keep (z20 ((set_other (by decide)).symm.trans g0)).2⟩, fun g0 => ⟨set_keep (z21 ((set_other (by decide)).symm.trans g0)).1, set_keep (z21 ((set_other (by decide)).symm.trans g0)).2⟩, fun g0 => ⟨set_keep (z22 ((set_other (by decide)).symm.trans g0)).1, set_keep (z22 ((set_other (by decide)).symm.trans g0)).2⟩⟩⟩
        · as_aux_lemma =>
          obtain rfl := Option.some.inj ho
          have e0 := z4 (dep (by simp [Region.binds] at hdeps ⊢; simp [hdeps]))
          subst e0
          have CC := Lib.hid (KS3.out wz hbel)
          have Z := hinv
          clear hinv ho hbel hN hdeps z0 z1 z2 z3 z4 z5 z6 z7 z8 z9 z10 z11 z12 z13 z14 z15 z16 z17 z18 z19 z20 z21 z22
          go_simp
          refine CC.out.mono ?_
          rintro e wq ⟨a, n, c, rfl, how, hb'⟩
          obtain ⟨hN, hbel, z0, z1, z2, z3, z4, z5, z6, z7, z8, z9, z10, z11, z12, z13, z14, z15, z16, z17, z18, z19, z20, z21, z22⟩ := Z.out
          exact hK _ _ ⟨_, _, _, _, _, _, _, _, _, _, _, _, _, _, _, _, rfl, Lib.hid ⟨by simpa using hN, hbel.trans (hb'.mono hbel.size), fun g0 => (z0 ((set_other (by decide)).symm.trans g0)), fun g0 => (z1 ((set_other (by decide)).symm.trans g0)), fun g0 => (z2 ((set_other (by decide)).symm.trans g0)).below hb', fun g0 => (z3 ((set_other (by decide)).symm.trans g0)), fun g0 => (z4 ((set_other (by decide)).symm.trans g0)), fun _ => ⟨a, n, c, rfl, how.base hbel.size⟩, fun g0 => not_done hL (z19 (((set_other (by decide)).symm.trans g0))).2, fun g0 => (z7 ((set_other (by decide)).symm.trans g0)), fun g0 => (z8 ((set_other (by decide)).symm.trans g0)), fun g0 => (z9 ((set_other (by decide)).symm.trans g0)).below hb', fun g0 => (z10 ((set_other (by decide)).symm.trans g0)), fun g0 => (z11 ((set_other (by decide)).symm.trans g0)), fun g0 => (z12 ((set_other (by decide)).symm.trans g0)).below hb', fun g0 => (z13 ((set_other (by decide)).symm.trans g0)).below hb', fun g0 => (z14 ((set_other (by decide)).symm.trans g0)).below hb', fun g0 => (z15 ((set_other (by decide)).symm.trans g0)).below hb', fun g0 g1 => (z16 ((set_other (by decide)).symm.trans g0) ((set_other (by decide)).symm.trans g1)), fun g0 => (z17 ((set_other (by decide)).symm.trans g0)).below hb', fun g0 => (z18 ((set_other (by decide)).symm.trans g0)).below hb', fun g0 => not_done hL (z19 (((set_other (by decide)).symm.trans g0))).2, fun g0 => ⟨set_keep (z20 ((set_other (by decide)).symm.trans g0)).1, set_keep (z20 ((set_other (by decide)).symm.trans g0)).2⟩, fun g0 => ⟨set_keep (z21 ((set_other (by decide)).symm.trans g0)).1, set_keep (z21 ((set_other (by decide)).symm.trans g0)).2⟩, fun g0 => ⟨set_keep (z22 ((set_other (by decide)).symm.trans g0)).1, set_keep (z22 ((set_other (by decide)).symm.trans g0)).2⟩⟩⟩
        · as_aux_lemma =>
          obtain rfl := Option.some.inj ho
          have hd1 : L[2]? = some true := (dep (by simp [Region.binds] at hdeps ⊢; simp [hdeps]))
          have hd2 : L[5]? = some true := (dep (by simp [Region.binds] at hdeps ⊢; simp [hdeps]))
          obtain ⟨a, n, c, e1, hl1⟩ := z2 hd1
          obtain ⟨b, m, d, e2, hl2⟩ := z5 hd2
          subst e1 e2
          have HL1 := Lib.hid hl1
          have HL2 := Lib.hid hl2
          clear hl1 hl2
          have Z := hinv
          clear hinv ho hbel hN hdeps z0 z1 z2 z3 z4 z5 z6 z7 z8 z9 z10 z11 z12 z13 z14 z15 z16 z17 z18 z19 z20 z21 z22
          go_simp
          obtain ⟨hN, hbel, z0, z1, z2, z3, z4, z5, z6, z7, z8, z9, z10, z11, z12, z13, z14, z15, z16, z17, z18, z19, z20, z21, z22⟩ := Z.out
          exact hK _ _ ⟨_, _, _, _, _, _, _, _, _, _, _, _, _, _, _, _, rfl, Lib.hid ⟨by simpa using hN, hbel, fun g0 => (z0 ((set_other (by decide)).symm.trans g0)), fun g0 => (z1 ((set_other (by decide)).symm.trans g0)), fun g0 => (z2 ((set_other (by decide)).symm.trans g0)), fun g0 => (z3 ((set_other (by decide)).symm.trans g0)), fun g0 => (z4 ((set_other (by decide)).symm.trans g0)), fun g0 => (z5 ((set_other (by decide)).symm.trans g0)), fun _ => ⟨a, n, c, b, m, d, rfl, HL1.out, HL2.out⟩, fun g0 => (z7 ((set_other (by decide)).symm.trans g0)), fun g0 => (z8 ((set_other (by decide)).symm.trans g0)), fun g0 => (z9 ((set_other (by decide)).symm.trans g0)), fun g0 => (z10 ((set_other (by decide)).symm.trans g0)), fun g0 => (z11 ((set_other (by decide)).symm.trans g0)), fun g0 => (z12 ((set_other (by decide)).symm.trans g0)), fun g0 => (z13 ((set_other (by decide)).symm.trans g0)), fun g0 => (z14 ((set_other (by decide)).symm.trans g0)), fun g0 => (z15 ((set_other (by decide)).symm.trans g0)), fun g0 g1 => (z16 ((set_other (by decide)).symm.trans g0) ((set_other (by decide)).symm.trans g1)), fun g0 => not_done hL (z21 (((set_other (by decide)).symm.trans g0))).2, fun g0 => (z18 ((set_other (by decide)).symm.trans g0)), fun _ => ⟨set_keep hd1, set_keep hd2⟩, fun g0 => ⟨set_keep (z20 ((set_other (by decide)).symm.trans g0)).1, set_keep (z20 ((set_other (by decide)).symm.trans g0)).2⟩, fun g0 => not_done hL (z21 (((set_other (by decide)).symm.trans g0))).2, fun g0 => ⟨set_keep (z22 ((set_other (by decide)).symm.trans g0)).1, set_keep (z22 ((set_other (by decide)).symm.trans g0)).2⟩⟩⟩
        · as_aux_lemma =>
          obtain rfl := Option.some.inj ho
          have Z := hinv
          clear hinv ho hbel hN hdeps z0 z1 z2 z3 z4 z5 z6 z7 z8 z9 z10 z11 z12 z13 z14 z15 z16 z17 z18 z19 z20 z21 z22
          go_simp
          obtain ⟨hN, hbel, z0, z1, z2, z3, z4, z5, z6, z7, z8, z9, z10, z11, z12, z13, z14, z15, z16, z17, z18, z19, z20, z21, z22⟩ := Z.out
          exact hK _ _ ⟨_, _, _, _, _, _, _, _, _, _, _, _, _, _, _, _, rfl, Lib.hid ⟨by simpa using hN, hbel, fun g0 => (z0 ((set_other (by decide)).symm.trans g0)), fun g0 => (z1 ((set_other (by decide)).symm.trans g0)), fun g0 => (z2 ((set_other (by decide)).symm.trans g0)), fun g0 => (z3 ((set_other (by decide)).symm.trans g0)), fun g0 => (z4 ((set_other (by decide)).symm.trans g0)), fun g0 => (z5 ((set_other (by decide)).symm.trans g0)), fun g0 => (z6 ((set_other (by decide)).symm.trans g0)), fun _ => rfl, fun g0 => (z8 ((set_other (by decide)).symm.trans g0)), fun g0 => (z9 ((set_other (by decide)).symm.trans g0)), fun g0 => (z10 ((set_other (by decide)).symm.trans g0)), fun g0 => (z11 ((set_other (by decide)).symm.trans g0)), fun g0 => (z12 ((set_other (by decide)).symm.trans g0)), fun g0 => (z13 ((set_other (by decide)).symm.trans g0)), fun g0 => (z14 ((set_other (by decide)).symm.trans g0)), fun g0 => (z15 ((set_other (by decide)).symm.trans g0)), fun g0 g1 => (z16 ((set_other (by decide)).symm.trans g0) ((set_other (by decide)).symm.trans g1)), fun g0 => (z17 ((set_other (by decide)).symm.trans g0)), fun g0 => (z18 ((set_other (by decide)).symm.trans g0)), fun g0 => ⟨set_keep (z19 ((set_other (by decide)).symm.trans g0)).1, set_keep (z19 ((set_other (by decide)).symm.trans g0)).2⟩, fun g0 => ⟨set_keep (z20 ((set_other (by decide)).symm.trans g0)).1, set_keep (z20 ((set_other (by decide)).symm.trans g0)).2⟩, fun g0 => ⟨set_keep (z21 ((set_other (by decide)).symm.trans g0)).1, set_keep (z21 ((set_other (by decide)).symm.trans g0)).2⟩, fun g0 => ⟨set_keep (z22 ((set_other (by decide)).symm.trans g0)).1, set_keep (z22 ((set_other (by decide)).symm.trans g0)).2⟩⟩⟩
        · as_aux_lemma =>
          obtain rfl := Option.some.inj ho
          have e0 := z7 (dep (by simp [Region.binds] at hdeps ⊢; simp [hdeps]))
          subst e0
          obtain ⟨_, _, _, _, _, b0, b1, _, _, _, _, _, _, _, _, _, _, _, _, _, _, _, _, _, _, _, _, _, _, _, _, _, _, _⟩ := HS.out wz hbel
          have Z := hinv
          clear hinv ho hbel hN hdeps z0 z1 z2 z3 z4 z5 z6 z7 z8 z9 z10 z11 z12 z13 z14 z15 z16 z17 z18 z19 z20 z21 z22
          go_simp
          obtain ⟨hN, hbel, z0, z1, z2, z3, z4, z5, z6, z7, z8, z9, z10, z11, z12, z13, z14, z15, z16, z17, z18, z19, z20, z21, z22⟩ := Z.out
          exact hK _ _ ⟨_, _, _, _, _, _, _, _, _, _, _, _, _, _, _, _, rfl, Lib.hid ⟨by simpa using hN, hbel, fun g0 => (z0 ((set_other (by decide)).symm.trans g0)), fun g0 => (z1 ((set_other (by decide)).symm.trans g0)), fun g0 => (z2 ((set_other (by decide)).symm.trans g0)), fun g0 => (z3 ((set_other (by decide)).symm.trans g0)), fun g0 => (z4 ((set_other (by decide)).symm.trans g0)), fun g0 => (z5 ((set_other (by decide)).symm.trans g0)), fun g0 => (z6 ((set_other (by decide)).symm.trans g0)), fun g0 => (z7 ((set_other (by decide)).symm.trans g0)), fun _ => rfl, fun g0 => (z9 ((set_other (by decide)).symm.trans g0)), fun g0 => (z10 ((set_other (by decide)).symm.trans g0)), fun g0 => (z11 ((set_other (by decide)).symm.trans g0)), fun g0 => (z12 ((set_other (by decide)).symm.trans g0)), fun g0 => (z13 ((set_other (by decide)).symm.trans g0)), fun g0 => (z14 ((set_other (by decide)).symm.trans g0)), fun g0 => (z15 ((set_other (by decide)).symm.trans g0)), fun g0 g1 => (z16 ((set_other (by decide)).symm.trans g0) ((set_other (by decide)).symm.trans g1)), fun g0 => (z17 ((set_other (by decide)).symm.trans g0)), fun g0 => (z18 ((set_other (by decide)).symm.trans g0)), fun g0 => ⟨set_keep (z19 ((set_other (by decide)).symm.trans g0)).1, set_keep (z19 ((set_other (by decide)).symm.trans g0)).2⟩, fun g0 => ⟨set_keep (z20 ((set_other (by decide)).symm.trans g0)).1, set_keep (z20 ((set_other (by decide)).symm.trans g0)).2⟩, fun g0 => ⟨set_keep (z21 ((set_other (by decide)).symm.trans g0)).1, set_keep (z21 ((set_other (by decide)).symm.trans g0)).2⟩, fun g0 => ⟨set_keep (z22 ((set_other (by decide)).symm.trans g0)).1, set_keep (z22 ((set_other (by decide)).symm.trans g0)).2⟩⟩⟩
        · as_aux_lemma =>
          obtain rfl := Option.some.inj ho
          have e0 := z8 (dep (by simp [Region.binds] at hdeps ⊢; simp [hdeps]))
          subst e0
          have CC := Lib.hid (KS2.out wz hbel)
          have Z := hinv
          clear hinv ho hbel hN hdeps z0 z1 z2 z3 z4 z5 z6 z7 z8 z9 z10 z11 z12 z13 z14 z15 z16 z17 z18 z19 z20 z21 z22
          go_simp
          refine CC.out.mono ?_
          rintro e wq ⟨a, n, c, rfl, how, hb'⟩
          obtain ⟨hN, hbel, z0, z1, z2, z3, z4, z5, z6, z7, z8, z9, z10, z11, z12, z13, z14, z15, z16, z17, z18, z19, z20, z21, z22⟩ := Z.out
          exact hK _ _ ⟨_, _, _, _, _, _, _, _, _, _, _, _, _, _, _, _, rfl, Lib.hid ⟨by simpa using hN, hbel.trans (hb'.mono hbel.size), fun g0 => (z0 ((set_other (by decide)).symm.trans g0)), fun g0 => (z1 ((set_other (by decide)).symm.trans g0)), fun g0 => (z2 ((set_other (by decide)).symm.trans g0)).below hb', fun g0 => (z3 ((set_other (by decide)).symm.trans g0)), fun g0 => (z4 ((set_other (by decide)).symm.trans g0)), fun g0 => (z5 ((set_other (by decide)).symm.trans g0)).below hb', fun g0 => (z6 ((set_other (by decide)).symm.trans g0)).below hb', fun g0 => (z7 ((set_other (by decide)).symm.trans g0)), fun g0 => (z8 ((set_other (by decide)).symm.trans g0)), fun _ => ⟨a, n, c, rfl, how.base hbel.size⟩, fun g0 => (z10 ((set_other (by decide)).symm.trans g0)), fun g0 => (z11 ((set_other (by decide)).symm.trans g0)), fun g0 => (z12 ((set_other (by decide)).symm.trans g0)).below hb', fun g0 => not_done hL (z20 (((set_other (by decide)).symm.trans g0))).1, fun g0 => (z14 ((set_other (by decide)).symm.trans g0)).below hb', fun g0 => (z15 ((set_other (by decide)).symm.trans g0)).below hb', fun g0 g1 => (z16 ((set_other (by decide)).symm.trans g0) ((set_other (by decide)).symm.trans g1)), fun g0 => (z17 ((set_other (by decide)).symm.trans g0)).below hb', fun g0 => (z18 ((set_other (by decide)).symm.trans g0)).below hb', fun g0 => ⟨set_keep (z19 ((set_other (by decide)).symm.trans g0)).1, set_keep (z19 ((set_other (by decide)).symm.trans g0)).2⟩, fun g0 => not_done hL (z20 (((set_other (by decide)).symm.trans g0))).1, fun g0 => ⟨set_keep (z21 ((set_other (by decide)).symm.trans g0)).1, set_keep (z21 ((set_other (by decide)).symm.trans g0)).2⟩, fun g0 => ⟨set_keep (z22 ((set_other (by decide)).symm.trans g0)).1, set_keep (z22 ((set_other (by decide)).symm.trans g0)).2⟩⟩⟩
        · as_aux_lemma =>
          obtain rfl := Option.some.inj ho
          have Z := hinv
          clear hinv ho hbel hN hdeps z0 z1 z2 z3 z4 z5 z6 z7 z8 z9 z10 z11 z12 z13 z14 z15 z16 z17 z18 z19 z20 z21 z22
          go_simp
          obtain ⟨hN, hbel, z0, z1, z2, z3, z4, z5, z6, z7, z8, z9, z10, z11, z12, z13, z14, z15, z16, z17, z18, z19, z20, z21, z22⟩ := Z.out
          exact hK _ _ ⟨_, _, _, _, _, _, _, _, _, _, _, _, _, _, _, _, rfl, Lib.hid ⟨by simpa using hN, hbel, fun g0 => (z0 ((set_other (by decide)).symm.trans g0)), fun g0 => (z1 ((set_other (by decide)).symm.trans g0)), fun g0 => (z2 ((set_other (by decide)).symm.trans g0)), fun g0 => (z3 ((set_other (by decide)).symm.trans g0)), fun g0 => (z4 ((set_other (by decide)).symm.trans g0)), fun g0 => (z5 ((set_other (by decide)).symm.trans g0)), fun g0 => (z6 ((set_other (by decide)).symm.trans g0)), fun g0 => (z7 ((set_other (by decide)).symm.trans g0)), fun g0 => (z8 ((set_other (by decide)).symm.trans g0)), fun g0 => (z9 ((set_other (by decide)).symm.trans g0)), fun _ => rfl, fun g0 => (z11 ((set_other (by decide)).symm.trans g0)), fun g0 => (z12 ((set_other (by decide)).symm.trans g0)), fun g0 => (z13 ((set_other (by decide)).symm.trans g0)), fun g0 => (z14 ((set_other (by decide)).symm.trans g0)), fun g0 => (z15 ((set_other (by decide)).symm.trans g0)), fun g0 g1 => (z16 ((set_other (by decide)).symm.trans g0) ((set_other (by decide)).symm.trans g1)), fun g0 => (z17 ((set_other (by decide)).symm.trans g0)), fun g0 => (z18 ((set_other (by decide)).symm.trans g0)), fun g0 => ⟨set_keep (z19 ((set_other (by decide)).symm.trans g0)).1, set_keep (z19 ((set_other (by decide)).symm.trans g0)).2⟩, fun g0 => ⟨set_keep (z20 ((set_other (by decide)).symm.trans g0)).1, set_keep (z20 ((set_other (by decide)).symm.trans g0)).2⟩, fun g0 => ⟨set_keep (z21 ((set_other (by decide)).symm.trans g0)).1, set_keep (z21 ((set_other (by decide)).symm.trans g0)).2⟩, fun g0 => ⟨set_keep (z22 ((set_other (by decide)).symm.trans g0)).1, set_keep (z22 ((set_other (by decide)).symm.trans g0)).2⟩⟩⟩
        · as_aux_lemma =>
          obtain rfl := Option.some.inj ho
          have e0 := z10 (dep (by simp [Region.binds] at hdeps ⊢; simp [hdeps]))
          subst e0
          obtain ⟨_, _, _, _, _, _, _, b0, b1, _, _, _, _, _, _, _, _, _, _, _, _, _, _, _, _, _, _, _, _, _, _, _, _, _⟩ := HS.out wz hbel
          have Z := hinv
          clear hinv ho hbel hN hdeps z0 z1 z2 z3 z4 z5 z6 z7 z8 z9 z10 z11 z12 z13 z14 z15 z16 z17 z18 z19 z20 z21 z22
          go_simp
          obtain ⟨hN, hbel, z0, z1, z2, z3, z4, z5, z6, z7, z8, z9, z10, z11, z12, z13, z14, z15, z16, z17, z18, z19, z20, z21, z22⟩ := Z.out
          exact hK _ _ ⟨_, _, _, _, _, _, _, _, _, _, _, _, _, _, _, _, rfl, Lib.hid ⟨by simpa using hN, hbel, fun g0 => (z0 ((set_other (by decide)).symm.trans g0)), fun g0 => (z1 ((set_other (by decide)).symm.trans g0)), fun g0 => (z2 ((set_other (by decide)).symm.trans g0)), fun g0 => (z3 ((set_other (by decide)).symm.trans g0)), fun g0 => (z4 ((set_other (by decide)).symm.trans g0)), fun g0 => (z5 ((set_other (by decide)).symm.trans g0)), fun g0 => (z6 ((set_other (by decide)).symm.trans g0)), fun g0 => (z7 ((set_other (by decide)).symm.trans g0)), fun g0 => (z8 ((set_other (by decide)).symm.trans g0)), fun g0 => (z9 ((set_other (by decide)).symm.trans g0)), fun g0 => (z10 ((set_other (by decide)).symm.trans g0)), fun _ => rfl, fun g0 => (z12 ((set_other (by decide)).symm.trans g0)), fun g0 => (z13 ((set_other (by decide)).symm.trans g0)), fun g0 => (z14 ((set_other (by decide)).symm.trans g0)), fun g0 => (z15 ((set_other (by decide)).symm.trans g0)), fun g0 g1 => (z16 ((set_other (by decide)).symm.trans g0) ((set_other (by decide)).symm.trans g1)), fun g0 => (z17 ((set_other (by decide)).symm.trans g0)), fun g0 => (z18 ((set_other (by decide)).symm.trans g0)), fun g0 => ⟨set_keep (z19 ((set_other (by decide)).symm.trans g0)).1, set_keep (z19 ((set_other (by decide)).symm.trans g0)).2⟩, fun g0 => ⟨set_keep (z20 ((set_other (by decide)).symm.trans g0)).1, set_keep (z20 ((set_other (by decide)).symm.trans g0)).2⟩, fun g0 => ⟨set_keep (z21 ((set_other (by decide)).symm.trans g0)).1, set_keep (z21 ((set_other (by decide)).symm.trans g0)).2⟩, fun g0 => ⟨set_keep (z22 ((set_other (by decide)).symm.trans g0)).1, set_keep (z22 ((set_other (by decide)).symm.trans g0)).2⟩⟩⟩
        · as_aux_lemma =>
          obtain rfl := Option.some.inj ho
          have e0 := z11 (dep (by simp [Region.binds] at hdeps ⊢; simp [hdeps]))
          subst e0
          have CC := Lib.hid (KS3.out wz hbel)
          have Z := hinv
          clear hinv ho hbel hN hdeps z0 z1 z2 z3 z4 z5 z6 z7 z8 z9 z10 z11 z12 z13 z14 z15 z16 z17 z18 z19 z20 z21 z22
          go_simp
          refine CC.out.mono ?_
          rintro e wq ⟨a, n, c, rfl, how, hb'⟩
          obtain ⟨hN, hbel, z0, z1, z2, z3, z4, z5, z6, z7, z8, z9, z10, z11, z12, z13, z14, z15, z16, z17, z18, z19, z20, z21, z22⟩ := Z.out
          exact hK _ _ ⟨_, _, _, _, _, _, _, _, _, _, _, _, _, _, _, _, rfl, Lib.hid ⟨by simpa using hN, hbel.trans (hb'.mono hbel.size), fun g0 => (z0 ((set_other (by decide)).symm.trans g0)), fun g0 => (z1 ((set_other (by decide)).symm.trans g0)), fun g0 => (z2 ((set_other (by decide)).symm.trans g0)).below hb', fun g0 => (z3 ((set_other (by decide)).symm.trans g0)), fun g0 => (z4 ((set_other (by decide)).symm.trans g0)), fun g0 => (z5 ((set_other (by decide)).symm.trans g0)).below hb', fun g0 => (z6 ((set_other (by decide)).symm.trans g0)).below hb', fun g0 => (z7 ((set_other (by decide)).symm.trans g0)), fun g0 => (z8 ((set_other (by decide)).symm.trans g0)), fun g0 => (z9 ((set_other (by decide)).symm.trans g0)).below hb', fun g0 => (z10 ((set_other (by decide)).symm.trans g0)), fun g0 => (z11 ((set_other (by decide)).symm.trans g0)), fun _ => ⟨a, n, c, rfl, how.base hbel.size⟩, fun g0 => not_done hL (z20 (((set_other (by decide)).symm.trans g0))).2, fun g0 => (z14 ((set_other (by decide)).symm.trans g0)).below hb', fun g0 => (z15 ((set_other (by decide)).symm.trans g0)).below hb', fun g0 g1 => (z16 ((set_other (by decide)).symm.trans g0) ((set_other (by decide)).symm.trans g1)), fun g0 => (z17 ((set_other (by decide)).symm.trans g0)).below hb', fun g0 => (z18 ((set_other (by decide)).symm.trans g0)).below hb', fun g0 => ⟨set_keep (z19 ((set_other (by decide)).symm.trans g0)).1, set_keep (z19 ((set_other (by decide)).symm.trans g0)).2⟩, fun g0 => not_done hL (z20 (((set_other (by decide)).symm.trans g0))).2, fun g0 => ⟨set_keep (z21 ((set_other (by decide)).symm.trans g0)).1, set_keep (z21 ((set_other (by decide)).symm.trans g0)).2⟩, fun g0 => ⟨set_keep (z22 ((set_other (by decide)).symm.trans g0)).1, set_keep (z22 ((set_other (by decide)).symm.trans g0)).2⟩⟩⟩
        · as_aux_lemma =>
          obtain rfl := Option.some.inj ho
          have hd1 : L[9]? = some true := (dep (by simp [Region.binds] at hdeps ⊢; simp [hdeps]))
          have hd2 : L[12]? = some true := (dep (by simp [Region.binds] at hdeps ⊢; simp [hdeps]))
          obtain ⟨a, n, c, e1, hl1⟩ := z9 hd1
          obtain ⟨b, m, d, e2, hl2⟩ := z12 hd2
          subst e1 e2
          have HL1 := Lib.hid hl1
          have HL2 := Lib.hid hl2
          clear hl1 hl2
          have Z := hinv
          clear hinv ho hbel hN hdeps z0 z1 z2 z3 z4 z5 z6 z7 z8 z9 z10 z11 z12 z13 z14 z15 z16 z17 z18 z19 z20 z21 z22
          go_simp
          obtain ⟨hN, hbel, z0, z1, z2, z3, z4, z5, z6, z7, z8, z9, z10, z11, z12, z13, z14, z15, z16, z17, z18, z19, z20, z21, z22⟩ := Z.out
          exact hK _ _ ⟨_, _, _, _, _, _, _, _, _, _, _, _, _, _, _, _, rfl, Lib.hid ⟨by simpa using hN, hbel, fun g0 => (z0 ((set_other (by decide)).symm.trans g0)), fun g0 => (z1 ((set_other (by decide)).symm.trans g0)), fun g0 => (z2 ((set_other (by decide)).symm.trans g0)), fun g0 => (z3 ((set_other (by decide)).symm.trans g0)), fun g0 => (z4 ((set_other (by decide)).symm.trans g0)), fun g0 => (z5 ((set_other (by decide)).symm.trans g0)), fun g0 => (z6 ((set_other (by decide)).symm.trans g0)), fun g0 => (z7 ((set_other (by decide)).symm.trans g0)), fun g0 => (z8 ((set_other (by decide)).symm.trans g0)), fun g0 => (z9 ((set_other (by decide)).symm.trans g0)), fun g0 => (z10 ((set_other (by decide)).symm.trans g0)), fun g0 => (z11 ((set_other (by decide)).symm.trans g0)), fun g0 => (z12 ((set_other (by decide)).symm.trans g0)), fun _ => ⟨a, n, c, b, m, d, rfl, HL1.out, HL2.out⟩, fun g0 => (z14 ((set_other (by decide)).symm.trans g0)), fun g0 => (z15 ((set_other (by decide)).symm.trans g0)), fun g0 g1 => (z16 ((set_other (by decide)).symm.trans g0) ((set_other (by decide)).symm.trans g1)), fun g0 => (z17 ((set_other (by decide)).symm.trans g0)), fun g0 => not_done hL (z22 (((set_other (by decide)).symm.trans g0))).2, fun g0 => ⟨set_keep (z19 ((set_other (by decide)).symm.trans g0)).1, set_keep (z19 ((set_other (by decide)).symm.trans g0)).2⟩, fun _ => ⟨set_keep hd1, set_keep hd2⟩, fun g0 => ⟨set_keep (z21 ((set_other (by decide)).symm.trans g0)).1, set_keep (z21 ((set_other (by decide)).symm.trans g0)).2⟩, fun g0 => not_done hL (z22 (((set_other (by decide)).symm.trans g0))).2⟩⟩
        · as_aux_lemma =>
          obtain rfl := Option.some.inj ho
          have Z := hinv
          clear hinv ho hbel hN hdeps z0 z1 z2 z3 z4 z5 z6 z7 z8 z9 z10 z11 z12 z13 z14 z15 z16 z17 z18 z19 z20 z21 z22
          go_simp
          obtain ⟨hN, hbel, z0, z1, z2, z3, z4, z5, z6, z7, z8, z9, z10, z11, z12, z13, z14, z15, z16, z17, z18, z19, z20, z21, z22⟩ := Z.out
          have hb' := below_alloc1 wz (Obj.cells #[.int .i64 0, .slice none 0 0, .int .i64 0, .slice none 0 0] 32)
          exact hK _ _ ⟨_, _, _, _, _, _, _, _, _, _, _, _, _, _, _, _, rfl, Lib.hid ⟨by simpa using hN, hbel.trans (hb'.mono hbel.size), fun g0 => (z0 ((set_other (by decide)).symm.trans g0)), fun g0 => (z1 ((set_other (by decide)).symm.trans g0)), fun g0 => (z2 ((set_other (by decide)).symm.trans g0)).below hb', fun g0 => (z3 ((set_other (by decide)).symm.trans g0)), fun g0 => (z4 ((set_other (by decide)).symm.trans g0)), fun g0 => (z5 ((set_other (by decide)).symm.trans g0)).below hb', fun g0 => (z6 ((set_other (by decide)).symm.trans g0)).below hb', fun g0 => (z7 ((set_other (by decide)).symm.trans g0)), fun g0 => (z8 ((set_other (by decide)).symm.trans g0)), fun g0 => (z9 ((set_other (by decide)).symm.trans g0)).below hb', fun g0 => (z10 ((set_other (by decide)).symm.trans g0)), fun g0 => (z11 ((set_other (by decide)).symm.trans g0)), fun g0 => (z12 ((set_other (by decide)).symm.trans g0)).below hb', fun g0 => (z13 ((set_other (by decide)).symm.trans g0)).below hb', fun _ => N4.new _ _ _ _ _ _ hbel.size, fun g0 => (z15 ((set_other (by decide)).symm.trans g0)).below hb', fun g0 g1 => ((z15 ((set_other (by decide)).symm.trans g1)).lt).symm, fun g0 => not_done hL (z21 (((set_other (by decide)).symm.trans g0))).1, fun g0 => (z18 ((set_other (by decide)).symm.trans g0)).below hb', fun g0 => ⟨set_keep (z19 ((set_other (by decide)).symm.trans g0)).1, set_keep (z19 ((set_other (by decide)).symm.trans g0)).2⟩, fun g0 => ⟨set_keep (z20 ((set_other (by decide)).symm.trans g0)).1, set_keep (z20 ((set_other (by decide)).symm.trans g0)).2⟩, fun g0 => not_done hL (z21 (((set_other (by decide)).symm.trans g0))).1, fun g0 => ⟨set_keep (z22 ((set_other (by decide)).symm.trans g0)).1, set_keep (z22 ((set_other (by decide)).symm.trans g0)).2⟩⟩⟩
        · as_aux_lemma =>
          obtain rfl := Option.some.inj ho
          have Z := hinv
          clear hinv ho hbel hN hdeps z0 z1 z2 z3 z4 z5 z6 z7 z8 z9 z10 z11 z12 z13 z14 z15 z16 z17 z18 z19 z20 z21 z22
          go_simp
          obtain ⟨hN, hbel, z0, z1, z2, z3, z4, z5, z6, z7, z8, z9, z10, z11, z12, z13, z14, z15, z16, z17, z18, z19, z20, z21, z22⟩ := Z.out
          have hb' := below_alloc1 wz (Obj.cells #[.int .i64 0, .slice none 0 0, .int .i64 0, .slice none 0 0] 33)
          exact hK _ _ ⟨_, _, _, _, _, _, _, _, _, _, _, _, _, _, _, _, rfl, Lib.hid ⟨by simpa using hN, hbel.trans (hb'.mono hbel.size), fun g0 => (z0 ((set_other (by decide)).symm.trans g0)), fun g0 => (z1 ((set_other (by decide)).symm.trans g0)), fun g0 => (z2 ((set_other (by decide)).symm.trans g0)).below hb', fun g0 => (z3 ((set_other (by decide)).symm.trans g0)), fun g0 => (z4 ((set_other (by decide)).symm.trans g0)), fun g0 => (z5 ((set_other (by decide)).symm.trans g0)).below hb', fun g0 => (z6 ((set_other (by decide)).symm.trans g0)).below hb', fun g0 => (z7 ((set_other (by decide)).symm.trans g0)), fun g0 => (z8 ((set_other (by decide)).symm.trans g0)), fun g0 => (z9 ((set_other (by decide)).symm.trans g0)).below hb', fun g0 => (z10 ((set_other (by decide)).symm.trans g0)), fun g0 => (z11 ((set_other (by decide)).symm.trans g0)), fun g0 => (z12 ((set_other (by decide)).symm.trans g0)).below hb', fun g0 => (z13 ((set_other (by decide)).symm.trans g0)).below hb', fun g0 => (z14 ((set_other (by decide)).symm.trans g0)).below hb', fun _ => N4.new _ _ _ _ _ _ hbel.size, fun g0 g1 => (z14 ((set_other (by decide)).symm.trans g0)).lt, fun g0 => (z17 ((set_other (by decide)).symm.trans g0)).below hb', fun g0 => not_done hL (z22 (((set_other (by decide)).symm.trans g0))).1, fun g0 => ⟨set_keep (z19 ((set_other (by decide)).symm.trans g0)).1, set_keep (z19 ((set_other (by decide)).symm.trans g0)).2⟩, fun g0 => ⟨set_keep (z20 ((set_other (by decide)).symm.trans g0)).1, set_keep (z20 ((set_other (by decide)).symm.trans g0)).2⟩, fun g0 => ⟨set_keep (z21 ((set_other (by decide)).symm.trans g0)).1, set_keep (z21 ((set_other (by decide)).symm.trans g0)).2⟩, fun g0 => not_done hL (z22 (((set_other (by decide)).symm.trans g0))).1⟩⟩
        · as_aux_lemma =>
          obtain rfl := Option.some.inj ho
          have hds : L[14]? = some true ∧ L[15]? = some true ∧ L[6]? = some true := by
            simp [Region.binds] at hdeps
            refine ⟨?_, ?_, ?_⟩ <;> (refine dep ?_; simp [hdeps])
          obtain ⟨d14, d15, d6⟩ := hds
          obtain ⟨A0, hA1, hA2, x0, u0, v0, t0, hA3⟩ := z14 d14
          obtain ⟨a, n, c, b, m, d, hc1, hc2, hc3⟩ := z6 d6
          subst hA1 hc1
          obtain ⟨⟨s0, s1, s2, s3⟩, ⟨s5, s6, s7, s8⟩, s4⟩ := old4 wz A0 32 _ _ _ _ (.int .i64 D2) (.slice a n c) (.int .i64 D3) (.slice b m d) hA3
          clear hc3
          have S4 := Lib.hid s4
          have HA3 := Lib.hid hA3
          have HA2 := Lib.hid hA2
          clear s4 hA2 hA3 hc2
          have Z := hinv
          clear hinv ho hbel hN hdeps z0 z1 z2 z3 z4 z5 z6 z7 z8 z9 z10 z11 z12 z13 z14 z15 z16 z17 z18 z19 z20 z21 z22
          go_simp
          clear s0 s1 s2 s3 s5 s6 s7 s8
          obtain ⟨hN, hbel, z0, z1, z2, z3, z4, z5, z6, z7, z8, z9, z10, z11, z12, z13, z14, z15, z16, z17, z18, z19, z20, z21, z22⟩ := Z.out
          have hbut := but_set4 wz A0 (.int .i64 D2) (.slice a n c) (.int .i64 D3) (.slice b m d)
          exact hK _ _ ⟨_, _, _, _, _, _, _, _, _, _, _, _, _, _, _, _, rfl, Lib.hid ⟨by simpa using hN, below_set4 hbel HA2.out (.int .i64 D2) (.slice a n c) (.int .i64 D3) (.slice b m d), fun g0 => (z0 ((set_other (by decide)).symm.trans g0)), fun g0 => (z1 ((set_other (by decide)).symm.trans g0)), fun g0 => (z2 ((set_other (by decide)).symm.trans g0)).set4 HA3.out (by decide) (.int .i64 D2) (.slice a n c) (.int .i64 D3) (.slice b m d), fun g0 => (z3 ((set_other (by decide)).symm.trans g0)), fun g0 => (z4 ((set_other (by decide)).symm.trans g0)), fun g0 => (z5 ((set_other (by decide)).symm.trans g0)).set4 HA3.out (by decide) (.int .i64 D2) (.slice a n c) (.int .i64 D3) (.slice b m d), fun g0 => (z6 ((set_other (by decide)).symm.trans g0)).set4 HA3.out (by decide) (.int .i64 D2) (.slice a n c) (.int .i64 D3) (.slice b m d), fun g0 => (z7 ((set_other (by decide)).symm.trans g0)), fun g0 => (z8 ((set_other (by decide)).symm.trans g0)), fun g0 => (z9 ((set_other (by decide)).symm.trans g0)).set4 HA3.out (by decide) (.int .i64 D2) (.slice a n c) (.int .i64 D3) (.slice b m d), fun g0 => (z10 ((set_other (by decide)).symm.trans g0)), fun g0 => (z11 ((set_other (by decide)).symm.trans g0)), fun g0 => (z12 ((set_other (by decide)).symm.trans g0)).set4 HA3.out (by decide) (.int .i64 D2) (.slice a n c) (.int .i64 D3) (.slice b m d), fun g0 => (z13 ((set_other (by decide)).symm.trans g0)).set4 HA3.out (by decide) (.int .i64 D2) (.slice a n c) (.int .i64 D3) (.slice b m d), fun g0 => ⟨A0, rfl, HA2.out, _, _, _, _, S4.out⟩, fun g0 => (z15 ((set_other (by decide)).symm.trans g0)).but hbut ((z16 d14 d15)).symm, fun g0 g1 => (z16 ((set_other (by decide)).symm.trans g0) ((set_other (by decide)).symm.trans g1)), fun _ => ⟨A0, _, rfl, rfl, S4.out⟩, fun g0 => (z18 ((set_other (by decide)).symm.trans g0)).but hbut ((z16 d14 d15)).symm, fun g0 => ⟨set_keep (z19 ((set_other (by decide)).symm.trans g0)).1, set_keep (z19 ((set_other (by decide)).symm.trans g0)).2⟩, fun g0 => ⟨set_keep (z20 ((set_other (by decide)).symm.trans g0)).1, set_keep (z20 ((set_other (by decide)).symm.trans g0)).2⟩, fun _ => ⟨set_keep d14, set_keep d6⟩, fun g0 => ⟨set_keep (z22 ((set_other (by decide)).symm.trans g0)).1, set_keep (z22 ((set_other (by decide)).symm.trans g0)).2⟩⟩⟩
        · as_aux_lemma =>
          obtain rfl := Option.some.inj ho
          have hds : L[15]? = some true ∧ L[14]? = some true ∧ L[13]? = some true := by
            simp [Region.binds] at hdeps
            refine ⟨?_, ?_, ?_⟩ <;> (refine dep ?_; simp [hdeps])
          obtain ⟨d15, d14, d13⟩ := hds
          obtain ⟨A0, hA1, hA2, x0, u0, v0, t0, hA3⟩ := z15 d15
          obtain ⟨a, n, c, b, m, d, hc1, hc2, hc3⟩ := z13 d13
          subst hA1 hc1
          obtain ⟨⟨s0, s1, s2, s3⟩, ⟨s5, s6, s7, s8⟩, s4⟩ := old4 wz A0 33 _ _ _ _ (.int .i64 D2) (.slice a n c) (.int .i64 D3) (.slice b m d) hA3
          clear hc3
          have S4 := Lib.hid s4
          have HA3 := Lib.hid hA3
          have HA2 := Lib.hid hA2
          clear s4 hA2 hA3 hc2
          have Z := hinv
          clear hinv ho hbel hN hdeps z0 z1 z2 z3 z4 z5 z6 z7 z8 z9 z10 z11 z12 z13 z14 z15 z16 z17 z18 z19 z20 z21 z22
          go_simp
          clear s0 s1 s2 s3 s5 s6 s7 s8
          obtain ⟨hN, hbel, z0, z1, z2, z3, z4, z5, z6, z7, z8, z9, z10, z11, z12, z13, z14, z15, z16, z17, z18, z19, z20, z21, z22⟩ := Z.out
          have hbut := but_set4 wz A0 (.int .i64 D2) (.slice a n c) (.int .i64 D3) (.slice b m d)
          exact hK _ _ ⟨_, _, _, _, _, _, _, _, _, _, _, _, _, _, _, _, rfl, Lib.hid ⟨by simpa using hN, below_set4 hbel HA2.out (.int .i64 D2) (.slice a n c) (.int .i64 D3) (.slice b m d), fun g0 => (z0 ((set_other (by decide)).symm.trans g0)), fun g0 => (z1 ((set_other (by decide)).symm.trans g0)), fun g0 => (z2 ((set_other (by decide)).symm.trans g0)).set4 HA3.out (by decide) (.int .i64 D2) (.slice a n c) (.int .i64 D3) (.slice b m d), fun g0 => (z3 ((set_other (by decide)).symm.trans g0)), fun g0 => (z4 ((set_other (by decide)).symm.trans g0)), fun g0 => (z5 ((set_other (by decide)).symm.trans g0)).set4 HA3.out (by decide) (.int .i64 D2) (.slice a n c) (.int .i64 D3) (.slice b m d), fun g0 => (z6 ((set_other (by decide)).symm.trans g0)).set4 HA3.out (by decide) (.int .i64 D2) (.slice a n c) (.int .i64 D3) (.slice b m d), fun g0 => (z7 ((set_other (by decide)).symm.trans g0)), fun g0 => (z8 ((set_other (by decide)).symm.trans g0)), fun g0 => (z9 ((set_other (by decide)).symm.trans g0)).set4 HA3.out (by decide) (.int .i64 D2) (.slice a n c) (.int .i64 D3) (.slice b m d), fun g0 => (z10 ((set_other (by decide)).symm.trans g0)), fun g0 => (z11 ((set_other (by decide)).symm.trans g0)), fun g0 => (z12 ((set_other (by decide)).symm.trans g0)).set4 HA3.out (by decide) (.int .i64 D2) (.slice a n c) (.int .i64 D3) (.slice b m d), fun g0 => (z13 ((set_other (by decide)).symm.trans g0)).set4 HA3.out (by decide) (.int .i64 D2) (.slice a n c) (.int .i64 D3) (.slice b m d), fun g0 => (z14 ((set_other (by decide)).symm.trans g0)).but hbut (z16 d14 d15), fun g0 => ⟨A0, rfl, HA2.out, _, _, _, _, S4.out⟩, fun g0 g1 => (z16 ((set_other (by decide)).symm.trans g0) ((set_other (by decide)).symm.trans g1)), fun g0 => (z17 ((set_other (by decide)).symm.trans g0)).but hbut (z16 d14 d15), fun _ => ⟨A0, _, rfl, rfl, S4.out⟩, fun g0 => ⟨set_keep (z19 ((set_other (by decide)).symm.trans g0)).1, set_keep (z19 ((set_other (by decide)).symm.trans g0)).2⟩, fun g0 => ⟨set_keep (z20 ((set_other (by decide)).symm.trans g0)).1, set_keep (z20 ((set_other (by decide)).symm.trans g0)).2⟩, fun g0 => ⟨set_keep (z21 ((set_other (by decide)).symm.trans g0)).1, set_keep (z21 ((set_other (by decide)).symm.trans g0)).2⟩, fun _ => ⟨set_keep d15, set_keep d13⟩⟩⟩
      case fin2 =>
        intro L a wz hI hr
        obtain ⟨y9, y10, y34, y35, y36, y37, y38, y39, y40, y41, y42, y43, y44, y45, y46, y47, rfl, hinv⟩ := hI
        obtain ⟨hN, hbel, z0, z1, z2, z3, z4, z5, z6, z7, z8, z9, z10, z11, z12, z13, z14, z15, z16, z17, z18, z19, z20, z21, z22⟩ := hinv.out
        have f0 : L[0]? = some true := by
          cases hb : L[0]? with
          | none => have := (Array.getElem?_eq_none_iff.1 hb); omega
          | some b =>
            cases b with
            | true => rfl
            | false => exact (ready_nil hr hb (by rfl) (by simp [Region.binds])).elim
        have f1 : L[1]? = some true := by
          cases hb : L[1]? with
          | none => have := (Array.getElem?_eq_none_iff.1 hb); omega
          | some b =>
            cases b with
            | true => rfl
            | false => exact (ready_nil hr hb (by rfl) (by simp [Region.binds, f0])).elim
        have f2 : L[2]? = some true := by
          cases hb : L[2]? with
          | none => have := (Array.getElem?_eq_none_iff.1 hb); omega
          | some b =>
            cases b with
            | true => rfl
            | false => exact (ready_nil hr hb (by rfl) (by simp [Region.binds, f0, f1])).elim
        have f3 : L[3]? = some true := by
          cases hb : L[3]? with
          | none => have := (Array.getElem?_eq_none_iff.1 hb); omega
          | some b =>
            cases b with
            | true => rfl
            | false => exact (ready_nil hr hb (by rfl) (by simp [Region.binds, f0, f1, f2])).elim
        have f4 : L[4]? = some true := by
          cases hb : L[4]? with
          | none => have := (Array.getElem?_eq_none_iff.1 hb); omega
          | some b =>
            cases b with
            | true => rfl
            | false => exact (ready_nil hr hb (by rfl) (by simp [Region.binds, f0, f1, f2, f3])).elim
        have f5 : L[5]? = some true := by
          cases hb : L[5]? with
          | none => have := (Array.getElem?_eq_none_iff.1 hb); omega
          | some b =>
            cases b with
            | true => rfl
            | false => exact (ready_nil hr hb (by rfl) (by simp [Region.binds, f0, f1, f2, f3, f4])).elim
        have f6 : L[6]? = some true := by
          cases hb : L[6]? with
          | none => have := (Array.getElem?_eq_none_iff.1 hb); omega
          | some b =>
            cases b with
            | true => rfl
            | false => exact (ready_nil hr hb (by rfl) (by simp [Region.binds, f0, f1, f2, f3, f4, f5])).elim
        have f7 : L[7]? = some true := by
          cases hb : L[7]? with
          | none => have := (Array.getElem?_eq_none_iff.1 hb); omega
          | some b =>
            cases b with
            | true => rfl
            | false => exact (ready_nil hr hb (by rfl) (by simp [Region.binds, f0, f1, f2, f3, f4, f5, f6])).elim
        have f8 : L[8]? = some true := by
          cases hb : L[8]? with
          | none => have := (Array.getElem?_eq_none_iff.1 hb); omega
          | some b =>
            cases b with
            | true => rfl
            | false => exact (ready_nil hr hb (by rfl) (by simp [Region.binds, f0, f1, f2, f3, f4, f5, f6, f7])).elim
        have f9 : L[9]? = some true := by
          cases hb : L[9]? with
          | none => have := (Array.getElem?_eq_none_iff.1 hb); omega
          | some b =>
            cases b with
            | true => rfl
            | false => exact (ready_nil hr hb (by rfl) (by simp [Region.binds, f0, f1, f2, f3, f4, f5, f6, f7, f8])).elim
        have f10 : L[10]? = some true := by
          cases hb : L[10]? with
          | none => have := (Array.getElem?_eq_none_iff.1 hb); omega
          | some b =>
            cases b with
            | true => rfl
            | false => exact (ready_nil hr hb (by rfl) (by simp [Region.binds, f0, f1, f2, f3, f4, f5, f6, f7, f8, f9])).elim
        have f11 : L[11]? = some true := by
          cases hb : L[11]? with
          | none => have := (Array.getElem?_eq_none_iff.1 hb); omega
          | some b =>
            cases b with
            | true => rfl
            | false => exact (ready_nil hr hb (by rfl) (by simp [Region.binds, f0, f1, f2, f3, f4, f5, f6, f7, f8, f9, f10])).elim
        have f12 : L[12]? = some true := by
          cases hb : L[12]? with
          | none => have := (Array.getElem?_eq_none_iff.1 hb); omega
          | some b =>
            cases b with
            | true => rfl
            | false => exact (ready_nil hr hb (by rfl) (by simp [Region.binds, f0, f1, f2, f3, f4, f5, f6, f7, f8, f9, f10, f11])).elim
        have f13 : L[13]? = some true := by
          cases hb : L[13]? with
          | none => have := (Array.getElem?_eq_none_iff.1 hb); omega
          | some b =>
            cases b with
            | true => rfl
            | false => exact (ready_nil hr hb (by rfl) (by simp [Region.binds, f0, f1, f2, f3, f4, f5, f6, f7, f8, f9, f10, f11, f12])).elim
        have f14 : L[14]? = some true := by
          cases hb : L[14]? with
          | none => have := (Array.getElem?_eq_none_iff.1 hb); omega
          | some b =>
            cases b with
            | true => rfl
            | false => exact (ready_nil hr hb (by rfl) (by simp [Region.binds, f0, f1, f2, f3, f4, f5, f6, f7, f8, f9, f10, f11, f12, f13])).elim
        have f15 : L[15]? = some true := by
          cases hb : L[15]? with
          | none => have := (Array.getElem?_eq_none_iff.1 hb); omega
          | some b =>
            cases b with
            | true => rfl
            | false => exact (ready_nil hr hb (by rfl) (by simp [Region.binds, f0, f1, f2, f3, f4, f5, f6, f7, f8, f9, f10, f11, f12, f13, f14])).elim
        have f16 : L[16]? = some true := by
          cases hb : L[16]? with
          | none => have := (Array.getElem?_eq_none_iff.1 hb); omega
          | some b =>
            cases b with
            | true => rfl
            | false => exact (ready_nil hr hb (by rfl) (by simp [Region.binds, f0, f1, f2, f3, f4, f5, f6, f7, f8, f9, f10, f11, f12, f13, f14, f15])).elim
        have f17 : L[17]? = some true := by
          cases hb : L[17]? with
          | none => have := (Array.getElem?_eq_none_iff.1 hb); omega
          | some b =>
            cases b with
            | true => rfl
            | false => exact (ready_nil hr hb (by rfl) (by simp [Region.binds, f0, f1, f2, f3, f4, f5, f6, f7, f8, f9, f10, f11, f12, f13, f14, f15, f16])).elim
        obtain ⟨B0, cs, hp0, hy0, hh0⟩ := z17 f16
        obtain ⟨a0, n0, c0, b0, m0, d0, hz, hl0, hm0⟩ := z6 f6
        rw [hz] at hy0
        obtain rfl := (Value.agg.inj hy0).symm
        subst hp0
        obtain ⟨B1, cs, hp1, hy1, hh1⟩ := z18 f17
        obtain ⟨a1, n1, c1, b1, m1, d1, hz, hl1, hm1⟩ := z13 f13
        rw [hz] at hy1
        obtain rfl := (Value.agg.inj hy1).symm
        subst hp1
        have HF := Lib.hid (show VW wz B0 32 D2 a0 n0 c0 P2 D3 b0 m0 d0 P3 ∧ VW wz B1 33 D2 a1 n1 c1 P2 D3 b1 m1 d1 P3 ∧ Below X1.heap.size X1 wz from ⟨⟨hh0, hl0.la.mono (by omega), hm0.la.mono (by omega)⟩, ⟨hh1, hl1.la.mono (by omega), hm1.la.mono (by omega)⟩, hbel⟩)
        go_wp2_with fail
        go_meet
        exact ⟨_, _, _, _, _, _, _, _, _, _, _, _, _, _, rfl, rfl, HF⟩
    case rest =>
      obtain ⟨V9, a24, n24, c24, a25, n25, c25, V10, a26, n26, c26, a27, n27, c27, rfl, rfl, HF⟩ := hcut
      obtain ⟨X2, rfl⟩ : ∃ X, X = wc := ⟨_, rfl⟩
      obtain ⟨hv9, hv10, hX⟩ := HF.out
      have HX := Lib.hid hX
      have hB := (HS.out X2 hX).1
      have HS := Lib.hid (fun (wx : World) (hx : Below X2.heap.size X2 wx) => (by
          have hw : Below w.heap.size w wx := hB.trans (hx.mono hB.size)
          have hold := HS.out wx (HX.out.trans (hx.mono HX.out.size))
          have r0 := block_below hv9.1 hx
          have r1 := block_below hv10.1 hx
          exact ⟨hw, hold.2.1, hold.2.2.1, hold.2.2.2.1, hold.2.2.2.2.1, hold.2.2.2.2.2.1, hold.2.2.2.2.2.2.1, hold.2.2.2.2.2.2.2.1, hold.2.2.2.2.2.2.2.2.1, hold.2.2.2.2.2.2.2.2.2.1, hold.2.2.2.2.2.2.2.2.2.2.1, hold.2.2.2.2.2.2.2.2.2.2.2.1, hold.2.2.2.2.2.2.2.2.2.2.2.2.1, hold.2.2.2.2.2.2.2.2.2.2.2.2.2.1, hold.2.2.2.2.2.2.2.2.2.2.2.2.2.2.1, hold.2.2.2.2.2.2.2.2.2.2.2.2.2.2.2.1, hold.2.2.2.2.2.2.2.2.2.2.2.2.2.2.2.2.1, hold.2.2.2.2.2.2.2.2.2.2.2.2.2.2.2.2.2.1, hold.2.2.2.2.2.2.2.2.2.2.2.2.2.2.2.2.2.2.1, hold.2.2.2.2.2.2.2.2.2.2.2.2.2.2.2.2.2.2.2.1, hold.2.2.2.2.2.2.2.2.2.2.2.2.2.2.2.2.2.2.2.2.1, hold.2.2.2.2.2.2.2.2.2.2.2.2.2.2.2.2.2.2.2.2.2.1, hold.2.2.2.2.2.2.2.2.2.2.2.2.2.2.2.2.2.2.2.2.2.2.1, by rw [cell_of_row _ _ 0 _ 32 (0, 0) r0]; rfl, by rw [cell_of_row _ _ 1 _ 32 (0, 0) r0]; rfl, by rw [cell_of_row _ _ 2 _ 32 (0, 0) r0]; rfl, by rw [cell_of_row _ _ 3 _ 32 (0, 0) r0]; rfl, by rw [cell_of_row _ _ 0 _ 33 (0, 0) r1]; rfl, by rw [cell_of_row _ _ 1 _ 33 (0, 0) r1]; rfl, by rw [cell_of_row _ _ 2 _ 33 (0, 0) r1]; rfl, by rw [cell_of_row _ _ 3 _ 33 (0, 0) r1]; rfl, hold.2.2.2.2.2.2.2.2.2.2.2.2.2.2.2.2.2.2.2.2.2.2.2.1, hold.2.2.2.2.2.2.2.2.2.2.2.2.2.2.2.2.2.2.2.2.2.2.2.2.1, hold.2.2.2.2.2.2.2.2.2.2.2.2.2.2.2.2.2.2.2.2.2.2.2.2.2.1, hold.2.2.2.2.2.2.2.2.2.2.2.2.2.2.2.2.2.2.2.2.2.2.2.2.2.2.1, hold.2.2.2.2.2.2.2.2.2.2.2.2.2.2.2.2.2.2.2.2.2.2.2.2.2.2.2.1, hold.2.2.2.2.2.2.2.2.2.2.2.2.2.2.2.2.2.2.2.2.2.2.2.2.2.2.2.2.1, hold.2.2.2.2.2.2.2.2.2.2.2.2.2.2.2.2.2.2.2.2.2.2.2.2.2.2.2.2.2.1, hold.2.2.2.2.2.2.2.2.2.2.2.2.2.2.2.2.2.2.2.2.2.2.2.2.2.2.2.2.2.2.1, hold.2.2.2.2.2.2.2.2.2.2.2.2.2.2.2.2.2.2.2.2.2.2.2.2.2.2.2.2.2.2.2.1, hold.2.2.2.2.2.2.2.2.2.2.2.2.2.2.2.2.2.2.2.2.2.2.2.2.2.2.2.2.2.2.2.2.1, hold.2.2.2.2.2.2.2.2.2.2.2.2.2.2.2.2.2.2.2.2.2.2.2.2.2.2.2.2.2.2.2.2.2, hv9.2.1.below hx, hv9.2.2.below hx, hv10.2.1.below hx, hv10.2.2.below hx⟩ : Below w.heap.size w wx ∧ wx.cell? ⟨w.heap.size, 0, none⟩ = some (.int .i64 S0) ∧ wx.cell? ⟨w.heap.size, 1, none⟩ = some (.slice sa0 sn0 sc0) ∧ wx.cell? ⟨w.heap.size, 2, none⟩ = some (.int .i64 S1) ∧ wx.cell? ⟨w.heap.size, 3, none⟩ = some (.slice sa1 sn1 sc1) ∧ wx.cell? ⟨w.heap.size, 4, none⟩ = some (.int .i64 S2) ∧ wx.cell? ⟨w.heap.size, 5, none⟩ = some (.slice sa2 sn2 sc2) ∧ wx.cell? ⟨w.heap.size, 6, none⟩ = some (.int .i64 S3) ∧ wx.cell? ⟨w.heap.size, 7, none⟩ = some (.slice sa3 sn3 sc3) ∧ wx.cell? ⟨w.heap.size + 1, 0, none⟩ = some (.int .i64 S4) ∧ wx.cell? ⟨w.heap.size + 1, 1, none⟩ = some (.slice sa4 sn4 sc4) ∧ wx.cell? ⟨w.heap.size + 1, 2, none⟩ = some (.int .i64 S5) ∧ wx.cell? ⟨w.heap.size + 1, 3, none⟩ = some (.slice sa5 sn5 sc5) ∧ wx.cell? ⟨w.heap.size + 1, 4, none⟩ = some (.int .i64 S6) ∧ wx.cell? ⟨w.heap.size + 1, 5, none⟩ = some (.slice sa6 sn6 sc6) ∧ wx.cell? ⟨V7, 0, none⟩ = some (.int .i64 D0) ∧ wx.cell? ⟨V7, 1, none⟩ = some (.slice a20 n20 c20) ∧ wx.cell? ⟨V7, 2, none⟩ = some (.int .i64 D1) ∧ wx.cell? ⟨V7, 3, none⟩ = some (.slice a21 n21 c21) ∧ wx.cell? ⟨V8, 0, none⟩ = some (.int .i64 D0) ∧ wx.cell? ⟨V8, 1, none⟩ = some (.slice a22 n22 c22) ∧ wx.cell? ⟨V8, 2, none⟩ = some (.int .i64 D1) ∧ wx.cell? ⟨V8, 3, none⟩ = some (.slice a23 n23 c23) ∧ wx.cell? ⟨V9, 0, none⟩ = some (.int .i64 D2) ∧ wx.cell? ⟨V9, 1, none⟩ = some (.slice a24 n24 c24) ∧ wx.cell? ⟨V9, 2, none⟩ = some (.int .i64 D3) ∧ wx.cell? ⟨V9, 3, none⟩ = some (.slice a25 n25 c25) ∧ wx.cell? ⟨V10, 0, none⟩ = some (.int .i64 D2) ∧ wx.cell? ⟨V10, 1, none⟩ = some (.slice a26 n26 c26) ∧ wx.cell? ⟨V10, 2, none⟩ = some (.int .i64 D3) ∧ wx.cell? ⟨V10, 3, none⟩ = some (.slice a27 n27 c27) ∧ IntsL wx (.slice sa0 sn0 sc0) ls0 ∧ IntsL wx (.slice sa1 sn1 sc1) ls1 ∧ IntsL wx (.slice sa2 sn2 sc2) ls2 ∧ IntsL wx (.slice sa3 sn3 sc3) ls3 ∧ IntsL wx (.slice sa4 sn4 sc4) ls4 ∧ IntsL wx (.slice sa5 sn5 sc5) ls5 ∧ IntsL wx (.slice sa6 sn6 sc6) ls6 ∧ LA 12 wx D0 a20 n20 c20 P0 ∧ LA 12 wx D1 a21 n21 c21 P1 ∧ LA 12 wx D0 a22 n22 c22 P0 ∧ LA 12 wx D1 a23 n23 c23 P1 ∧ LA 12 wx D2 a24 n24 c24 P2 ∧ LA 12 wx D3 a25 n25 c25 P3 ∧ LA 12 wx D2 a26 n26 c26 P2 ∧ LA 12 wx D3 a27 n27 c27 P3))
      clear hv9 hv10 hX hB HF KS0 KS1 KS2 KS3 KS4 KS5 KS6
      clear HX
      go_upto_region 5 with fail
      have KS0 := Lib.hid (fun (W : World) (h : Below X2.heap.size X2 W) => (by obtain ⟨_, _, _, _, _, _, _, _, _, _, _, _, _, _, _, _, _, _, _, _, _, _, _, _, _, _, _, _, _, _, _, hi, _, _, _, _, _, _, _, _, _, _, _, _, _, _⟩ := HS.out W h; exact CS0.out W hi : Calls Try.prog 12 #[.agg #[.int .i64 S0, .slice sa0 sn0 sc0]] W (LM 12 W D0 P0)))
      have KS1 := Lib.hid (fun (W : World) (h : Below X2.heap.size X2 W) => (by obtain ⟨_, _, _, _, _, _, _, _, _, _, _, _, _, _, _, _, _, _, _, _, _, _, _, _, _, _, _, _, _, _, _, _, hi, _, _, _, _, _, _, _, _, _, _, _, _, _⟩ := HS.out W h; exact CS1.out W hi : Calls Try.prog 12 #[.agg #[.int .i64 S1, .slice sa1 sn1 sc1]] W (LM 12 W D1 P1)))
      have KS2 := Lib.hid (fun (W : World) (h : Below X2.heap.size X2 W) => (by obtain ⟨_, _, _, _, _, _, _, _, _, _, _, _, _, _, _, _, _, _, _, _, _, _, _, _, _, _, _, _, _, _, _, _, _, hi, _, _, _, _, _, _, _, _, _, _, _, _⟩ := HS.out W h; exact CS2.out W hi : Calls Try.prog 12 #[.agg #[.int .i64 S2, .slice sa2 sn2 sc2]] W (LM 12 W D2 P2)))
      have KS3 := Lib.hid (fun (W : World) (h : Below X2.heap.size X2 W) => (by obtain ⟨_, _, _, _, _, _, _, _, _, _, _, _, _, _, _, _, _, _, _, _, _, _, _, _, _, _, _, _, _, _, _, _, _, _, hi, _, _, _, _, _, _, _, _, _, _, _⟩ := HS.out W h; exact CS3.out W hi : Calls Try.prog 12 #[.agg #[.int .i64 S3, .slice sa3 sn3 sc3]] W (LM 12 W D3 P3)))
      have KS4 := Lib.hid (fun (W : World) (h : Below X2.heap.size X2 W) => (by obtain ⟨_, _, _, _, _, _, _, _, _, _, _, _, _, _, _, _, _, _, _, _, _, _, _, _, _, _, _, _, _, _, _, _, _, _, _, hi, _, _, _, _, _, _, _, _, _, _⟩ := HS.out W h; exact CS4.out W hi : Calls Try.prog 12 #[.agg #[.int .i64 S4, .slice sa4 sn4 sc4]] W (LM 12 W D4 P4)))
      have KS5 := Lib.hid (fun (W : World) (h : Below X2.heap.size X2 W) => (by obtain ⟨_, _, _, _, _, _, _, _, _, _, _, _, _, _, _, _, _, _, _, _, _, _, _, _, _, _, _, _, _, _, _, _, _, _, _, _, hi, _, _, _, _, _, _, _, _, _⟩ := HS.out W h; exact CS5.out W hi : Calls Try.prog 12 #[.agg #[.int .i64 S5, .slice sa5 sn5 sc5]] W (LM 12 W D5 P5)))
      have KS6 := Lib.hid (fun (W : World) (h : Below X2.heap.size X2 W) => (by obtain ⟨_, _, _, _, _, _, _, _, _, _, _, _, _, _, _, _, _, _, _, _, _, _, _, _, _, _, _, _, _, _, _, _, _, _, _, _, _, hi, _, _, _, _, _, _, _, _⟩ := HS.out W h; exact CS6.out W hi : Calls Try.prog 12 #[.agg #[.int .i64 S6, .slice sa6 sn6 sc6]] W (LM 12 W D6 P6)))
      go_cut [11, 12, 48, 49, 50, 51, 52, 53, 54, 55, 56, 57, 58, 59, 60, 61] (fun s11 s12 s48 s49 s50 s51 s52 s53 s54 s55 s56 s57 s58 s59 s60 s61 wx => ∃ V11 a28 n28 c28 a29 n29 c29 V12 a30 n30 c30 a31 n31 c31, s11 = .pointer (some ⟨V11, 0, none⟩) ∧ s12 = .pointer (some ⟨V12, 0, none⟩) ∧ Hid (VW wx V11 32 D4 a28 n28 c28 P4 D5 a29 n29 c29 P5 ∧ VW wx V12 33 D4 a30 n30 c30 P4 D5 a31 n31 c31 P5 ∧ Below X2.heap.size X2 wx))
      case first =>
        refine wp_region_any (by kernel_rfl) ?_
        refine wpAny_inv (I := fun L a wz => ∃ y11 y12 y48 y49 y50 y51 y52 y53 y54 y55 y56 y57 y58 y59 y60 y61 : Value, a = { tmps := #[.agg #[.int .i64 S0, .slice sa0 sn0 sc0, .int .i64 S1, .slice sa1 sn1 sc1, .int .i64 S2, .slice sa2 sn2 sc2, .int .i64 S3, .slice sa3 sn3 sc3], .agg #[.int .i64 S4, .slice sa4 sn4 sc4, .int .i64 S5, .slice sa5 sn5 sc5, .int .i64 S6, .slice sa6 sn6 sc6], .int .u32 x2, .pointer (some ⟨w.heap.size, 0, none⟩), .pointer (some ⟨w.heap.size + 1, 0, none⟩), undef, .bool false, .pointer (some ⟨V7, 0, none⟩), .pointer (some ⟨V8, 0, none⟩), .pointer (some ⟨V9, 0, none⟩), .pointer (some ⟨V10, 0, none⟩), y11, y12, undef, undef, undef, undef, undef, u18, u19, u20, u21, u22, u23, u24, u25, u26, u27, u28, u29, u30, u31, u32, u33, u34, u35, u36, u37, u38, u39, u40, u41, u42, u43, u44, u45, u46, u47, y48, y49, y50, y51, y52, y53, y54, y55, y56, y57, y58, y59, y60, y61, u62, u63, u64, u65, u66, u67, u68, u69, u70, u71, u72, u73, u74, u75, u76, u77, u78, u79, u80, u81, u82, u83, u84, u85, u86, u87, u88, u89, u90, u91, u92, u93, u94, u95, u96, u97, u98, u99, u100, u101, u102, u103, u104, u105, u106, u107, u108, u109, u110, u111, u112, u113, u114, u115, u116, u117, u118, u119, u120, u121, u122, u123, u124], defers := [] } ∧ Hid (L.size = 18 ∧ Below X2.heap.size X2 wz ∧ (L[0]? = some true → y48 = .pointer (some ⟨w.heap.size + 1, 0, none⟩)) ∧ (L[1]? = some true → y49 = .agg #[.int .i64 S4, .slice sa4 sn4 sc4]) ∧ (L[2]? = some true → CV X2 wz D4 P4 y50) ∧ (L[3]? = some true → y51 = .pointer (some ⟨w.heap.size + 1, 2, none⟩)) ∧ (L[4]? = some true → y52 = .agg #[.int .i64 S5, .slice sa5 sn5 sc5]) ∧ (L[5]? = some true → CV X2 wz D5 P5 y53) ∧ (L[6]? = some true → BV X2 wz D4 P4 D5 P5 y54) ∧ (L[7]? = some true → y55 = .pointer (some ⟨w.heap.size + 1, 0, none⟩)) ∧ (L[8]? = some true → y56 = .agg #[.int .i64 S4, .slice sa4 sn4 sc4]) ∧ (L[9]? = some true → CV X2 wz D4 P4 y57) ∧ (L[10]? = some true → y58 = .pointer (some ⟨w.heap.size + 1, 2, none⟩)) ∧ (L[11]? = some true → y59 = .agg #[.int .i64 S5, .slice sa5 sn5 sc5]) ∧ (L[12]? = some true → CV X2 wz D5 P5 y60) ∧ (L[13]? = some true → BV X2 wz D4 P4 D5 P5 y61) ∧ (L[14]? = some true → N4 X2 wz 32 y11) ∧ (L[15]? = some true → N4 X2 wz 33 y12) ∧ (L[14]? = some true → L[15]? = some true → y11 ≠ y12) ∧ (L[16]? = some true → HV wz 32 y11 y54) ∧ (L[17]? = some true → HV wz 33 y12 y61) ∧ (L[6]? = some true → (L[2]? = some true ∧ L[5]? = some true)) ∧ (L[13]? = some true → (L[9]? = some true ∧ L[12]? = some true)) ∧ (L[16]? = some true → (L[14]? = some true ∧ L[6]? = some true)) ∧ (L[17]? = some true → (L[15]? = some true ∧ L[13]? = some true)))) ?step3 ?fin3 _ _ _ _ ⟨_, _, _, _, _, _, _, _, _, _, _, _, _, _, _, _, rfl, Lib.hid ⟨by rfl, Below.drew (Below.refl _ _), gone (by rfl), gone (by rfl), gone (by rfl), gone (by rfl), gone (by rfl), gone (by rfl), gone (by rfl), gone (by rfl), gone (by rfl), gone (by rfl), gone (by rfl), gone (by rfl), gone (by rfl), gone (by rfl), gone (by rfl), gone (by rfl), gone (by rfl), gone (by rfl), gone (by rfl), gone (by rfl), gone (by rfl), gone (by rfl), gone (by rfl)⟩⟩ (by decide)
        case step3 =>
          intro L a wz i o hI ho hL hdeps K hK
          obtain ⟨y11, y12, y48, y49, y50, y51, y52, y53, y54, y55, y56, y57, y58, y59, y60, y61, rfl, hinv⟩ := hI
          have hi : i < 18 := by have := (Array.getElem?_eq_some_iff.1 ho).1; exact this
          obtain ⟨hN, hbel, z0, z1, z2, z3, z4, z5, z6, z7, z8, z9, z10, z11, z12, z13, z14, z15, z16, z17, z18, z19, z20, z21, z22⟩ := hinv.out
          obtain rfl | rfl | rfl | rfl | rfl | rfl | rfl | rfl | rfl | rfl | rfl | rfl | rfl | rfl | rfl | rfl | rfl | rfl : i = 0 ∨ i = 1 ∨ i = 2 ∨ i = 3 ∨ i = 4 ∨ i = 5 ∨ i = 6 ∨ i = 7 ∨ i = 8 ∨ i = 9 ∨ i = 10 ∨ i = 11 ∨ i = 12 ∨ i = 13 ∨ i = 14 ∨ i = 15 ∨ i = 16 ∨ i = 17 := by omega
          · as_aux_lemma =>
            obtain rfl := Option.some.inj ho
            have Z := hinv
            clear hinv ho hbel hN hdeps z0 z1 z2 z3 z4 z5 z6 z7 z8 z9 z10 z11 z12 z13 z14 z15 z16 z17 z18 z19 z20 z21 z22
            go_simp
            obtain ⟨hN, hbel, z0, z1, z2, z3, z4, z5, z6, z7, z8, z9, z10, z11, z12, z13, z14, z15, z16, z17, z18, z19, z20, z21, z22⟩ := Z.out
            exact hK _ _ ⟨_, _, _, _, _, _, _, _, _, _, _, _, _, _, _, _, rfl, Lib.hid ⟨by simpa using hN, hbel, fun _ => rfl, fun g0 => (z1 ((set_other (by decide)).symm.trans g0)), fun g0 => (z2 ((set_other (by decide)).symm.trans g0)), fun g0 => (z3 ((set_other (by decide)).symm.trans g0)), fun g0 => (z4 ((set_other (by decide)).symm.trans g0)), fun g0 => (z5 ((set_other (by decide)).symm.trans g0)), fun g0 => (z6 ((set_other (by decide)).symm.trans g0)), fun g0 => (z7 ((set_other (by decide)).symm.trans g0)), fun g0 => (z8 ((set_other (by decide)).symm.trans g0)), fun g0 => (z9 ((set_other (by decide)).symm.trans g0)), fun g0 => (z10 ((set_other (by decide)).symm.trans g0)), fun g0 => (z11 ((set_other (by decide)).symm.trans g0)), fun g0 => (z12 ((set_other (by decide)).symm.trans g0)), fun g0 => (z13 ((set_other (by decide)).symm.trans g0)), fun g0 => (z14 ((set_other (by decide)).symm.trans g0)), fun g0 => (z15 ((set_other (by decide)).symm.trans g0)), fun g0 g1 => (z16 ((set_other (by decide)).symm.trans g0) ((set_other (by decide)).symm.trans g1)), fun g0 => (z17 ((set_other (by decide)).symm.trans g0)), fun g0 => (z18 ((set_other (by decide)).symm.trans g0)), fun g0 => ⟨set_keep (z19 ((set_other (by decide)).symm.trans g0)).1, set_keep (z19 ((set_other (by decide)).symm.trans g0)).2⟩, fun g0 => ⟨set_keep (z20 ((set_other (by decide)).symm.trans g0)).1, set_keep (z20 ((set_other (by decide)).symm.trans g0)).2⟩, fun g0 => ⟨set_keep (z21 ((set_other (by decide)).symm.trans g0)).1, set_keep (z21 ((set_other (by decide)).symm.trans g0)).2⟩, fun g0 => ⟨set_keep (z22 ((set_other (by decide)).symm.trans g0)).1, set_keep (z22 ((set_other (by decide)).symm.trans g0)).2⟩⟩⟩
          · as_aux_lemma =>
            obtain rfl := Option.some.inj ho
            have e0 := z0 (dep (by simp [Region.binds] at hdeps ⊢; simp [hdeps]))
            subst e0
            obtain ⟨_, _, _, _, _, _, _, _, _, b0, b1, _, _, _, _, _, _, _, _, _, _, _, _, _, _, _, _, _, _, _, _, _, _, _, _, _, _, _, _, _, _, _, _, _, _, _⟩ := HS.out wz hbel
            have Z := hinv
            clear hinv ho hbel hN hdeps z0 z1 z2 z3 z4 z5 z6 z7 z8 z9 z10 z11 z12 z13 z14 z15 z16 z17 z18 z19 z20 z21 z22
            go_simp
            obtain ⟨hN, hbel, z0, z1, z2, z3, z4, z5, z6, z7, z8, z9, z10, z11, z12, z13, z14, z15, z16, z17, z18, z19, z20, z21, z22⟩ := Z.out
            exact hK _ _ ⟨_, _, _, _, _, _, _, _, _, _, _, _, _, _, _, _, rfl, Lib.hid ⟨by simpa using hN, hbel, fun g0 => (z0 ((set_other (by decide)).symm.trans g0)), fun _ => rfl, fun g0 => (z2 ((set_other (by decide)).symm.trans g0)), fun g0 => (z3 ((set_other (by decide)).symm.trans g0)), fun g0 => (z4 ((set_other (by decide)).symm.trans g0)), fun g0 => (z5 ((set_other (by decide)).symm.trans g0)), fun g0 => (z6 ((set_other (by decide)).symm.trans g0)), fun g0 => (z7 ((set_other (by decide)).symm.trans g0)), fun g0 => (z8 ((set_other (by decide)).symm.trans g0)), fun g0 => (z9 ((set_other (by decide)).symm.trans g0)), fun g0 => (z10 ((set_other (by decide)).symm.trans g0)), fun g0 => (z11 ((set_other (by decide)).symm.trans g0)), fun g0 => (z12 ((set_other (by decide)).symm.trans g0)), fun g0 => (z13 ((set_other (by decide)).symm.trans g0)), fun g0 => (z14 ((set_other (by decide)).symm.trans g0)), fun g0 => (z15 ((set_other (by decide)).symm.trans g0)), fun g0 g1 => (z16 ((set_other (by decide)).symm.trans g0) ((set_other (by decide)).symm.trans g1)), fun g0 => (z17 ((set_other (by decide)).symm.trans g0)), fun g0 => (z18 ((set_other (by decide)).symm.trans g0)), fun g0 => ⟨set_keep (z19 ((set_other (by decide)).symm.trans g0)).1, set_keep (z19 ((set_other (by decide)).symm.trans g0)).2⟩, fun g0 => ⟨set_keep (z20 ((set_other (by decide)).symm.trans g0)).1, set_keep (z20 ((set_other (by decide)).symm.trans g0)).2⟩, fun g0 => ⟨set_keep (z21 ((set_other (by decide)).symm.trans g0)).1, set_keep (z21 ((set_other (by decide)).symm.trans g0)).2⟩, fun g0 => ⟨set_keep (z22 ((set_other (by decide)).symm.trans g0)).1, set_keep (z22 ((set_other (by decide)).symm.trans g0)).2⟩⟩⟩
          · as_aux_lemma =>
            obtain rfl := Option.some.inj ho
            have e0 := z1 (dep (by simp [Region.binds] at hdeps ⊢; simp [hdeps]))
            subst e0
            have CC := Lib.hid (KS4.out wz hbel)
            have Z := hinv
            clear hinv ho hbel hN hdeps z0 z1 z2 z3 z4 z5 z6 z7 z8 z9 z10 z11 z12 z13 z14 z15 z16 z17 z18 z19 z20 z21 z22
            go_simp
            refine CC.out.mono ?_
            rintro e wq ⟨a, n, c, rfl, how, hb'⟩
            obtain ⟨hN, hbel, z0, z1, z2, z3, z4, z5, z6, z7, z8, z9, z10, z11, z12, z13, z14, z15, z16, z17, z18, z19, z20, z21, z22⟩ := Z.out
            exact hK _ _ ⟨_, _, _, _, _, _, _, _, _, _, _, _, _, _, _, _, rfl, Lib.hid ⟨by simpa using hN, hbel.trans (hb'.mono hbel.size), fun g0 => (z0 ((set_other (by decide)).symm.trans g0)), fun g0 => (z1 ((set_other (by decide)).symm.trans g0)), fun _ => ⟨a, n, c, rfl, how.base hbel.size⟩, fun g0 => (z3 ((set_other (by decide)).symm.trans g0)), fun g0 => (z4 ((set_other (by decide)).symm.trans g0)), fun g0 => (z5 ((set_other (by decide)).symm.trans g0)).below hb', fun g0 => not_done hL (z19 (((set_other (by decide)).symm.trans g0))).1, fun g0 => (z7 ((set_other (by decide)).symm.trans g0)), fun g0 => (z8 ((set_other (by decide)).symm.trans g0)), fun g0 => (z9 ((set_other (by decide)).symm.trans g0)).below hb', fun g0 => (z10 ((set_other (by decide)).symm.trans g0)), fun g0 => (z11 ((set_other (by decide)).symm.trans g0)), fun g0 => (z12 ((set_other (by decide)).symm.trans g0)).below hb', fun g0 => (z13 ((set_other (by decide)).symm.trans g0)).below hb', fun g0 => (z14 ((set_other (by decide)).symm.trans g0)).below hb', fun g0 => (z15 ((set_other (by decide)).symm.trans g0)).below hb', fun g0 g1 => (z16 ((set_other (by decide)).symm.trans g0) ((set_other (by decide)).symm.trans g1)), fun g0 => (z17 ((set_other (by decide)).symm.trans g0)).below hb', fun g0 => (z18 ((set_other (by decide)).symm.trans g0)).below hb', fun g0 => not_done hL (z19 (((set_other (by decide)).symm.trans g0))).1, fun g0 => ⟨set_keep (z20 ((set_other (by decide)).symm.trans g0)).1, set_keep (z20 ((set_other (by decide)).symm.trans g0)).2⟩, fun g0 => ⟨set_keep (z21 ((set_other (by decide)).symm.trans g0)).1, set_keep (z21 ((set_other (by decide)).symm.trans g0)).2⟩, fun g0 => ⟨set_keep (z22 ((set_other (by decide)).symm.trans g0)).1, set_keep (z22 ((set_other (by decide)).symm.trans g0)).2⟩⟩⟩
          · as_aux_lemma =>
            obtain rfl := Option.some.inj ho
            have Z := hinv
            clear hinv ho hbel hN hdeps z0 z1 z2 z3 z4 z5 z6 z7 z8 z9 z10 z11 z12 z13 z14 z15 z16 z17 z18 z19 z20 z21 z22
            go_simp
            obtain ⟨hN, hbel, z0, z1, z2, z3, z4, z5, z6, z7, z8, z9, z10, z11, z12, z13, z14, z15, z16, z17, z18, z19, z20, z21, z22⟩ := Z.out
            exact hK _ _ ⟨_, _, _, _, _, _, _, _, _, _, _, _, _, _, _, _, rfl, Lib.hid ⟨by simpa using hN, hbel, fun g0 => (z0 ((set_other (by decide)).symm.trans g0)), fun g0 => (z1 ((set_other (by decide)).symm.trans g0)), fun g0 => (z2 ((set_other (by decide)).symm.trans g0)), fun _ => rfl, fun g0 => (z4 ((set_other (by decide)).symm.trans g0)), fun g0 => (z5 ((set_other (by decide)).symm.trans g0)), fun g0 => (z6 ((set_other (by decide)).symm.trans g0)), fun g0 => (z7 ((set_other (by decide)).symm.trans g0)), fun g0 => (z8 ((set_other (by decide)).symm.trans g0)), fun g0 => (z9 ((set_other (by decide)).symm.trans g0)), fun g0 => (z10 ((set_other (by decide)).symm.trans g0)), fun g0 => (z11 ((set_other (by decide)).symm.trans g0)), fun g0 => (z12 ((set_other (by decide)).symm.trans g0)), fun g0 => (z13 ((set_other (by decide)).symm.trans g0)), fun g0 => (z14 ((set_other (by decide)).symm.trans g0)), fun g0 => (z15 ((set_other (by decide)).symm.trans g0)), fun g0 g1 => (z16 ((set_other (by decide)).symm.trans g0) ((set_other (by decide)).symm.trans g1)), fun g0 => (z17 ((set_other (by decide)).symm.trans g0)), fun g0 => (z18 ((set_other (by decide)).symm.trans g0)), fun g0 => ⟨set_keep (z19 ((set_other (by decide)).symm.trans g0)).1, set_keep (z19 ((set_other (by decide)).symm.trans g0)).2⟩, fun g0 => ⟨set_keep (z20 ((set_other (by decide)).symm.trans g0)).1, set_keep (z20 ((set_other (by decide)).symm.trans g0)).2⟩, fun g0 => ⟨set_keep (z21 ((set_other (by decide)).symm.trans g0)).1, set_keep (z21 ((set_other (by decide)).symm.trans g0)).2⟩, fun g0 => ⟨set_keep (z22 ((set_other (by decide)).symm.trans g0)).1, set_keep (z22 ((set_other (by decide)).symm.trans g0)).2⟩⟩⟩
          · as_aux_lemma =>
            obtain rfl := Option.some.inj ho
            have e0 := z3 (dep (by simp [Region.binds] at hdeps ⊢; simp [hdeps]))
            subst e0
            obtain ⟨_, _, _, _, _, _, _, _, _, _, _, b0, b1, _, _, _, _, _, _, _, _, _, _, _, _, _, _, _, _, _, _, _, _, _, _, _, _, _, _, _, _, _, _, _, _, _⟩ := HS.out wz hbel
            have Z := hinv
            clear hinv ho hbel hN hdeps z0 z1 z2 z3 z4 z5 z6 z7 z8 z9 z10 z11 z12 z13 z14 z15 z16 z17 z18 z19 z20 z21 z22
            go_simp
            obtain ⟨hN, hbel, z0, z1, z2, z3, z4, z5, z6, z7, z8, z9, z10, z11, z12, z13, z14, z15, z16, z17, z18, z19, z20, z21, z22⟩ := Z.out
            exact hK _ _ ⟨_, _, _, _, _, _, _, _, _, _, _, _, _, _, _, _, rfl, Lib.hid ⟨by simpa using hN, hbel, fun g0 => (z0 ((set_other (by decide)).symm.trans g0)), fun g0 => (z1 ((set_other (by decide)).symm.trans g0)), fun g0 => (z2 ((set_other (by decide)).symm.trans g0)), fun g0 => (z3 ((set_other (by decide)).symm.trans g0)), fun _ => rfl, fun g0 => (z5 ((set_other (by decide)).symm.trans g0)), fun g0 => (z6 ((set_other (by decide)).symm.trans g0)), fun g0 => (z7 ((set_other (by decide)).symm.trans g0)), fun g0 => (z8 ((set_other (by decide)).symm.trans g0)), fun g0 => (z9 ((set_other (by decide)).symm.trans g0)), fun g0 => (z10 ((set_other (by decide)).symm.trans g0)), fun g0 => (z11 ((set_other (by decide)).symm.trans g0)), fun g0 => (z12 ((set_other (by decide)).symm.trans g0)), fun g0 => (z13 ((set_other (by decide)).symm.trans g0)), fun g0 => (z14 ((set_other (by decide)).symm.trans g0)), fun g0 => (z15 ((set_other (by decide)).symm.trans g0)), fun g0 g1 => (z16 ((set_other (by decide)).symm.trans g0) ((set_other (by decide)).symm.trans g1)), fun g0 => (z17 ((set_other (by decide)).symm.trans g0)), fun g0 => (z18 ((set_other (by decide)).symm.trans g0)), fun g0 => ⟨set_keep (z19 ((set_other (by decide)).symm.trans g0)).1, set_keep (z19 ((set_other (by decide)).symm.trans g0)).2⟩, fun g0 => ⟨set_keep (z20 ((set_other (by decide)).symm.trans g0)).1, set_keep (z20 ((set_other (by decide)).symm.trans g0)).2⟩, fun g0 => ⟨set_keep (z21 ((set_other (by decide)).symm.trans g0)).1, set_keep (z21 ((set_other (by decide)).symm.trans g0)).2⟩, fun g0 => ⟨set_keep (z22 ((set_other (by decide)).symm.trans g0)).1, set_keep (z22 ((set_other (by decide)).symm.trans g0)).2⟩⟩⟩
          · as_aux_lemma =>
            obtain rfl := Option.some.inj ho
            have e0 := z4 (dep (by simp [Region.binds] at hdeps ⊢; simp [hdeps]))
            subst e0
            have CC := Lib.hid (KS5.out wz hbel)
            have Z := hinv
            clear hinv ho hbel hN hdeps z0 z1 z2 z3 z4 z5 z6 z7 z8 z9 z10 z11 z12 z13 z14 z15 z16 z17 z18 z19 z20 z21 z22
            go_simp
            refine CC.out.mono ?_
            rintro e wq ⟨a, n, c, rfl, how, hb'⟩
            obtain ⟨hN, hbel, z0, z1, z2, z3, z4, z5, z6, z7, z8, z9, z10, z11, z12, z13, z14, z15, z16, z17, z18, z19, z20, z21, z22⟩ := Z.out
            exact hK _ _ ⟨_, _, _, _, _, _, _, _, _, _, _, _, _, _, _, _, rfl, Lib.hid ⟨by simpa using hN, hbel.trans (hb'.mono hbel.size), fun g0 => (z0 ((set_other (by decide)).symm.trans g0)), fun g0 => (z1 ((set_other (by decide)).symm.trans g0)), fun g0 => (z2 ((set_other (by decide)).symm.trans g0)).below hb', fun g0 => (z3 ((set_other (by decide)).symm.trans g0)), fun g0 => (z4 ((set_other (by decide)).symm.trans g0)), fun _ => ⟨a, n, c, rfl, how.base hbel.size⟩, fun g0 => not_done hL (z19 (((set_other (by decide)).symm.trans g0))).2, fun g0 => (z7 ((set_other (by decide)).symm.trans g0)), fun g0 => (z8 ((set_other (by decide)).symm.trans g0)), fun g0 => (z9 ((set_other (by decide)).symm.trans g0)).below hb', fun g0 => (z10 ((set_other (by decide)).symm.trans g0)), fun g0 => (z11 ((set_other (by decide)).symm.trans g0)), fun g0 => (z12 ((set_other (by decide)).symm.trans g0)).below hb', fun g0 => (z13 ((set_other (by decide)).symm.trans g0)).below hb', fun g0 => (z14 ((set_other (by decide)).symm.trans g0)).below hb', fun g0 => (z15 ((set_other (by decide)).symm.trans g0)).below hb', fun g0 g1 => (z16 ((set_other (by decide)).symm.trans g0) ((set_other (by decide)).symm.trans g1)), fun g0 => (z17 ((set_other (by decide)).symm.trans g0)).below hb', fun g0 => (z18 ((set_other (by decide)).symm.trans g0)).below hb', fun g0 => not_done hL (z19 (((set_other (by decide)).symm.trans g0))).2, fun g0 => ⟨set_keep (z20 ((set_other (by decide)).symm.trans g0)).1, set_keep (z20 ((set_other (by decide)).symm.trans g0)).2⟩, fun g0 => ⟨set_keep (z21 ((set_other (by decide)).symm.trans g0)).1, set_keep (z21 ((set_other (by decide)).symm.trans g0)).2⟩, fun g0 => ⟨set_keep (z22 ((set_other (by decide)).symm.trans g0)).1, set_keep (z22 ((set_other (by decide)).symm.trans g0)).2⟩⟩⟩
          · as_aux_lemma =>
            obtain rfl := Option.some.inj ho
            have hd1 : L[2]? = some true := (dep (by simp [Region.binds] at hdeps ⊢; simp [hdeps]))
            have hd2 : L[5]? = some true := (dep (by simp [Region.binds] at hdeps ⊢; simp [hdeps]))
            obtain ⟨a, n, c, e1, hl1⟩ := z2 hd1
            obtain ⟨b, m, d, e2, hl2⟩ := z5 hd2
            subst e1 e2
            have HL1 := Lib.hid hl1
            have HL2 := Lib.hid hl2
            clear hl1 hl2
            have Z := hinv
            clear hinv ho hbel hN hdeps z0 z1 z2 z3 z4 z5 z6 z7 z8 z9 z10 z11 z12 z13 z14 z15 z16 z17 z18 z19 z20 z21 z22
            go_simp
            obtain ⟨hN, hbel, z0, z1, z2, z3, z4, z5, z6, z7, z8, z9, z10, z11, z12, z13, z14, z15, z16, z17, z18, z19, z20, z21, z22⟩ := Z.out
            exact hK _ _ ⟨_, _, _, _, _, _, _, _, _, _, _, _, _, _, _, _, rfl, Lib.hid ⟨by simpa using hN, hbel, fun g0 => (z0 ((set_other (by decide)).symm.trans g0)), fun g0 => (z1 ((set_other (by decide)).symm.trans g0)), fun g0 => (z2 ((set_other (by decide)).symm.trans g0)), fun g0 => (z3 ((set_other (by decide)).symm.trans g0)), fun g0 => (z4 ((set_other (by decide)).symm.trans g0)), fun g0 => (z5 ((set_other (by decide)).symm.trans g0)), fun _ => ⟨a, n, c, b, m, d, rfl, HL1.out, HL2.out⟩, fun g0 => (z7 ((set_other (by decide)).symm.trans g0)), fun g0 => (z8 ((set_other (by decide)).symm.trans g0)), fun g0 => (z9 ((set_other (by decide)).symm.trans g0)), fun g0 => (z10 ((set_other (by decide)).symm.trans g0)), fun g0 => (z11 ((set_other (by decide)).symm.trans g0)), fun g0 => (z12 ((set_other (by decide)).symm.trans g0)), fun g0 => (z13 ((set_other (by decide)).symm.trans g0)), fun g0 => (z14 ((set_other (by decide)).symm.trans g0)), fun g0 => (z15 ((set_other (by decide)).symm.trans g0)), fun g0 g1 => (z16 ((set_other (by decide)).symm.trans g0) ((set_other (by decide)).symm.trans g1)), fun g0 => not_done hL (z21 (((set_other (by decide)).symm.trans g0))).2, fun g0 => (z18 ((set_other (by decide)).symm.trans g0)), fun _ => ⟨set_keep hd1, set_keep hd2⟩, fun g0 => ⟨set_keep (z20 ((set_other (by decide)).symm.trans g0)).1, set_keep (z20 ((set_other (by decide)).symm.trans g0)).2⟩, fun g0 => not_done hL (z21 (((set_other (by decide)).symm.trans g0))).2, fun g0 => ⟨set_keep (z22 ((set_other (by decide)).symm.trans g0)).1, set_keep (z22 ((set_other (by decide)).symm.trans g0)).2⟩⟩⟩
          · as_aux_lemma =>
            obtain rfl := Option.some.inj ho
            have Z := hinv
            clear hinv ho hbel hN hdeps z0 z1 z2 z3 z4 z5 z6 z7 z8 z9 z10 z11 z12 z13 z14 z15 z16 z17 z18 z19 z20 z21 z22
            go_simp
            obtain ⟨hN, hbel, z0, z1, z2, z3, z4, z5, z6, z7, z8, z9, z10, z11, z12, z13, z14, z15, z16, z17, z18, z19, z20, z21, z22⟩ := Z.out
            exact hK _ _ ⟨_, _, _, _, _, _, _, _, _, _, _, _, _, _, _, _, rfl, Lib.hid ⟨by simpa using hN, hbel, fun g0 => (z0 ((set_other (by decide)).symm.trans g0)), fun g0 => (z1 ((set_other (by decide)).symm.trans g0)), fun g0 => (z2 ((set_other (by decide)).symm.trans g0)), fun g0 => (z3 ((set_other (by decide)).symm.trans g0)), fun g0 => (z4 ((set_other (by decide)).symm.trans g0)), fun g0 => (z5 ((set_other (by decide)).symm.trans g0)), fun g0 => (z6 ((set_other (by decide)).symm.trans g0)), fun _ => rfl, fun g0 => (z8 ((set_other (by decide)).symm.trans g0)), fun g0 => (z9 ((set_other (by decide)).symm.trans g0)), fun g0 => (z10 ((set_other (by decide)).symm.trans g0)), fun g0 => (z11 ((set_other (by decide)).symm.trans g0)), fun g0 => (z12 ((set_other (by decide)).symm.trans g0)), fun g0 => (z13 ((set_other (by decide)).symm.trans g0)), fun g0 => (z14 ((set_other (by decide)).symm.trans g0)), fun g0 => (z15 ((set_other (by decide)).symm.trans g0)), fun g0 g1 => (z16 ((set_other (by decide)).symm.trans g0) ((set_other (by decide)).symm.trans g1)), fun g0 => (z17 ((set_other (by decide)).symm.trans g0)), fun g0 => (z18 ((set_other (by decide)).symm.trans g0)), fun g0 => ⟨set_keep (z19 ((set_other (by decide)).symm.trans g0)).1, set_keep (z19 ((set_other (by decide)).symm.trans g0)).2⟩, fun g0 => ⟨set_keep (z20 ((set_other (by decide)).symm.trans g0)).1, set_keep (z20 ((set_other (by decide)).symm.trans g0)).2⟩, fun g0 => ⟨set_keep (z21 ((set_other (by decide)).symm.trans g0)).1, set_keep (z21 ((set_other (by decide)).symm.trans g0)).2⟩, fun g0 => ⟨set_keep (z22 ((set_other (by decide)).symm.trans g0)).1, set_keep (z22 ((set_other (by decide)).symm.trans g0)).2⟩⟩⟩
          · as_aux_lemma =>
            obtain rfl := Option.some.inj ho
            have e0 := z7 (dep (by simp [Region.binds] at hdeps ⊢; simp [hdeps]))
            subst e0
            obtain ⟨_, _, _, _, _, _, _, _, _, b0, b1, _, _, _, _, _, _, _, _, _, _, _, _, _, _, _, _, _, _, _, _, _, _, _, _, _, _, _, _, _, _, _, _, _, _, _⟩ := HS.out wz hbel
            have Z := hinv
            clear hinv ho hbel hN hdeps z0 z1 z2 z3 z4 z5 z6 z7 z8 z9 z10 z11 z12 z13 z14 z15 z16 z17 z18 z19 z20 z21 z22
            go_simp
            obtain ⟨hN, hbel, z0, z1, z2, z3, z4, z5, z6, z7, z8, z9, z10, z11, z12, z13, z14, z15, z16, z17, z18, z19, z20, z21, z22⟩ := Z.out
            exact hK _ _ ⟨_, _, _, _, _, _, _, _, _, _, _, _, _, _, _, _, rfl, Lib.hid ⟨by simpa using hN, hbel, fun g0 => (z0 ((set_other (by decide)).symm.trans g0)), fun g0 => (z1 ((set_other (by decide)).symm.trans g0)), fun g0 => (z2 ((set_other (by decide)).symm.trans g0)), fun g0 => (z3 ((set_other (by decide)).symm.trans g0)), fun g0 => (z4 ((set_other (by decide)).symm.trans g0)), fun g0 => (z5 ((set_other (by decide)).symm.trans g0)), fun g0 => (z6 ((set_other (by decide)).symm.trans g0)), fun g0 => (z7 ((set_other (by decide)).symm.trans g0)), fun _ => rfl, fun g0 => (z9 ((set_other (by decide)).symm.trans g0)), fun g0 => (z10 ((set_other (by decide)).symm.trans g0)), fun g0 => (z11 ((set_other (by decide)).symm.trans g0)), fun g0 => (z12 ((set_other (by decide)).symm.trans g0)), fun g0 => (z13 ((set_other (by decide)).symm.trans g0)), fun g0 => (z14 ((set_other (by decide)).symm.trans g0)), fun g0 => (z15 ((set_other (by decide)).symm.trans g0)), fun g0 g1 => (z16 ((set_other (by decide)).symm.trans g0) ((set_other (by decide)).symm.trans g1)), fun g0 => (z17 ((set_other (by decide)).symm.trans g0)), fun g0 => (z18 ((set_other (by decide)).symm.trans g0)), fun g0 => ⟨set_keep (z19 ((set_other (by decide)).symm.trans g0)).1, set_keep (z19 ((set_other (by decide)).symm.trans g0)).2⟩, fun g0 => ⟨set_keep (z20 ((set_other (by decide)).symm.trans g0)).1, set_keep (z20 ((set_other (by decide)).symm.trans g0)).2⟩, fun g0 => ⟨set_keep (z21 ((set_other (by decide)).symm.trans g0)).1, set_keep (z21 ((set_other (by decide)).symm.trans g0)).2⟩, fun g0 => ⟨set_keep (z22 ((set_other (by decide)).symm.trans g0)).1, set_keep (z22 ((set_other (by decide)).symm.trans g0)).2⟩⟩⟩
          · as_aux_lemma =>
            obtain rfl := Option.some.inj ho
            have e0 := z8 (dep (by simp [Region.binds] at hdeps ⊢; simp [hdeps]))
            subst e0
            have CC := Lib.hid (KS4.out wz hbel)
            have Z := hinv
            clear hinv ho hbel hN hdeps z0 z1 z2 z3 z4 z5 z6 z7 z8 z9 z10 z11 z12 z13 z14 z15 z16 z17 z18 z19 z20 z21 z22
            go_simp
            refine CC.out.mono ?_
            rintro e wq ⟨a, n, c, rfl, how, hb'⟩
            obtain ⟨hN, hbel, z0, z1, z2, z3, z4, z5, z6, z7, z8, z9, z10, z11, z12, z13, z14, z15, z16, z17, z18, z19, z20, z21, z22⟩ := Z.out
            exact hK _ _ ⟨_, _, _, _, _, _, _, _, _, _, _, _, _, _, _, _, rfl, Lib.hid ⟨by simpa using hN, hbel.trans (hb'.mono hbel.size), fun g0 => (z0 ((set_other (by decide)).symm.trans g0)), fun g0 => (z1 ((set_other (by decide)).symm.trans g0)), fun g0 => (z2 ((set_other (by decide)).symm.trans g0)).below hb', fun g0 => (z3 ((set_other (by decide)).symm.trans g0)), fun g0 => (z4 ((set_other (by decide)).symm.trans g0)), fun g0 => (z5 ((set_other (by decide)).symm.trans g0)).below hb', fun g0 => (z6 ((set_other (by decide)).symm.trans g0)).below hb', fun g0 => (z7 ((set_other (by decide)).symm.trans g0)), fun g0 => (z8 ((set_other (by decide)).symm.trans g0)), fun _ => ⟨a, n, c, rfl, how.base hbel.size⟩, fun g0 => (z10 ((set_other (by decide)).symm.trans g0)), fun g0 => (z11 ((set_other (by decide)).symm.trans g0)), fun g0 => (z12 ((set_other (by decide)).symm.trans g0)).below hb', fun g0 => not_done hL (z20 (((set_other (by decide)).symm.trans g0))).1, fun g0 => (z14 ((set_other (by decide)).symm.trans g0)).below hb', fun g0 => (z15 ((set_other (by decide)).symm.trans g0)).below hb', fun g0 g1 => (z16 ((set_other (by decide)).symm.trans g0) ((set_other (by decide)).symm.trans g1)), fun g0 => (z17 ((set_other (by decide)).symm.trans g0)).below hb', fun g0 => (z18 ((set_other (by decide)).symm.trans g0)).below hb', fun g0 => ⟨set_keep (z19 ((set_other (by decide)).symm.trans g0)).1, set_keep (z19 ((set_other (by decide)).symm.trans g0)).2⟩, fun g0 => not_done hL (z20 (((set_other (by decide)).symm.trans g0))).1, fun g0 => ⟨set_keep (z21 ((set_other (by decide)).symm.trans g0)).1, set_keep (z21 ((set_other (by decide)).symm.trans g0)).2⟩, fun g0 => ⟨set_keep (z22 ((set_other (by decide)).symm.trans g0)).1, set_keep (z22 ((set_other (by decide)).symm.trans g0)).2⟩⟩⟩
          · as_aux_lemma =>
            obtain rfl := Option.some.inj ho
            have Z := hinv
            clear hinv ho hbel hN hdeps z0 z1 z2 z3 z4 z5 z6 z7 z8 z9 z10 z11 z12 z13 z14 z15 z16 z17 z18 z19 z20 z21 z22
            go_simp
            obtain ⟨hN, hbel, z0, z1, z2, z3, z4, z5, z6, z7, z8, z9, z10, z11, z12, z13, z14, z15, z16, z17, z18, z19, z20, z21, z22⟩ := Z.out
            exact hK _ _ ⟨_, _, _, _, _, _, _, _, _, _, _, _, _, _, _, _, rfl, Lib.hid ⟨by simpa using hN, hbel, fun g0 => (z0 ((set_other (by decide)).symm.trans g0)), fun g0 => (z1 ((set_other (by decide)).symm.trans g0)), fun g0 => (z2 ((set_other (by decide)).symm.trans g0)), fun g0 => (z3 ((set_other (by decide)).symm.trans g0)), fun g0 => (z4 ((set_other (by decide)).symm.trans g0)), fun g0 => (z5 ((set_other (by decide)).symm.trans g0)), fun g0 => (z6 ((set_other (by decide)).symm.trans g0)), fun g0 => (z7 ((set_other (by decide)).symm.trans g0)), fun g0 => (z8 ((set_other (by decide)).symm.trans g0)), fun g0 => (z9 ((set_other (by decide)).symm.trans g0)), fun _ => rfl, fun g0 => (z11 ((set_other (by decide)).symm.trans g0)), fun g0 => (z12 ((set_other (by decide)).symm.trans g0)), fun g0 => (z13 ((set_other (by decide)).symm.trans g0)), fun g0 => (z14 ((set_other (by decide)).symm.trans g0)), fun g0 => (z15 ((set_other (by decide)).symm.trans g0)), fun g0 g1 => (z16 ((set_other (by decide)).symm.trans g0) ((set_other (by decide)).symm.trans g1)), fun g0 => (z17 ((set_other (by decide)).symm.trans g0)), fun g0 => (z18 ((set_other (by decide)).symm.trans g0)), fun g0 => ⟨set_keep (z19 ((set_other (by decide)).symm.trans g0)).1, set_keep (z19 ((set_other (by decide)).symm.trans g0)).2⟩, fun g0 => ⟨set_keep (z20 ((set_other (by decide)).symm.trans g0)).1, set_keep (z20 ((set_other (by decide)).symm.trans g0)).2⟩, fun g0 => ⟨set_keep (z21 ((set_other (by decide)).symm.trans g0)).1, set_keep (z21 ((set_other (by decide)).symm.trans g0)).2⟩, fun g0 => ⟨set_keep (z22 ((set_other (by decide)).symm.trans g0)).1, set_keep (z22 ((set_other (by decide)).symm.trans g0)).2⟩⟩⟩
          · as_aux_lemma =>
            obtain rfl := Option.some.inj ho
            have e0 := z10 (dep (by simp [Region.binds] at hdeps ⊢; simp [hdeps]))
            subst e0
            obtain ⟨_, _, _, _, _, _, _, _, _, _, _, b0, b1, _, _, _, _, _, _, _, _, _, _, _, _, _, _, _, _, _, _, _, _, _, _, _, _, _, _, _, _, _, _, _, _, _⟩ := HS.out wz hbel
            have Z := hinv
            clear hinv ho hbel hN hdeps z0 z1 z2 z3 z4 z5 z6 z7 z8 z9 z10 z11 z12 z13 z14 z15 z16 z17 z18 z19 z20 z21 z22
            go_simp
            obtain ⟨hN, hbel, z0, z1, z2, z3, z4, z5, z6, z7, z8, z9, z10, z11, z12, z13, z14, z15, z16, z17, z18, z19, z20, z21, z22⟩ := Z.out
            exact hK _ _ ⟨_, _, _, _, _, _, _, _, _, _, _, _, _, _, _, _, rfl, Lib.hid ⟨by simpa using hN, hbel, fun g0 => (z0 ((set_other (by decide)).symm.trans g0)), fun g0 => (z1 ((set_other (by decide)).symm.trans g0)), fun g0 => (z2 ((set_other (by decide)).symm.trans g0)), fun g0 => (z3 ((set_other (by decide)).symm.trans g0)), fun g0 => (z4 ((set_other (by decide)).symm.trans g0)), fun g0 => (z5 ((set_other (by decide)).symm.trans g0)), fun g0 => (z6 ((set_other (by decide)).symm.trans g0)), fun g0 => (z7 ((set_other (by decide)).symm.trans g0)), fun g0 => (z8 ((set_other (by decide)).symm.trans g0)), fun g0 => (z9 ((set_other (by decide)).symm.trans g0)), fun g0 => (z10 ((set_other (by decide)).symm.trans g0)), fun _ => rfl, fun g0 => (z12 ((set_other (by decide)).symm.trans g0)), fun g0 => (z13 ((set_other (by decide)).symm.trans g0)), fun g0 => (z14 ((set_other (by decide)).symm.trans g0)), fun g0 => (z15 ((set_other (by decide)).symm.trans g0)), fun g0 g1 => (z16 ((set_other (by decide)).symm.trans g0) ((set_other (by decide)).symm.trans g1)), fun g0 => (z17 ((set_other (by decide)).symm.trans g0)), fun g0 => (z18 ((set_other (by decide)).symm.trans g0)), fun g0 => ⟨set_keep (z19 ((set_other (by decide)).symm.trans g0)).1, set_keep (z19 ((set_other (by decide)).symm.trans g0)).2⟩, fun g0 => ⟨set_keep (z20 ((set_other (by decide)).symm.trans g0)).1, set_keep (z20 ((set_other (by decide)).symm.trans g0)).2⟩, fun g0 => ⟨set_keep (z21 ((set_other (by decide)).symm.trans g0)).1, set_keep (z21 ((set_other (by decide)).symm.trans g0)).2⟩, fun g0 => ⟨set_keep (z22 ((set_other (by decide)).symm.trans g0)).1, set_keep (z22 ((set_other (by decide)).symm.trans g0)).2⟩⟩⟩
          · as_aux_lemma =>
            obtain rfl := Option.some.inj ho
            have e0 := z11 (dep (by simp [Region.binds] at hdeps ⊢; simp [hdeps]))
            subst e0
            have CC := Lib.hid (KS5.out wz hbel)
            have Z := hinv
            clear hinv ho hbel hN hdeps z0 z1 z2 z3 z4 z5 z6 z7 z8 z9 z10 z11 z12 z13 z14 z15 z16 z17 z18 z19 z20 z21 z22
            go_simp
            refine CC.out.mono ?_
            rintro e wq ⟨a, n, c, rfl, how, hb'⟩
            obtain ⟨hN, hbel, z0, z1, z2, z3, z4, z5, z6, z7, z8, z9, z10, z11, z12, z13, z14, z15, z16, z17, z18, z19, z20, z21, z22⟩ := Z.out
            exact hK _ _ ⟨_, _, _, _, _, _, _, _, _, _, _, _, _, _, _, _, rfl, Lib.hid ⟨by simpa using hN, hbel.trans (hb'.mono hbel.size), fun g0 => (z0 ((set_other (by decide)).symm.trans g0)), fun g0 => (z1 ((set_other (by decide)).symm.trans g0)), fun g0 => (z2 ((set_other (by decide)).symm.trans g0)).below hb', fun g0 => (z3 ((set_other (by decide)).symm.trans g0)), fun g0 => (z4 ((set_other (by decide)).symm.trans g0)), fun g0 => (z5 ((set_other (by decide)).symm.trans g0)).below hb', fun g0 => (z6 ((set_other (by decide)).symm.trans g0)).below hb', fun g0 => (z7 ((set_other (by decide)).symm.trans g0)), fun g0 => (z8 ((set_other (by decide)).symm.trans g0)), fun g0 => (z9 ((set_other (by decide)).symm.trans g0)).below hb', fun g0 => (z10 ((set_other (by decide)).symm.trans g0)), fun g0 => (z11 ((set_other (by decide)).symm.trans g0)), fun _ => ⟨a, n, c, rfl, how.base hbel.size⟩, fun g0 => not_done hL (z20 (((set_other (by decide)).symm.trans g0))).2, fun g0 => (z14 ((set_other (by decide)).symm.trans g0)).below hb', fun g0 => (z15 ((set_other (by decide)).symm.trans g0)).below hb', fun g0 g1 => (z16 ((set_other (by decide)).symm.trans g0) ((set_other (by decide)).symm.trans g1)), fun g0 => (z17 ((set_other (by decide)).symm.trans g0)).below hb', fun g0 => (z18 ((set_other (by decide)).symm.trans g0)).below hb', fun g0 => ⟨set_keep (z19 ((set_other (by decide)).symm.trans g0)).1, set_keep (z19 ((set_other (by decide)).symm.trans g0)).2⟩, fun g0 => not_done hL (z20 (((set_other (by decide)).symm.trans g0))).2, fun g0 => ⟨set_keep (z21 ((set_other (by decide)).symm.trans g0)).1, set_keep (z21 ((set_other (by decide)).symm.trans g0)).2⟩, fun g0 => ⟨set_keep (z22 ((set_other (by decide)).symm.trans g0)).1, set_keep (z22 ((set_other (by decide)).symm.trans g0)).2⟩⟩⟩
          · as_aux_lemma =>
            obtain rfl := Option.some.inj ho
            have hd1 : L[9]? = some true := (dep (by simp [Region.binds] at hdeps ⊢; simp [hdeps]))
            have hd2 : L[12]? = some true := (dep (by simp [Region.binds] at hdeps ⊢; simp [hdeps]))
            obtain ⟨a, n, c, e1, hl1⟩ := z9 hd1
            obtain ⟨b, m, d, e2, hl2⟩ := z12 hd2
            subst e1 e2
            have HL1 := Lib.hid hl1
            have HL2 := Lib.hid hl2
            clear hl1 hl2
            have Z := hinv
            clear hinv ho hbel hN hdeps z0 z1 z2 z3 z4 z5 z6 z7 z8 z9 z10 z11 z12 z13 z14 z15 z16 z17 z18 z19 z20 z21 z22
            go_simp
            obtain ⟨hN, hbel, z0, z1, z2, z3, z4, z5, z6, z7, z8, z9, z10, z11, z12, z13, z14, z15, z16, z17, z18, z19, z20, z21, z22⟩ := Z.out
            exact hK _ _ ⟨_, _, _, _, _, _, _, _, _, _, _, _, _, _, _, _, rfl, Lib.hid ⟨by simpa using hN, hbel, fun g0 => (z0 ((set_other (by decide)).symm.trans g0)), fun g0 => (z1 ((set_other (by decide)).symm.trans g0)), fun g0 => (z2 ((set_other (by decide)).symm.trans g0)), fun g0 => (z3 ((set_other (by decide)).symm.trans g0)), fun g0 => (z4 ((set_other (by decide)).symm.trans g0)), fun g0 => (z5 ((set_other (by decide)).symm.trans g0)), fun g0 => (z6 ((set_other (by decide)).symm.trans g0)), fun g0 => (z7 ((set_other (by decide)).symm.trans g0)), fun g0 => (z8 ((set_other (by decide)).symm.trans g0)), fun g0 => (z9 ((set_other (by decide)).symm.trans g0)), fun g0 => (z10 ((set_other (by decide)).symm.trans g0)), fun g0 => (z11 ((set_other (by decide)).symm.trans g0)), fun g0 => (z12 ((set_other (by decide)).symm.trans g0)), fun _ => ⟨a, n, c, b, m, d, rfl, HL1.out, HL2.out⟩, fun g0 => (z14 ((set_other (by decide)).symm.trans g0)), fun g0 => (z15 ((set_other (by decide)).symm.trans g0)), fun g0 g1 => (z16 ((set_other (by decide)).symm.trans g0) ((set_other (by decide)).symm.trans g1)), fun g0 => (z17 ((set_other (by decide)).symm.trans g0)), fun g0 => not_done hL (z22 (((set_other (by decide)).symm.trans g0))).2, fun g0 => ⟨set_keep (z19 ((set_other (by decide)).symm.trans g0)).1, set_keep (z19 ((set_other (by decide)).symm.trans g0)).2⟩, fun _ => ⟨set_keep hd1, set_keep hd2⟩, fun g0 => ⟨set_keep (z21 ((set_other (by decide)).symm.trans g0)).1, set_keep (z21 ((set_other (by decide)).symm.trans g0)).2⟩, fun g0 => not_done hL (z22 (((set_other (by decide)).symm.trans g0))).2⟩⟩
          · as_aux_lemma =>
            obtain rfl := Option.some.inj ho
            have Z := hinv
            clear hinv ho hbel hN hdeps z0 z1 z2 z3 z4 z5 z6 z7 z8 z9 z10 z11 z12 z13 z14 z15 z16 z17 z18 z19 z20 z21 z22
            go_simp
            obtain ⟨hN, hbel, z0, z1, z2, z3, z4, z5, z6, z7, z8, z9, z10, z11, z12, z13, z14, z15, z16, z17, z18, z19, z20, z21, z22⟩ := Z.out
            have hb' := below_alloc1 wz (Obj.cells #[.int .i64 0, .slice none 0 0, .int .i64 0, .slice none 0 0] 32)
            exact hK _ _ ⟨_, _, _, _, _, _, _, _, _, _, _, _, _, _, _, _, rfl, Lib.hid ⟨by simpa using hN, hbel.trans (hb'.mono hbel.size), fun g0 => (z0 ((set_other (by decide)).symm.trans g0)), fun g0 => (z1 ((set_other (by decide)).symm.trans g0)), fun g0 => (z2 ((set_other (by decide)).symm.trans g0)).below hb', fun g0 => (z3 ((set_other (by decide)).symm.trans g0)), fun g0 => (z4 ((set_other (by decide)).symm.trans g0)), fun g0 => (z5 ((set_other (by decide)).symm.trans g0)).below hb', fun g0 => (z6 ((set_other (by decide)).symm.trans g0)).below hb', fun g0 => (z7 ((set_other (by decide)).symm.trans g0)), fun g0 => (z8 ((set_other (by decide)).symm.trans g0)), fun g0 => (z9 ((set_other (by decide)).symm.trans g0)).below hb', fun g0 => (z10 ((set_other (by decide)).symm.trans g0)), fun g0 => (z11 ((set_other (by decide)).symm.trans g0)), fun g0 => (z12 ((set_other (by decide)).symm.trans g0)).below hb', fun g0 => (z13 ((set_other (by decide)).symm.trans g0)).below hb', fun _ => N4.new _ _ _ _ _ _ hbel.size, fun g0 => (z15 ((set_other (by decide)).symm.trans g0)).below hb', fun g0 g1 => ((z15 ((set_other (by decide)).symm.trans g1)).lt).symm, fun g0 => not_done hL (z21 (((set_other (by decide)).symm.trans g0))).1, fun g0 => (z18 ((set_other (by decide)).symm.trans g0)).below hb', fun g0 => ⟨set_keep (z19 ((set_other (by decide)).symm.trans g0)).1, set_keep (z19 ((set_other (by decide)).symm.trans g0)).2⟩, fun g0 => ⟨set_keep (z20 ((set_other (by decide)).symm.trans g0)).1, set_keep (z20 ((set_other (by decide)).symm.trans g0)).2⟩, fun g0 => not_done hL (z21 (((set_other (by decide)).symm.trans g0))).1, fun g0 => ⟨set_keep (z22 ((set_other (by decide)).symm.trans g0)).1, set_keep (z22 ((set_other (by decide)).symm.trans g0)).2⟩⟩⟩
          · as_aux_lemma =>
            obtain rfl := Option.some.inj ho
            have Z := hinv
            clear hinv ho hbel hN hdeps z0 z1 z2 z3 z4 z5 z6 z7 z8 z9 z10 z11 z12 z13 z14 z15 z16 z17 z18 z19 z20 z21 z22
            go_simp
            obtain ⟨hN, hbel, z0, z1, z2, z3, z4, z5, z6, z7, z8, z9, z10, z11, z12, z13, z14, z15, z16, z17, z18, z19, z20, z21, z22⟩ := Z.out
            have hb' := below_alloc1 wz (Obj.cells #[.int .i64 0, .slice none 0 0, .int .i64 0, .slice none 0 0] 33)
            exact hK _ _ ⟨_, _, _, _, _, _, _, _, _, _, _, _, _, _, _, _, rfl, Lib.hid ⟨by simpa using hN, hbel.trans (hb'.mono hbel.size), fun g0 => (z0 ((set_other (by decide)).symm.trans g0)), fun g0 => (z1 ((set_other (by decide)).symm.trans g0)), fun g0 => (z2 ((set_other (by decide)).symm.trans g0)).below hb', fun g0 => (z3 ((set_other (by decide)).symm.trans g0)), fun g0 => (z4 ((set_other (by decide)).symm.trans g0)), fun g0 => (z5 ((set_other (by decide)).symm.trans g0)).below hb', fun g0 => (z6 ((set_other (by decide)).symm.trans g0)).below hb', fun g0 => (z7 ((set_other (by decide)).symm.trans g0)), fun g0 => (z8 ((set_other (by decide)).symm.trans g0)), fun g0 => (z9 ((set_other (by decide)).symm.trans g0)).below hb', fun g0 => (z10 ((set_other (by decide)).symm.trans g0)), fun g0 => (z11 ((set_other (by decide)).symm.trans g0)), fun g0 => (z12 ((set_other (by decide)).symm.trans g0)).below hb', fun g0 => (z13 ((set_other (by decide)).symm.trans g0)).below hb', fun g0 => (z14 ((set_other (by decide)).symm.trans g0)).below hb', fun _ => N4.new _ _ _ _ _ _ hbel.size, fun g0 g1 => (z14 ((set_other (by decide)).symm.trans g0)).lt, fun g0 => (z17 ((set_other (by decide)).symm.trans g0)).below hb', fun g0 => not_done hL (z22 (((set_other (by decide)).symm.trans g0))).1, fun g0 => ⟨set_keep (z19 ((set_other (by decide)).symm.trans g0)).1, set_keep (z19 ((set_other (by decide)).symm.trans g0)).2⟩, fun g0 => ⟨set_keep (z20 ((set_other (by decide)).symm.trans g0)).1, set_keep (z20 ((set_other (by decide)).symm.trans g0)).2⟩, fun g0 => ⟨set_keep (z21 ((set_other (by decide)).symm.trans g0)).1, set_keep (z21 ((set_other (by decide)).symm.trans g0)).2⟩, fun g0 => not_done hL (z22 (((set_other (by decide)).symm.trans g0))).1⟩⟩
          · as_aux_lemma =>
            obtain rfl := Option.some.inj ho
            have hds : L[14]? = some true ∧ L[15]? = some true ∧ L[6]? = some true := by
              simp [Region.binds] at hdeps
              refine ⟨?_, ?_, ?_⟩ <;> (refine dep ?_; simp [hdeps])
            obtain ⟨d14, d15, d6⟩ := hds
            obtain ⟨A0, hA1, hA2, x0, u0, v0, t0, hA3⟩ := z14 d14
            obtain ⟨a, n, c, b, m, d, hc1, hc2, hc3⟩ := z6 d6
            subst hA1 hc1
            obtain ⟨⟨s0, s1, s2, s3⟩, ⟨s5, s6, s7, s8⟩, s4⟩ := old4 wz A0 32 _ _ _ _ (.int .i64 D4) (.slice a n c) (.int .i64 D5) (.slice b m d) hA3
            clear hc3
            have S4 := Lib.hid s4
            have HA3 := Lib.hid hA3
            have HA2 := Lib.hid hA2
            clear s4 hA2 hA3 hc2
            have Z := hinv
            clear hinv ho hbel hN hdeps z0 z1 z2 z3 z4 z5 z6 z7 z8 z9 z10 z11 z12 z13 z14 z15 z16 z17 z18 z19 z20 z21 z22
            go_simp
            clear s0 s1 s2 s3 s5 s6 s7 s8
            obtain ⟨hN, hbel, z0, z1, z2, z3, z4, z5, z6, z7, z8, z9, z10, z11, z12, z13, z14, z15, z16, z17, z18, z19, z20, z21, z22⟩ := Z.out
            have hbut := but_set4 wz A0 (.int .i64 D4) (.slice a n c) (.int .i64 D5) (.slice b m d)
            exact hK _ _ ⟨_, _, _, _, _, _, _, _, _, _, _, _, _, _, _, _, rfl, Lib.hid ⟨by simpa using hN, below_set4 hbel HA2.out (.int .i64 D4) (.slice a n c) (.int .i64 D5) (.slice b m d), fun g0 => (z0 ((set_other (by decide)).symm.trans g0)), fun g0 => (z1 ((set_other (by decide)).symm.trans g0)), fun g0 => (z2 ((set_other (by decide)).symm.trans g0)).set4 HA3.out (by decide) (.int .i64 D4) (.slice a n c) (.int .i64 D5) (.slice b m d), fun g0 => (z3 ((set_other (by decide)).symm.trans g0)), fun g0 => (z4 ((set_other (by decide)).symm.trans g0)), fun g0 => (z5 ((set_other (by decide)).symm.trans g0)).set4 HA3.out (by decide) (.int .i64 D4) (.slice a n c) (.int .i64 D5) (.slice b m d), fun g0 => (z6 ((set_other (by decide)).symm.trans g0)).set4 HA3.out (by decide) (.int .i64 D4) (.slice a n c) (.int .i64 D5) (.slice b m d), fun g0 => (z7 ((set_other (by decide)).symm.trans g0)), fun g0 => (z8 ((set_other (by decide)).symm.trans g0)), fun g0 => (z9 ((set_other (by decide)).symm.trans g0)).set4 HA3.out (by decide) (.int .i64 D4) (.slice a n c) (.int .i64 D5) (.slice b m d), fun g0 => (z10 ((set_other (by decide)).symm.trans g0)), fun g0 => (z11 ((set_other (by decide)).symm.trans g0)), fun g0 => (z12 ((set_other (by decide)).symm.trans g0)).set4 HA3.out (by decide) (.int .i64 D4) (.slice a n c) (.int .i64 D5) (.slice b m d), fun g0 => (z13 ((set_other (by decide)).symm.trans g0)).set4 HA3.out (by decide) (.int .i64 D4) (.slice a n c) (.int .i64 D5) (.slice b m d), fun g0 => ⟨A0, rfl, HA2.out, _, _, _, _, S4.out⟩, fun g0 => (z15 ((set_other (by decide)).symm.trans g0)).but hbut ((z16 d14 d15)).symm, fun g0 g1 => (z16 ((set_other (by decide)).symm.trans g0) ((set_other (by decide)).symm.trans g1)), fun _ => ⟨A0, _, rfl, rfl, S4.out⟩, fun g0 => (z18 ((set_other (by decide)).symm.trans g0)).but hbut ((z16 d14 d15)).symm, fun g0 => ⟨set_keep (z19 ((set_other (by decide)).symm.trans g0)).1, set_keep (z19 ((set_other (by decide)).symm.trans g0)).2⟩, fun g0 => ⟨set_keep (z20 ((set_other (by decide)).symm.trans g0)).1, set_keep (z20 ((set_other (by decide)).symm.trans g0)).2⟩, fun _ => ⟨set_keep d14, set_keep d6⟩, fun g0 => ⟨set_keep (z22 ((set_other (by decide)).symm.trans g0)).1, set_keep (z22 ((set_other (by decide)).symm.trans g0)).2⟩⟩⟩
          · as_aux_lemma =>
            obtain rfl := Option.some.inj ho
            have hds : L[15]? = some true ∧ L[14]? = some true ∧ L[13]? = some true := by
              simp [Region.binds] at hdeps
              refine ⟨?_, ?_, ?_⟩ <;> (refine dep ?_; simp [hdeps])
            obtain ⟨d15, d14, d13⟩ := hds
            obtain ⟨A0, hA1, hA2, x0, u0, v0, t0, hA3⟩ := z15 d15
            obtain ⟨a, n, c, b, m, d, hc1, hc2, hc3⟩ := z13 d13
            subst hA1 hc1
            obtain ⟨⟨s0, s1, s2, s3⟩, ⟨s5, s6, s7, s8⟩, s4⟩ := old4 wz A0 33 _ _ _ _ (.int .i64 D4) (.slice a n c) (.int .i64 D5) (.slice b m d) hA3
            clear hc3
            have S4 := Lib.hid s4
            have HA3 := Lib.hid hA3
            have HA2 := Lib.hid hA2
            clear s4 hA2 hA3 hc2
            have Z := hinv
            clear hinv ho hbel hN hdeps z0 z1 z2 z3 z4 z5 z6 z7 z8 z9 z10 z11 z12 z13 z14 z15 z16 z17 z18 z19 z20 z21 z22
            go_simp
            clear s0 s1 s2 s3 s5 s6 s7 s8
            obtain ⟨hN, hbel, z0, z1, z2, z3, z4, z5, z6, z7, z8, z9, z10, z11, z12, z13, z14, z15, z16, z17, z18, z19, z20, z21, z22⟩ := Z.out
            have hbut := but_set4 wz A0 (.int .i64 D4) (.slice a n c) (.int .i64 D5) (.slice b m d)
            exact hK _ _ ⟨_, _, _, _, _, _, _, _, _, _, _, _, _, _, _, _, rfl, Lib.hid ⟨by simpa using hN, below_set4 hbel HA2.out (.int .i64 D4) (.slice a n c) (.int .i64 D5) (.slice b m d), fun g0 => (z0 ((set_other (by decide)).symm.trans g0)), fun g0 => (z1 ((set_other (by decide)).symm.trans g0)), fun g0 => (z2 ((set_other (by decide)).symm.trans g0)).set4 HA3.out (by decide) (.int .i64 D4) (.slice a n c) (.int .i64 D5) (.slice b m d), fun g0 => (z3 ((set_other (by decide)).symm.trans g0)), fun g0 => (z4 ((set_other (by decide)).symm.trans g0)), fun g0 => (z5 ((set_other (by decide)).symm.trans g0)).set4 HA3.out (by decide) (.int .i64 D4) (.slice a n c) (.int .i64 D5) (.slice b m d), fun g0 => (z6 ((set_other (by decide)).symm.trans g0)).set4 HA3.out (by decide) (.int .i64 D4) (.slice a n c) (.int .i64 D5) (.slice b m d), fun g0 => (z7 ((set_other (by decide)).symm.trans g0)), fun g0 => (z8 ((set_other (by decide)).symm.trans g0)), fun g0 => (z9 ((set_other (by decide)).symm.trans g0)).set4 HA3.out (by decide) (.int .i64 D4) (.slice a n c) (.int .i64 D5) (.slice b m d), fun g0 => (z10 ((set_other (by decide)).symm.trans g0)), fun g0 => (z11 ((set_other (by decide)).symm.trans g0)), fun g0 => (z12 ((set_other (by decide)).symm.trans g0)).set4 HA3.out (by decide) (.int .i64 D4) (.slice a n c) (.int .i64 D5) (.slice b m d), fun g0 => (z13 ((set_other (by decide)).symm.trans g0)).set4 HA3.out (by decide) (.int .i64 D4) (.slice a n c) (.int .i64 D5) (.slice b m d), fun g0 => (z14 ((set_other (by decide)).symm.trans g0)).but hbut (z16 d14 d15), fun g0 => ⟨A0, rfl, HA2.out, _, _, _, _, S4.out⟩, fun g0 g1 => (z16 ((set_other (by decide)).symm.trans g0) ((set_other (by decide)).symm.trans g1)), fun g0 => (z17 ((set_other (by decide)).symm.trans g0)).but hbut (z16 d14 d15), fun _ => ⟨A0, _, rfl, rfl, S4.out⟩, fun g0 => ⟨set_keep (z19 ((set_other (by decide)).symm.trans g0)).1, set_keep (z19 ((set_other (by decide)).symm.trans g0)).2⟩, fun g0 => ⟨set_keep (z20 ((set_other (by decide)).symm.trans g0)).1, set_keep (z20 ((set_other (by decide)).symm.trans g0)).2⟩, fun g0 => ⟨set_keep (z21 ((set_other (by decide)).symm.trans g0)).1, set_keep (z21 ((set_other (by decide)).symm.trans g0)).2⟩, fun _ => ⟨set_keep d15, set_keep d13⟩⟩⟩
        case fin3 =>
          intro L a wz hI hr
          obtain ⟨y11, y12, y48, y49, y50, y51, y52, y53, y54, y55, y56, y57, y58, y59, y60, y61, rfl, hinv⟩ := hI
          obtain ⟨hN, hbel, z0, z1, z2, z3, z4, z5, z6, z7, z8, z9, z10, z11, z12, z13, z14, z15, z16, z17, z18, z19, z20, z21, z22⟩ := hinv.out
          have f0 : L[0]? = some true := by
            cases hb : L[0]? with
            | none => have := (Array.getElem?_eq_none_iff.1 hb); omega
            | some b =>
              cases b with
              | true => rfl
              | false => exact (ready_nil hr hb (by rfl) (by simp [Region.binds])).elim
          have f1 : L[1]? = some true := by
            cases hb : L[1]? with
            | none => have := (Array.getElem?_eq_none_iff.1 hb); omega
            | some b =>
              cases b with
              | true => rfl
              | false => exact (ready_nil hr hb (by rfl) (by simp [Region.binds, f0])).elim
          have f2 : L[2]? = some true := by
            cases hb : L[2]? with
            | none => have := (Array.getElem?_eq_none_iff.1 hb); omega
            | some b =>
              cases b with
              | true => rfl
              | false => exact (ready_nil hr hb (by rfl) (by simp [Region.binds, f0, f1])).elim
          have f3 : L[3]? = some true := by
            cases hb : L[3]? with
            | none => have := (Array.getElem?_eq_none_iff.1 hb); omega
            | some b =>
              cases b with
              | true => rfl
              | false => exact (ready_nil hr hb (by rfl) (by simp [Region.binds, f0, f1, f2])).elim
          have f4 : L[4]? = some true := by
            cases hb : L[4]? with
            | none => have := (Array.getElem?_eq_none_iff.1 hb); omega
            | some b =>
              cases b with
              | true => rfl
              | false => exact (ready_nil hr hb (by rfl) (by simp [Region.binds, f0, f1, f2, f3])).elim
          have f5 : L[5]? = some true := by
            cases hb : L[5]? with
            | none => have := (Array.getElem?_eq_none_iff.1 hb); omega
            | some b =>
              cases b with
              | true => rfl
              | false => exact (ready_nil hr hb (by rfl) (by simp [Region.binds, f0, f1, f2, f3, f4])).elim
          have f6 : L[6]? = some true := by
            cases hb : L[6]? with
            | none => have := (Array.getElem?_eq_none_iff.1 hb); omega
            | some b =>
              cases b with
              | true => rfl
              | false => exact (ready_nil hr hb (by rfl) (by simp [Region.binds, f0, f1, f2, f3, f4, f5])).elim
          have f7 : L[7]? = some true := by
            cases hb : L[7]? with
            | none => have := (Array.getElem?_eq_none_iff.1 hb); omega
            | some b =>
              cases b with
              | true => rfl
              | false => exact (ready_nil hr hb (by rfl) (by simp [Region.binds, f0, f1, f2, f3, f4, f5, f6])).elim
          have f8 : L[8]? = some true := by
            cases hb : L[8]? with
            | none => have := (Array.getElem?_eq_none_iff.1 hb); omega
            | some b =>
              cases b with
              | true => rfl
              | false => exact (ready_nil hr hb (by rfl) (by simp [Region.binds, f0, f1, f2, f3, f4, f5, f6, f7])).elim
          have f9 : L[9]? = some true := by
            cases hb : L[9]? with
            | none => have := (Array.getElem?_eq_none_iff.1 hb); omega
            | some b =>
              cases b with
              | true => rfl
              | false => exact (ready_nil hr hb (by rfl) (by simp [Region.binds, f0, f1, f2, f3, f4, f5, f6, f7, f8])).elim
          have f10 : L[10]? = some true := by
            cases hb : L[10]? with
            | none => have := (Array.getElem?_eq_none_iff.1 hb); omega
            | some b =>
              cases b with
              | true => rfl
              | false => exact (ready_nil hr hb (by rfl) (by simp [Region.binds, f0, f1, f2, f3, f4, f5, f6, f7, f8, f9])).elim
          have f11 : L[11]? = some true := by
            cases hb : L[11]? with
            | none => have := (Array.getElem?_eq_none_iff.1 hb); omega
            | some b =>
              cases b with
              | true => rfl
              | false => exact (ready_nil hr hb (by rfl) (by simp [Region.binds, f0, f1, f2, f3, f4, f5, f6, f7, f8, f9, f10])).elim
          have f12 : L[12]? = some true := by
            cases hb : L[12]? with
            | none => have := (Array.getElem?_eq_none_iff.1 hb); omega
            | some b =>
              cases b with
              | true => rfl
              | false => exact (ready_nil hr hb (by rfl) (by simp [Region.binds, f0, f1, f2, f3, f4, f5, f6, f7, f8, f9, f10, f11])).elim
          have f13 : L[13]? = some true := by
            cases hb : L[13]? with
            | none => have := (Array.getElem?_eq_none_iff.1 hb); omega
            | some b =>
              cases b with
              | true => rfl
              | false => exact (ready_nil hr hb (by rfl) (by simp [Region.binds, f0, f1, f2, f3, f4, f5, f6, f7, f8, f9, f10, f11, f12])).elim
          have f14 : L[14]? = some true := by
            cases hb : L[14]? with
            | none => have := (Array.getElem?_eq_none_iff.1 hb); omega
            | some b =>
              cases b with
              | true => rfl
              | false => exact (ready_nil hr hb (by rfl) (by simp [Region.binds, f0, f1, f2, f3, f4, f5, f6, f7, f8, f9, f10, f11, f12, f13])).elim
          have f15 : L[15]? = some true := by
            cases hb : L[15]? with
            | none => have := (Array.getElem?_eq_none_iff.1 hb); omega
            | some b =>
              cases b with
              | true => rfl
              | false => exact (ready_nil hr hb (by rfl) (by simp [Region.binds, f0, f1, f2, f3, f4, f5, f6, f7, f8, f9, f10, f11, f12, f13, f14])).elim
          have f16 : L[16]? = some true := by
            cases hb : L[16]? with
            | none => have := (Array.getElem?_eq_none_iff.1 hb); omega
            | some b =>
              cases b with
              | true => rfl
              | false => exact (ready_nil hr hb (by rfl) (by simp [Region.binds, f0, f1, f2, f3, f4, f5, f6, f7, f8, f9, f10, f11, f12, f13, f14, f15])).elim
          have f17 : L[17]? = some true := by
            cases hb : L[17]? with
            | none => have := (Array.getElem?_eq_none_iff.1 hb); omega
            | some b =>
              cases b with
              | true => rfl
              | false => exact (ready_nil hr hb (by rfl) (by simp [Region.binds, f0, f1, f2, f3, f4, f5, f6, f7, f8, f9, f10, f11, f12, f13, f14, f15, f16])).elim
          obtain ⟨B0, cs, hp0, hy0, hh0⟩ := z17 f16
          obtain ⟨a0, n0, c0, b0, m0, d0, hz, hl0, hm0⟩ := z6 f6
          rw [hz] at hy0
          obtain rfl := (Value.agg.inj hy0).symm
          subst hp0
          obtain ⟨B1, cs, hp1, hy1, hh1⟩ := z18 f17
          obtain ⟨a1, n1, c1, b1, m1, d1, hz, hl1, hm1⟩ := z13 f13
          rw [hz] at hy1
          obtain rfl := (Value.agg.inj hy1).symm
          subst hp1
          have HF := Lib.hid (show VW wz B0 32 D4 a0 n0 c0 P4 D5 b0 m0 d0 P5 ∧ VW wz B1 33 D4 a1 n1 c1 P4 D5 b1 m1 d1 P5 ∧ Below X2.heap.size X2 wz from ⟨⟨hh0, hl0.la.mono (by omega), hm0.la.mono (by omega)⟩, ⟨hh1, hl1.la.mono (by omega), hm1.la.mono (by omega)⟩, hbel⟩)
          go_wp2_with fail
          go_meet
          exact ⟨_, _, _, _, _, _, _, _, _, _, _, _, _, _, rfl, rfl, HF⟩
      case rest =>
        obtain ⟨V11, a28, n28, c28, a29, n29, c29, V12, a30, n30, c30, a31, n31, c31, rfl, rfl, HF⟩ := hcut
        obtain ⟨X3, rfl⟩ : ∃ X, X = wc := ⟨_, rfl⟩
        obtain ⟨hv11, hv12, hX⟩ := HF.out
        have HX := Lib.hid hX
        have hB := (HS.out X3 hX).1
        have HS := Lib.hid (fun (wx : World) (hx : Below X3.heap.size X3 wx) => (by
            have hw : Below w.heap.size w wx := hB.trans (hx.mono hB.size)
            have hold := HS.out wx (HX.out.trans (hx.mono HX.out.size))
            have r0 := block_below hv11.1 hx
            have r1 := block_below hv12.1 hx
            exact ⟨hw, hold.2.1, hold.2.2.1, hold.2.2.2.1, hold.2.2.2.2.1, hold.2.2.2.2.2.1, hold.2.2.2.2.2.2.1, hold.2.2.2.2.2.2.2.1, hold.2.2.2.2.2.2.2.2.1, hold.2.2.2.2.2.2.2.2.2.1, hold.2.2.2.2.2.2.2.2.2.2.1, hold.2.2.2.2.2.2.2.2.2.2.2.1, hold.2.2.2.2.2.2.2.2.2.2.2.2.1, hold.2.2.2.2.2.2.2.2.2.2.2.2.2.1, hold.2.2.2.2.2.2.2.2.2.2.2.2.2.2.1, hold.2.2.2.2.2.2.2.2.2.2.2.2.2.2.2.1, hold.2.2.2.2.2.2.2.2.2.2.2.2.2.2.2.2.1, hold.2.2.2.2.2.2.2.2.2.2.2.2.2.2.2.2.2.1, hold.2.2.2.2.2.2.2.2.2.2.2.2.2.2.2.2.2.2.1, hold.2.2.2.2.2.2.2.2.2.2.2.2.2.2.2.2.2.2.2.1, hold.2.2.2.2.2.2.2.2.2.2.2.2.2.2.2.2.2.2.2.2.1, hold.2.2.2.2.2.2.2.2.2.2.2.2.2.2.2.2.2.2.2.2.2.1, hold.2.2.2.2.2.2.2.2.2.2.2.2.2.2.2.2.2.2.2.2.2.2.1, hold.2.2.2.2.2.2.2.2.2.2.2.2.2.2.2.2.2.2.2.2.2.2.2.1, hold.2.2.2.2.2.2.2.2.2.2.2.2.2.2.2.2.2.2.2.2.2.2.2.2.1, hold.2.2.2.2.2.2.2.2.2.2.2.2.2.2.2.2.2.2.2.2.2.2.2.2.2.1, hold.2.2.2.2.2.2.2.2.2.2.2.2.2.2.2.2.2.2.2.2.2.2.2.2.2.2.1, hold.2.2.2.2.2.2.2.2.2.2.2.2.2.2.2.2.2.2.2.2.2.2.2.2.2.2.2.1, hold.2.2.2.2.2.2.2.2.2.2.2.2.2.2.2.2.2.2.2.2.2.2.2.2.2.2.2.2.1, hold.2.2.2.2.2.2.2.2.2.2.2.2.2.2.2.2.2.2.2.2.2.2.2.2.2.2.2.2.2.1, hold.2.2.2.2.2.2.2.2.2.2.2.2.2.2.2.2.2.2.2.2.2.2.2.2.2.2.2.2.2.2.1, by rw [cell_of_row _ _ 0 _ 32 (0, 0) r0]; rfl, by rw [cell_of_row _ _ 1 _ 32 (0, 0) r0]; rfl, by rw [cell_of_row _ _ 2 _ 32 (0, 0) r0]; rfl, by rw [cell_of_row _ _ 3 _ 32 (0, 0) r0]; rfl, by rw [cell_of_row _ _ 0 _ 33 (0, 0) r1]; rfl, by rw [cell_of_row _ _ 1 _ 33 (0, 0) r1]; rfl, by rw [cell_of_row _ _ 2 _ 33 (0, 0) r1]; rfl, by rw [cell_of_row _ _ 3 _ 33 (0, 0) r1]; rfl, hold.2.2.2.2.2.2.2.2.2.2.2.2.2.2.2.2.2.2.2.2.2.2.2.2.2.2.2.2.2.2.2.1, hold.2.2.2.2.2.2.2.2.2.2.2.2.2.2.2.2.2.2.2.2.2.2.2.2.2.2.2.2.2.2.2.2.1, hold.2.2.2.2.2.2.2.2.2.2.2.2.2.2.2.2.2.2.2.2.2.2.2.2.2.2.2.2.2.2.2.2.2.1, hold.2.2.2.2.2.2.2.2.2.2.2.2.2.2.2.2.2.2.2.2.2.2.2.2.2.2.2.2.2.2.2.2.2.2.1, hold.2.2.2.2.2.2.2.2.2.2.2.2.2.2.2.2.2.2.2.2.2.2.2.2.2.2.2.2.2.2.2.2.2.2.2.1, hold.2.2.2.2.2.2.2.2.2.2.2.2.2.2.2.2.2.2.2.2.2.2.2.2.2.2.2.2.2.2.2.2.2.2.2.2.1, hold.2.2.2.2.2.2.2.2.2.2.2.2.2.2.2.2.2.2.2.2.2.2.2.2.2.2.2.2.2.2.2.2.2.2.2.2.2.1, hold.2.2.2.2.2.2.2.2.2.2.2.2.2.2.2.2.2.2.2.2.2.2.2.2.2.2.2.2.2.2.2.2.2.2.2.2.2.2.1, hold.2.2.2.2.2.2.2.2.2.2.2.2.2.2.2.2.2.2.2.2.2.2.2.2.2.2.2.2.2.2.2.2.2.2.2.2.2.2.2.1, hold.2.2.2.2.2.2.2.2.2.2.2.2.2.2.2.2.2.2.2.2.2.2.2.2.2.2.2.2.2.2.2.2.2.2.2.2.2.2.2.2.1, hold.2.2.2.2.2.2.2.2.2.2.2.2.2.2.2.2.2.2.2.2.2.2.2.2.2.2.2.2.2.2.2.2.2.2.2.2.2.2.2.2.2.1, hold.2.2.2.2.2.2.2.2.2.2.2.2.2.2.2.2.2.2.2.2.2.2.2.2.2.2.2.2.2.2.2.2.2.2.2.2.2.2.2.2.2.2.1, hold.2.2.2.2.2.2.2.2.2.2.2.2.2.2.2.2.2.2.2.2.2.2.2.2.2.2.2.2.2.2.2.2.2.2.2.2.2.2.2.2.2.2.2.1, hold.2.2.2.2.2.2.2.2.2.2.2.2.2.2.2.2.2.2.2.2.2.2.2.2.2.2.2.2.2.2.2.2.2.2.2.2.2.2.2.2.2.2.2.2.1, hold.2.2.2.2.2.2.2.2.2.2.2.2.2.2.2.2.2.2.2.2.2.2.2.2.2.2.2.2.2.2.2.2.2.2.2.2.2.2.2.2.2.2.2.2.2, hv11.2.1.below hx, hv11.2.2.below hx, hv12.2.1.below hx, hv12.2.2.below hx⟩ : Below w.heap.size w wx ∧ wx.cell? ⟨w.heap.size, 0, none⟩ = some (.int .i64 S0) ∧ wx.cell? ⟨w.heap.size, 1, none⟩ = some (.slice sa0 sn0 sc0) ∧ wx.cell? ⟨w.heap.size, 2, none⟩ = some (.int .i64 S1) ∧ wx.cell? ⟨w.heap.size, 3, none⟩ = some (.slice sa1 sn1 sc1) ∧ wx.cell? ⟨w.heap.size, 4, none⟩ = some (.int .i64 S2) ∧ wx.cell? ⟨w.heap.size, 5, none⟩ = some (.slice sa2 sn2 sc2) ∧ wx.cell? ⟨w.heap.size, 6, none⟩ = some (.int .i64 S3) ∧ wx.cell? ⟨w.heap.size, 7, none⟩ = some (.slice sa3 sn3 sc3) ∧ wx.cell? ⟨w.heap.size + 1, 0, none⟩ = some (.int .i64 S4) ∧ wx.cell? ⟨w.heap.size + 1, 1, none⟩ = some (.slice sa4 sn4 sc4) ∧ wx.cell? ⟨w.heap.size + 1, 2, none⟩ = some (.int .i64 S5) ∧ wx.cell? ⟨w.heap.size + 1, 3, none⟩ = some (.slice sa5 sn5 sc5) ∧ wx.cell? ⟨w.heap.size + 1, 4, none⟩ = some (.int .i64 S6) ∧ wx.cell? ⟨w.heap.size + 1, 5, none⟩ = some (.slice sa6 sn6 sc6) ∧ wx.cell? ⟨V7, 0, none⟩ = some (.int .i64 D0) ∧ wx.cell? ⟨V7, 1, none⟩ = some (.slice a20 n20 c20) ∧ wx.cell? ⟨V7, 2, none⟩ = some (.int .i64 D1) ∧ wx.cell? ⟨V7, 3, none⟩ = some (.slice a21 n21 c21) ∧ wx.cell? ⟨V8, 0, none⟩ = some (.int .i64 D0) ∧ wx.cell? ⟨V8, 1, none⟩ = some (.slice a22 n22 c22) ∧ wx.cell? ⟨V8, 2, none⟩ = some (.int .i64 D1) ∧ wx.cell? ⟨V8, 3, none⟩ = some (.slice a23 n23 c23) ∧ wx.cell? ⟨V9, 0, none⟩ = some (.int .i64 D2) ∧ wx.cell? ⟨V9, 1, none⟩ = some (.slice a24 n24 c24) ∧ wx.cell? ⟨V9, 2, none⟩ = some (.int .i64 D3) ∧ wx.cell? ⟨V9, 3, none⟩ = some (.slice a25 n25 c25) ∧ wx.cell? ⟨V10, 0, none⟩ = some (.int .i64 D2) ∧ wx.cell? ⟨V10, 1, none⟩ = some (.slice a26 n26 c26) ∧ wx.cell? ⟨V10, 2, none⟩ = some (.int .i64 D3) ∧ wx.cell? ⟨V10, 3, none⟩ = some (.slice a27 n27 c27) ∧ wx.cell? ⟨V11, 0, none⟩ = some (.int .i64 D4) ∧ wx.cell? ⟨V11, 1, none⟩ = some (.slice a28 n28 c28) ∧ wx.cell? ⟨V11, 2, none⟩ = some (.int .i64 D5) ∧ wx.cell? ⟨V11, 3, none⟩ = some (.slice a29 n29 c29) ∧ wx.cell? ⟨V12, 0, none⟩ = some (.int .i64 D4) ∧ wx.cell? ⟨V12, 1, none⟩ = some (.slice a30 n30 c30) ∧ wx.cell? ⟨V12, 2, none⟩ = some (.int .i64 D5) ∧ wx.cell? ⟨V12, 3, none⟩ = some (.slice a31 n31 c31) ∧ IntsL wx (.slice sa0 sn0 sc0) ls0 ∧ IntsL wx (.slice sa1 sn1 sc1) ls1 ∧ IntsL wx (.slice sa2 sn2 sc2) ls2 ∧ IntsL wx (.slice sa3 sn3 sc3) ls3 ∧ IntsL wx (.slice sa4 sn4 sc4) ls4 ∧ IntsL wx (.slice sa5 sn5 sc5) ls5 ∧ IntsL wx (.slice sa6 sn6 sc6) ls6 ∧ LA 12 wx D0 a20 n20 c20 P0 ∧ LA 12 wx D1 a21 n21 c21 P1 ∧ LA 12 wx D0 a22 n22 c22 P0 ∧ LA 12 wx D1 a23 n23 c23 P1 ∧ LA 12 wx D2 a24 n24 c24 P2 ∧ LA 12 wx D3 a25 n25 c25 P3 ∧ LA 12 wx D2 a26 n26 c26 P2 ∧ LA 12 wx D3 a27 n27 c27 P3 ∧ LA 12 wx D4 a28 n28 c28 P4 ∧ LA 12 wx D5 a29 n29 c29 P5 ∧ LA 12 wx D4 a30 n30 c30 P4 ∧ LA 12 wx D5 a31 n31 c31 P5))
        clear hv11 hv12 hX hB HF KS0 KS1 KS2 KS3 KS4 KS5 KS6
        clear HX
        have hHeld := Below.refl X3.heap.size X3
        go_upto_region 6 with fail
        have HH := Lib.hid hHeld
        obtain ⟨_, f0, f1, f2, f3, f4, f5, f6, f7, f8, f9, f10, f11, f12, f13, f14, f15, f16, f17, f18, f19, f20, f21, f22, f23, f24, f25, f26, f27, f28, f29, f30, f31, f32, f33, f34, f35, f36, f37, gs0, gs1, gs2, gs3, gs4, gs5, gs6, g20, g21, g22, g23, g24, g25, g26, g27, g28, g29, g30, g31⟩ := HS.out _ hHeld
        have CC := Lib.hid (CS6.out _ gs6)
        clear hHeld gs0 gs1 gs2 gs3 gs4 gs5 gs6 g20 g21 g22 g23 g24 g25 g26 g27 g28 g29 g30 g31
        go_wp2_with fail
        refine CC.out.mono ?_
        clear CC f0 f1 f2 f3 f4 f5 f6 f7 f8 f9 f10 f11 f12 f13 f14 f15 f16 f17 f18 f19 f20 f21 f22 f23 f24 f25 f26 f27 f28 f29 f30 f31 f32 f33 f34 f35 f36 f37
        rintro e wz1 ⟨a40, n40, c40, rfl, l40, hb⟩
        have hHeld := HH.out.trans (hb.mono HH.out.size)
        clear HH hb
        have hb3 := below_alloc1 wz1 (Obj.cells #[.int .i64 D6, .slice a40 n40 c40] 29)
        obtain ⟨Xh, eX⟩ : ∃ X, X = wz1.alloc (Obj.cells #[.int .i64 D6, .slice a40 n40 c40] 29) := ⟨_, rfl⟩
        have HK := Lib.hid (show Xh.heap[wz1.heap.size]? = some (Obj.cells #[.int .i64 D6, .slice a40 n40 c40] 29) from by rw [eX]; exact heap_alloc_new _ _)
        have HXh := Lib.hid (show Below X3.heap.size X3 Xh from by rw [eX]; exact hHeld.trans (hb3.mono hHeld.size))
        have HL40 := Lib.hid (show LA 12 Xh D6 a40 n40 c40 P6 from by rw [eX]; exact (l40.la.below hb3).mono (by omega))
        clear hb3 hHeld l40
        go_upto_region 7 with fail
        rw [← eX]
        obtain ⟨Vh, eA⟩ : ∃ A, A = wz1.heap.size := ⟨_, rfl⟩
        rw [← eA] at HK ⊢
        clear eX eA
        have hk0 := HK.out
        have hB := (HS.out Xh HXh.out).1
        have HS := Lib.hid (fun (wx : World) (hx : Below Xh.heap.size Xh wx) => (by
            have hw : Below w.heap.size w wx := hB.trans (hx.mono hB.size)
            have hold := HS.out wx (HXh.out.trans (hx.mono HXh.out.size))
            have r0 := block_below hk0 hx
            exact ⟨hw, hold.2.1, hold.2.2.1, hold.2.2.2.1, hold.2.2.2.2.1, hold.2.2.2.2.2.1, hold.2.2.2.2.2.2.1, hold.2.2.2.2.2.2.2.1, hold.2.2.2.2.2.2.2.2.1, hold.2.2.2.2.2.2.2.2.2.1, hold.2.2.2.2.2.2.2.2.2.2.1, hold.2.2.2.2.2.2.2.2.2.2.2.1, hold.2.2.2.2.2.2.2.2.2.2.2.2.1, hold.2.2.2.2.2.2.2.2.2.2.2.2.2.1, hold.2.2.2.2.2.2.2.2.2.2.2.2.2.2.1, hold.2.2.2.2.2.2.2.2.2.2.2.2.2.2.2.1, hold.2.2.2.2.2.2.2.2.2.2.2.2.2.2.2.2.1, hold.2.2.2.2.2.2.2.2.2.2.2.2.2.2.2.2.2.1, hold.2.2.2.2.2.2.2.2.2.2.2.2.2.2.2.2.2.2.1, hold.2.2.2.2.2.2.2.2.2.2.2.2.2.2.2.2.2.2.2.1, hold.2.2.2.2.2.2.2.2.2.2.2.2.2.2.2.2.2.2.2.2.1, hold.2.2.2.2.2.2.2.2.2.2.2.2.2.2.2.2.2.2.2.2.2.1, hold.2.2.2.2.2.2.2.2.2.2.2.2.2.2.2.2.2.2.2.2.2.2.1, hold.2.2.2.2.2.2.2.2.2.2.2.2.2.2.2.2.2.2.2.2.2.2.2.1, hold.2.2.2.2.2.2.2.2.2.2.2.2.2.2.2.2.2.2.2.2.2.2.2.2.1, hold.2.2.2.2.2.2.2.2.2.2.2.2.2.2.2.2.2.2.2.2.2.2.2.2.2.1, hold.2.2.2.2.2.2.2.2.2.2.2.2.2.2.2.2.2.2.2.2.2.2.2.2.2.2.1, hold.2.2.2.2.2.2.2.2.2.2.2.2.2.2.2.2.2.2.2.2.2.2.2.2.2.2.2.1, hold.2.2.2.2.2.2.2.2.2.2.2.2.2.2.2.2.2.2.2.2.2.2.2.2.2.2.2.2.1, hold.2.2.2.2.2.2.2.2.2.2.2.2.2.2.2.2.2.2.2.2.2.2.2.2.2.2.2.2.2.1, hold.2.2.2.2.2.2.2.2.2.2.2.2.2.2.2.2.2.2.2.2.2.2.2.2.2.2.2.2.2.2.1, hold.2.2.2.2.2.2.2.2.2.2.2.2.2.2.2.2.2.2.2.2.2.2.2.2.2.2.2.2.2.2.2.1, hold.2.2.2.2.2.2.2.2.2.2.2.2.2.2.2.2.2.2.2.2.2.2.2.2.2.2.2.2.2.2.2.2.1, hold.2.2.2.2.2.2.2.2.2.2.2.2.2.2.2.2.2.2.2.2.2.2.2.2.2.2.2.2.2.2.2.2.2.1, hold.2.2.2.2.2.2.2.2.2.2.2.2.2.2.2.2.2.2.2.2.2.2.2.2.2.2.2.2.2.2.2.2.2.2.1, hold.2.2.2.2.2.2.2.2.2.2.2.2.2.2.2.2.2.2.2.2.2.2.2.2.2.2.2.2.2.2.2.2.2.2.2.1, hold.2.2.2.2.2.2.2.2.2.2.2.2.2.2.2.2.2.2.2.2.2.2.2.2.2.2.2.2.2.2.2.2.2.2.2.2.1, hold.2.2.2.2.2.2.2.2.2.2.2.2.2.2.2.2.2.2.2.2.2.2.2.2.2.2.2.2.2.2.2.2.2.2.2.2.2.1, hold.2.2.2.2.2.2.2.2.2.2.2.2.2.2.2.2.2.2.2.2.2.2.2.2.2.2.2.2.2.2.2.2.2.2.2.2.2.2.1, by rw [cell_of_row _ _ 0 _ 29 (0, 0) r0]; rfl, by rw [cell_of_row _ _ 1 _ 29 (0, 0) r0]; rfl, hold.2.2.2.2.2.2.2.2.2.2.2.2.2.2.2.2.2.2.2.2.2.2.2.2.2.2.2.2.2.2.2.2.2.2.2.2.2.2.2.1, hold.2.2.2.2.2.2.2.2.2.2.2.2.2.2.2.2.2.2.2.2.2.2.2.2.2.2.2.2.2.2.2.2.2.2.2.2.2.2.2.2.1, hold.2.2.2.2.2.2.2.2.2.2.2.2.2.2.2.2.2.2.2.2.2.2.2.2.2.2.2.2.2.2.2.2.2.2.2.2.2.2.2.2.2.1, hold.2.2.2.2.2.2.2.2.2.2.2.2.2.2.2.2.2.2.2.2.2.2.2.2.2.2.2.2.2.2.2.2.2.2.2.2.2.2.2.2.2.2.1, hold.2.2.2.2.2.2.2.2.2.2.2.2.2.2.2.2.2.2.2.2.2.2.2.2.2.2.2.2.2.2.2.2.2.2.2.2.2.2.2.2.2.2.2.1, hold.2.2.2.2.2.2.2.2.2.2.2.2.2.2.2.2.2.2.2.2.2.2.2.2.2.2.2.2.2.2.2.2.2.2.2.2.2.2.2.2.2.2.2.2.1, hold.2.2.2.2.2.2.2.2.2.2.2.2.2.2.2.2.2.2.2.2.2.2.2.2.2.2.2.2.2.2.2.2.2.2.2.2.2.2.2.2.2.2.2.2.2.1, hold.2.2.2.2.2.2.2.2.2.2.2.2.2.2.2.2.2.2.2.2.2.2.2.2.2.2.2.2.2.2.2.2.2.2.2.2.2.2.2.2.2.2.2.2.2.2.1, hold.2.2.2.2.2.2.2.2.2.2.2.2.2.2.2.2.2.2.2.2.2.2.2.2.2.2.2.2.2.2.2.2.2.2.2.2.2.2.2.2.2.2.2.2.2.2.2.1, hold.2.2.2.2.2.2.2.2.2.2.2.2.2.2.2.2.2.2.2.2.2.2.2.2.2.2.2.2.2.2.2.2.2.2.2.2.2.2.2.2.2.2.2.2.2.2.2.2.1, hold.2.2.2.2.2.2.2.2.2.2.2.2.2.2.2.2.2.2.2.2.2.2.2.2.2.2.2.2.2.2.2.2.2.2.2.2.2.2.2.2.2.2.2.2.2.2.2.2.2.1, hold.2.2.2.2.2.2.2.2.2.2.2.2.2.2.2.2.2.2.2.2.2.2.2.2.2.2.2.2.2.2.2.2.2.2.2.2.2.2.2.2.2.2.2.2.2.2.2.2.2.2.1, hold.2.2.2.2.2.2.2.2.2.2.2.2.2.2.2.2.2.2.2.2.2.2.2.2.2.2.2.2.2.2.2.2.2.2.2.2.2.2.2.2.2.2.2.2.2.2.2.2.2.2.2.1, hold.2.2.2.2.2.2.2.2.2.2.2.2.2.2.2.2.2.2.2.2.2.2.2.2.2.2.2.2.2.2.2.2.2.2.2.2.2.2.2.2.2.2.2.2.2.2.2.2.2.2.2.2.1, hold.2.2.2.2.2.2.2.2.2.2.2.2.2.2.2.2.2.2.2.2.2.2.2.2.2.2.2.2.2.2.2.2.2.2.2.2.2.2.2.2.2.2.2.2.2.2.2.2.2.2.2.2.2.1, hold.2.2.2.2.2.2.2.2.2.2.2.2.2.2.2.2.2.2.2.2.2.2.2.2.2.2.2.2.2.2.2.2.2.2.2.2.2.2.2.2.2.2.2.2.2.2.2.2.2.2.2.2.2.2.1, hold.2.2.2.2.2.2.2.2.2.2.2.2.2.2.2.2.2.2.2.2.2.2.2.2.2.2.2.2.2.2.2.2.2.2.2.2.2.2.2.2.2.2.2.2.2.2.2.2.2.2.2.2.2.2.2.1, hold.2.2.2.2.2.2.2.2.2.2.2.2.2.2.2.2.2.2.2.2.2.2.2.2.2.2.2.2.2.2.2.2.2.2.2.2.2.2.2.2.2.2.2.2.2.2.2.2.2.2.2.2.2.2.2.2.1, hold.2.2.2.2.2.2.2.2.2.2.2.2.2.2.2.2.2.2.2.2.2.2.2.2.2.2.2.2.2.2.2.2.2.2.2.2.2.2.2.2.2.2.2.2.2.2.2.2.2.2.2.2.2.2.2.2.2, HL40.out.below hx⟩ : Below w.heap.size w wx ∧ wx.cell? ⟨w.heap.size, 0, none⟩ = some (.int .i64 S0) ∧ wx.cell? ⟨w.heap.size, 1, none⟩ = some (.slice sa0 sn0 sc0) ∧ wx.cell? ⟨w.heap.size, 2, none⟩ = some (.int .i64 S1) ∧ wx.cell? ⟨w.heap.size, 3, none⟩ = some (.slice sa1 sn1 sc1) ∧ wx.cell? ⟨w.heap.size, 4, none⟩ = some (.int .i64 S2) ∧ wx.cell? ⟨w.heap.size, 5, none⟩ = some (.slice sa2 sn2 sc2) ∧ wx.cell? ⟨w.heap.size, 6, none⟩ = some (.int .i64 S3) ∧ wx.cell? ⟨w.heap.size, 7, none⟩ = some (.slice sa3 sn3 sc3) ∧ wx.cell? ⟨w.heap.size + 1, 0, none⟩ = some (.int .i64 S4) ∧ wx.cell? ⟨w.heap.size + 1, 1, none⟩ = some (.slice sa4 sn4 sc4) ∧ wx.cell? ⟨w.heap.size + 1, 2, none⟩ = some (.int .i64 S5) ∧ wx.cell? ⟨w.heap.size + 1, 3, none⟩ = some (.slice sa5 sn5 sc5) ∧ wx.cell? ⟨w.heap.size + 1, 4, none⟩ = some (.int .i64 S6) ∧ wx.cell? ⟨w.heap.size + 1, 5, none⟩ = some (.slice sa6 sn6 sc6) ∧ wx.cell? ⟨V7, 0, none⟩ = some (.int .i64 D0) ∧ wx.cell? ⟨V7, 1, none⟩ = some (.slice a20 n20 c20) ∧ wx.cell? ⟨V7, 2, none⟩ = some (.int .i64 D1) ∧ wx.cell? ⟨V7, 3, none⟩ = some (.slice a21 n21 c21) ∧ wx.cell? ⟨V8, 0, none⟩ = some (.int .i64 D0) ∧ wx.cell? ⟨V8, 1, none⟩ = some (.slice a22 n22 c22) ∧ wx.cell? ⟨V8, 2, none⟩ = some (.int .i64 D1) ∧ wx.cell? ⟨V8, 3, none⟩ = some (.slice a23 n23 c23) ∧ wx.cell? ⟨V9, 0, none⟩ = some (.int .i64 D2) ∧ wx.cell? ⟨V9, 1, none⟩ = some (.slice a24 n24 c24) ∧ wx.cell? ⟨V9, 2, none⟩ = some (.int .i64 D3) ∧ wx.cell? ⟨V9, 3, none⟩ = some (.slice a25 n25 c25) ∧ wx.cell? ⟨V10, 0, none⟩ = some (.int .i64 D2) ∧ wx.cell? ⟨V10, 1, none⟩ = some (.slice a26 n26 c26) ∧ wx.cell? ⟨V10, 2, none⟩ = some (.int .i64 D3) ∧ wx.cell? ⟨V10, 3, none⟩ = some (.slice a27 n27 c27) ∧ wx.cell? ⟨V11, 0, none⟩ = some (.int .i64 D4) ∧ wx.cell? ⟨V11, 1, none⟩ = some (.slice a28 n28 c28) ∧ wx.cell? ⟨V11, 2, none⟩ = some (.int .i64 D5) ∧ wx.cell? ⟨V11, 3, none⟩ = some (.slice a29 n29 c29) ∧ wx.cell? ⟨V12, 0, none⟩ = some (.int .i64 D4) ∧ wx.cell? ⟨V12, 1, none⟩ = some (.slice a30 n30 c30) ∧ wx.cell? ⟨V12, 2, none⟩ = some (.int .i64 D5) ∧ wx.cell? ⟨V12, 3, none⟩ = some (.slice a31 n31 c31) ∧ wx.cell? ⟨Vh, 0, none⟩ = some (.int .i64 D6) ∧ wx.cell? ⟨Vh, 1, none⟩ = some (.slice a40 n40 c40) ∧ IntsL wx (.slice sa0 sn0 sc0) ls0 ∧ IntsL wx (.slice sa1 sn1 sc1) ls1 ∧ IntsL wx (.slice sa2 sn2 sc2) ls2 ∧ IntsL wx (.slice sa3 sn3 sc3) ls3 ∧ IntsL wx (.slice sa4 sn4 sc4) ls4 ∧ IntsL wx (.slice sa5 sn5 sc5) ls5 ∧ IntsL wx (.slice sa6 sn6 sc6) ls6 ∧ LA 12 wx D0 a20 n20 c20 P0 ∧ LA 12 wx D1 a21 n21 c21 P1 ∧ LA 12 wx D0 a22 n22 c22 P0 ∧ LA 12 wx D1 a23 n23 c23 P1 ∧ LA 12 wx D2 a24 n24 c24 P2 ∧ LA 12 wx D3 a25 n25 c25 P3 ∧ LA 12 wx D2 a26 n26 c26 P2 ∧ LA 12 wx D3 a27 n27 c27 P3 ∧ LA 12 wx D4 a28 n28 c28 P4 ∧ LA 12 wx D5 a29 n29 c29 P5 ∧ LA 12 wx D4 a30 n30 c30 P4 ∧ LA 12 wx D5 a31 n31 c31 P5 ∧ LA 12 wx D6 a40 n40 c40 P6))
        clear hk0 hB HK
        have hHeld := Below.refl Xh.heap.size Xh
        go_upto_region 8 with fail
        rw [EC.out]
        obtain ⟨bf, EBF⟩ : ∃ b, Hid (fr D0 P0 D1 P1 c = b) := ⟨_, Lib.hid rfl⟩
        have HH := Lib.hid hHeld
        obtain ⟨_, f0, f1, f2, f3, f4, f5, f6, f7, f8, f9, f10, f11, f12, f13, f14, f15, f16, f17, f18, f19, f20, f21, f22, f23, f24, f25, f26, f27, f28, f29, f30, f31, f32, f33, f34, f35, f36, f37, f38, f39, gs0, gs1, gs2, gs3, gs4, gs5, gs6, g20, g21, g22, g23, g24, g25, g26, g27, g28, g29, g30, g31, g40⟩ := HS.out _ hHeld
        have CC := fresh_m (x := c) (g20.mono (by omega)) (g21.mono (by omega)) (by have := HC.out; omega) (by have := HC.out; omega)
        rw [EBF.out] at CC
        have CC := Lib.hid CC
        clear hHeld gs0 gs1 gs2 gs3 gs4 gs5 gs6 g20 g21 g22 g23 g24 g25 g26 g27 g28 g29 g30 g31 g40
        go_wp2_with fail
        refine CC.out.mono ?_
        clear CC f0 f1 f2 f3 f4 f5 f6 f7 f8 f9 f10 f11 f12 f13 f14 f15 f16 f17 f18 f19 f20 f21 f22 f23 f24 f25 f26 f27 f28 f29 f30 f31 f32 f33 f34 f35 f36 f37 f38 f39
        rintro e wf8 ⟨a41, n41, c41, a42, n42, c42, rfl, hl41, hl42, hb⟩
        have hHeld := HH.out.trans (hb.mono HH.out.size)
        clear HH hb
        have hb3 := below_alloc1 wf8 (Obj.cells #[.int .i64 D0, .slice a41 n41 c41, .int .i64 D1, .slice a42 n42 c42] 32)
        obtain ⟨Xa, eX⟩ : ∃ X, X = wf8.alloc (Obj.cells #[.int .i64 D0, .slice a41 n41 c41, .int .i64 D1, .slice a42 n42 c42] 32) := ⟨_, rfl⟩
        have HK := Lib.hid (show Xa.heap[wf8.heap.size]? = some (Obj.cells #[.int .i64 D0, .slice a41 n41 c41, .int .i64 D1, .slice a42 n42 c42] 32) from by rw [eX]; exact heap_alloc_new _ _)
        have HXa := Lib.hid (show Below Xh.heap.size Xh Xa from by rw [eX]; exact hHeld.trans (hb3.mono hHeld.size))
        have HL41 := Lib.hid (show LA 201 Xa D0 a41 n41 c41 (Lab.put D0 P0 c 0) from by rw [eX]; exact (hl41.below hb3).mono (by omega))
        have HL42 := Lib.hid (show LA 201 Xa D1 a42 n42 c42 (Lab.put D1 P1 c 4) from by rw [eX]; exact (hl42.below hb3).mono (by omega))
        clear hb3 hHeld
        go_upto_region 9 with fail
        rw [← eX]
        obtain ⟨Va, eA⟩ : ∃ A, A = wf8.heap.size := ⟨_, rfl⟩
        rw [← eA] at HK ⊢
        clear eX eA
        have hk0 := HK.out
        have hB := (HS.out Xa HXa.out).1
        have HS := Lib.hid (fun (wx : World) (hx : Below Xa.heap.size Xa wx) => (by
            have hw : Below w.heap.size w wx := hB.trans (hx.mono hB.size)
            have hold := HS.out wx (HXa.out.trans (hx.mono HXa.out.size))
            have r0 := block_below hk0 hx
            exact ⟨hw, hold.2.1, hold.2.2.1, hold.2.2.2.1, hold.2.2.2.2.1, hold.2.2.2.2.2.1, hold.2.2.2.2.2.2.1, hold.2.2.2.2.2.2.2.1, hold.2.2.2.2.2.2.2.2.1, hold.2.2.2.2.2.2.2.2.2.1, hold.2.2.2.2.2.2.2.2.2.2.1, hold.2.2.2.2.2.2.2.2.2.2.2.1, hold.2.2.2.2.2.2.2.2.2.2.2.2.1, hold.2.2.2.2.2.2.2.2.2.2.2.2.2.1, hold.2.2.2.2.2.2.2.2.2.2.2.2.2.2.1, hold.2.2.2.2.2.2.2.2.2.2.2.2.2.2.2.1, hold.2.2.2.2.2.2.2.2.2.2.2.2.2.2.2.2.1, hold.2.2.2.2.2.2.2.2.2.2.2.2.2.2.2.2.2.1, hold.2.2.2.2.2.2.2.2.2.2.2.2.2.2.2.2.2.2.1, hold.2.2.2.2.2.2.2.2.2.2.2.2.2.2.2.2.2.2.2.1, hold.2.2.2.2.2.2.2.2.2.2.2.2.2.2.2.2.2.2.2.2.1, hold.2.2.2.2.2.2.2.2.2.2.2.2.2.2.2.2.2.2.2.2.2.1, hold.2.2.2.2.2.2.2.2.2.2.2.2.2.2.2.2.2.2.2.2.2.2.1, hold.2.2.2.2.2.2.2.2.2.2.2.2.2.2.2.2.2.2.2.2.2.2.2.1, hold.2.2.2.2.2.2.2.2.2.2.2.2.2.2.2.2.2.2.2.2.2.2.2.2.1, hold.2.2.2.2.2.2.2.2.2.2.2.2.2.2.2.2.2.2.2.2.2.2.2.2.2.1, hold.2.2.2.2.2.2.2.2.2.2.2.2.2.2.2.2.2.2.2.2.2.2.2.2.2.2.1, hold.2.2.2.2.2.2.2.2.2.2.2.2.2.2.2.2.2.2.2.2.2.2.2.2.2.2.2.1, hold.2.2.2.2.2.2.2.2.2.2.2.2.2.2.2.2.2.2.2.2.2.2.2.2.2.2.2.2.1, hold.2.2.2.2.2.2.2.2.2.2.2.2.2.2.2.2.2.2.2.2.2.2.2.2.2.2.2.2.2.1, hold.2.2.2.2.2.2.2.2.2.2.2.2.2.2.2.2.2.2.2.2.2.2.2.2.2.2.2.2.2.2.1, hold.2.2.2.2.2.2.2.2.2.2.2.2.2.2.2.2.2.2.2.2.2.2.2.2.2.2.2.2.2.2.2.1, hold.2.2.2.2.2.2.2.2.2.2.2.2.2.2.2.2.2.2.2.2.2.2.2.2.2.2.2.2.2.2.2.2.1, hold.2.2.2.2.2.2.2.2.2.2.2.2.2.2.2.2.2.2.2.2.2.2.2.2.2.2.2.2.2.2.2.2.2.1, hold.2.2.2.2.2.2.2.2.2.2.2.2.2.2.2.2.2.2.2.2.2.2.2.2.2.2.2.2.2.2.2.2.2.2.1, hold.2.2.2.2.2.2.2.2.2.2.2.2.2.2.2.2.2.2.2.2.2.2.2.2.2.2.2.2.2.2.2.2.2.2.2.1, hold.2.2.2.2.2.2.2.2.2.2.2.2.2.2.2.2.2.2.2.2.2.2.2.2.2.2.2.2.2.2.2.2.2.2.2.2.1, hold.2.2.2.2.2.2.2.2.2.2.2.2.2.2.2.2.2.2.2.2.2.2.2.2.2.2.2.2.2.2.2.2.2.2.2.2.2.1, hold.2.2.2.2.2.2.2.2.2.2.2.2.2.2.2.2.2.2.2.2.2.2.2.2.2.2.2.2.2.2.2.2.2.2.2.2.2.2.1, hold.2.2.2.2.2.2.2.2.2.2.2.2.2.2.2.2.2.2.2.2.2.2.2.2.2.2.2.2.2.2.2.2.2.2.2.2.2.2.2.1, hold.2.2.2.2.2.2.2.2.2.2.2.2.2.2.2.2.2.2.2.2.2.2.2.2.2.2.2.2.2.2.2.2.2.2.2.2.2.2.2.2.1, by rw [cell_of_row _ _ 0 _ 32 (0, 0) r0]; rfl, by rw [cell_of_row _ _ 1 _ 32 (0, 0) r0]; rfl, by rw [cell_of_row _ _ 2 _ 32 (0, 0) r0]; rfl, by rw [cell_of_row _ _ 3 _ 32 (0, 0) r0]; rfl, hold.2.2.2.2.2.2.2.2.2.2.2.2.2.2.2.2.2.2.2.2.2.2.2.2.2.2.2.2.2.2.2.2.2.2.2.2.2.2.2.2.2.1, hold.2.2.2.2.2.2.2.2.2.2.2.2.2.2.2.2.2.2.2.2.2.2.2.2.2.2.2.2.2.2.2.2.2.2.2.2.2.2.2.2.2.2.1, hold.2.2.2.2.2.2.2.2.2.2.2.2.2.2.2.2.2.2.2.2.2.2.2.2.2.2.2.2.2.2.2.2.2.2.2.2.2.2.2.2.2.2.2.1, hold.2.2.2.2.2.2.2.2.2.2.2.2.2.2.2.2.2.2.2.2.2.2.2.2.2.2.2.2.2.2.2.2.2.2.2.2.2.2.2.2.2.2.2.2.1, hold.2.2.2.2.2.2.2.2.2.2.2.2.2.2.2.2.2.2.2.2.2.2.2.2.2.2.2.2.2.2.2.2.2.2.2.2.2.2.2.2.2.2.2.2.2.1, hold.2.2.2.2.2.2.2.2.2.2.2.2.2.2.2.2.2.2.2.2.2.2.2.2.2.2.2.2.2.2.2.2.2.2.2.2.2.2.2.2.2.2.2.2.2.2.1, hold.2.2.2.2.2.2.2.2.2.2.2.2.2.2.2.2.2.2.2.2.2.2.2.2.2.2.2.2.2.2.2.2.2.2.2.2.2.2.2.2.2.2.2.2.2.2.2.1, hold.2.2.2.2.2.2.2.2.2.2.2.2.2.2.2.2.2.2.2.2.2.2.2.2.2.2.2.2.2.2.2.2.2.2.2.2.2.2.2.2.2.2.2.2.2.2.2.2.1, hold.2.2.2.2.2.2.2.2.2.2.2.2.2.2.2.2.2.2.2.2.2.2.2.2.2.2.2.2.2.2.2.2.2.2.2.2.2.2.2.2.2.2.2.2.2.2.2.2.2.1, hold.2.2.2.2.2.2.2.2.2.2.2.2.2.2.2.2.2.2.2.2.2.2.2.2.2.2.2.2.2.2.2.2.2.2.2.2.2.2.2.2.2.2.2.2.2.2.2.2.2.2.1, hold.2.2.2.2.2.2.2.2.2.2.2.2.2.2.2.2.2.2.2.2.2.2.2.2.2.2.2.2.2.2.2.2.2.2.2.2.2.2.2.2.2.2.2.2.2.2.2.2.2.2.2.1, hold.2.2.2.2.2.2.2.2.2.2.2.2.2.2.2.2.2.2.2.2.2.2.2.2.2.2.2.2.2.2.2.2.2.2.2.2.2.2.2.2.2.2.2.2.2.2.2.2.2.2.2.2.1, hold.2.2.2.2.2.2.2.2.2.2.2.2.2.2.2.2.2.2.2.2.2.2.2.2.2.2.2.2.2.2.2.2.2.2.2.2.2.2.2.2.2.2.2.2.2.2.2.2.2.2.2.2.2.1, hold.2.2.2.2.2.2.2.2.2.2.2.2.2.2.2.2.2.2.2.2.2.2.2.2.2.2.2.2.2.2.2.2.2.2.2.2.2.2.2.2.2.2.2.2.2.2.2.2.2.2.2.2.2.2.1, hold.2.2.2.2.2.2.2.2.2.2.2.2.2.2.2.2.2.2.2.2.2.2.2.2.2.2.2.2.2.2.2.2.2.2.2.2.2.2.2.2.2.2.2.2.2.2.2.2.2.2.2.2.2.2.2.1, hold.2.2.2.2.2.2.2.2.2.2.2.2.2.2.2.2.2.2.2.2.2.2.2.2.2.2.2.2.2.2.2.2.2.2.2.2.2.2.2.2.2.2.2.2.2.2.2.2.2.2.2.2.2.2.2.2.1, hold.2.2.2.2.2.2.2.2.2.2.2.2.2.2.2.2.2.2.2.2.2.2.2.2.2.2.2.2.2.2.2.2.2.2.2.2.2.2.2.2.2.2.2.2.2.2.2.2.2.2.2.2.2.2.2.2.2.1, hold.2.2.2.2.2.2.2.2.2.2.2.2.2.2.2.2.2.2.2.2.2.2.2.2.2.2.2.2.2.2.2.2.2.2.2.2.2.2.2.2.2.2.2.2.2.2.2.2.2.2.2.2.2.2.2.2.2.2.1, hold.2.2.2.2.2.2.2.2.2.2.2.2.2.2.2.2.2.2.2.2.2.2.2.2.2.2.2.2.2.2.2.2.2.2.2.2.2.2.2.2.2.2.2.2.2.2.2.2.2.2.2.2.2.2.2.2.2.2.2.1, hold.2.2.2.2.2.2.2.2.2.2.2.2.2.2.2.2.2.2.2.2.2.2.2.2.2.2.2.2.2.2.2.2.2.2.2.2.2.2.2.2.2.2.2.2.2.2.2.2.2.2.2.2.2.2.2.2.2.2.2.2, HL41.out.below hx, HL42.out.below hx⟩ : Below w.heap.size w wx ∧ wx.cell? ⟨w.heap.size, 0, none⟩ = some (.int .i64 S0) ∧ wx.cell? ⟨w.heap.size, 1, none⟩ = some (.slice sa0 sn0 sc0) ∧ wx.cell? ⟨w.heap.size, 2, none⟩ = some (.int .i64 S1) ∧ wx.cell? ⟨w.heap.size, 3, none⟩ = some (.slice sa1 sn1 sc1) ∧ wx.cell? ⟨w.heap.size, 4, none⟩ = some (.int .i64 S2) ∧ wx.cell? ⟨w.heap.size, 5, none⟩ = some (.slice sa2 sn2 sc2) ∧ wx.cell? ⟨w.heap.size, 6, none⟩ = some (.int .i64 S3) ∧ wx.cell? ⟨w.heap.size, 7, none⟩ = some (.slice sa3 sn3 sc3) ∧ wx.cell? ⟨w.heap.size + 1, 0, none⟩ = some (.int .i64 S4) ∧ wx.cell? ⟨w.heap.size + 1, 1, none⟩ = some (.slice sa4 sn4 sc4) ∧ wx.cell? ⟨w.heap.size + 1, 2, none⟩ = some (.int .i64 S5) ∧ wx.cell? ⟨w.heap.size + 1, 3, none⟩ = some (.slice sa5 sn5 sc5) ∧ wx.cell? ⟨w.heap.size + 1, 4, none⟩ = some (.int .i64 S6) ∧ wx.cell? ⟨w.heap.size + 1, 5, none⟩ = some (.slice sa6 sn6 sc6) ∧ wx.cell? ⟨V7, 0, none⟩ = some (.int .i64 D0) ∧ wx.cell? ⟨V7, 1, none⟩ = some (.slice a20 n20 c20) ∧ wx.cell? ⟨V7, 2, none⟩ = some (.int .i64 D1) ∧ wx.cell? ⟨V7, 3, none⟩ = some (.slice a21 n21 c21) ∧ wx.cell? ⟨V8, 0, none⟩ = some (.int .i64 D0) ∧ wx.cell? ⟨V8, 1, none⟩ = some (.slice a22 n22 c22) ∧ wx.cell? ⟨V8, 2, none⟩ = some (.int .i64 D1) ∧ wx.cell? ⟨V8, 3, none⟩ = some (.slice a23 n23 c23) ∧ wx.cell? ⟨V9, 0, none⟩ = some (.int .i64 D2) ∧ wx.cell? ⟨V9, 1, none⟩ = some (.slice a24 n24 c24) ∧ wx.cell? ⟨V9, 2, none⟩ = some (.int .i64 D3) ∧ wx.cell? ⟨V9, 3, none⟩ = some (.slice a25 n25 c25) ∧ wx.cell? ⟨V10, 0, none⟩ = some (.int .i64 D2) ∧ wx.cell? ⟨V10, 1, none⟩ = some (.slice a26 n26 c26) ∧ wx.cell? ⟨V10, 2, none⟩ = some (.int .i64 D3) ∧ wx.cell? ⟨V10, 3, none⟩ = some (.slice a27 n27 c27) ∧ wx.cell? ⟨V11, 0, none⟩ = some (.int .i64 D4) ∧ wx.cell? ⟨V11, 1, none⟩ = some (.slice a28 n28 c28) ∧ wx.cell? ⟨V11, 2, none⟩ = some (.int .i64 D5) ∧ wx.cell? ⟨V11, 3, none⟩ = some (.slice a29 n29 c29) ∧ wx.cell? ⟨V12, 0, none⟩ = some (.int .i64 D4) ∧ wx.cell? ⟨V12, 1, none⟩ = some (.slice a30 n30 c30) ∧ wx.cell? ⟨V12, 2, none⟩ = some (.int .i64 D5) ∧ wx.cell? ⟨V12, 3, none⟩ = some (.slice a31 n31 c31) ∧ wx.cell? ⟨Vh, 0, none⟩ = some (.int .i64 D6) ∧ wx.cell? ⟨Vh, 1, none⟩ = some (.slice a40 n40 c40) ∧ wx.cell? ⟨Va, 0, none⟩ = some (.int .i64 D0) ∧ wx.cell? ⟨Va, 1, none⟩ = some (.slice a41 n41 c41) ∧ wx.cell? ⟨Va, 2, none⟩ = some (.int .i64 D1) ∧ wx.cell? ⟨Va, 3, none⟩ = some (.slice a42 n42 c42) ∧ IntsL wx (.slice sa0 sn0 sc0) ls0 ∧ IntsL wx (.slice sa1 sn1 sc1) ls1 ∧ IntsL wx (.slice sa2 sn2 sc2) ls2 ∧ IntsL wx (.slice sa3 sn3 sc3) ls3 ∧ IntsL wx (.slice sa4 sn4 sc4) ls4 ∧ IntsL wx (.slice sa5 sn5 sc5) ls5 ∧ IntsL wx (.slice sa6 sn6 sc6) ls6 ∧ LA 12 wx D0 a20 n20 c20 P0 ∧ LA 12 wx D1 a21 n21 c21 P1 ∧ LA 12 wx D0 a22 n22 c22 P0 ∧ LA 12 wx D1 a23 n23 c23 P1 ∧ LA 12 wx D2 a24 n24 c24 P2 ∧ LA 12 wx D3 a25 n25 c25 P3 ∧ LA 12 wx D2 a26 n26 c26 P2 ∧ LA 12 wx D3 a27 n27 c27 P3 ∧ LA 12 wx D4 a28 n28 c28 P4 ∧ LA 12 wx D5 a29 n29 c29 P5 ∧ LA 12 wx D4 a30 n30 c30 P4 ∧ LA 12 wx D5 a31 n31 c31 P5 ∧ LA 12 wx D6 a40 n40 c40 P6 ∧ LA 201 wx D0 a41 n41 c41 (Lab.put D0 P0 c 0) ∧ LA 201 wx D1 a42 n42 c42 (Lab.put D1 P1 c 4)))
        clear hk0 hB HK
        have hHeld := Below.refl Xa.heap.size Xa
        have HH := Lib.hid hHeld
        obtain ⟨_, f0, f1, f2, f3, f4, f5, f6, f7, f8, f9, f10, f11, f12, f13, f14, f15, f16, f17, f18, f19, f20, f21, f22, f23, f24, f25, f26, f27, f28, f29, f30, f31, f32, f33, f34, f35, f36, f37, f38, f39, f40, f41, f42, f43, gs0, gs1, gs2, gs3, gs4, gs5, gs6, g20, g21, g22, g23, g24, g25, g26, g27, g28, g29, g30, g31, g40, g41, g42⟩ := HS.out _ hHeld
        have CC := rfresh_m (x := c) (g22.mono (by omega)) (g23.mono (by omega)) (by have := HC.out; omega) (by have := HC.out; omega)
        rw [EBF.out] at CC
        have CC := Lib.hid CC
        clear hHeld gs0 gs1 gs2 gs3 gs4 gs5 gs6 g20 g21 g22 g23 g24 g25 g26 g27 g28 g29 g30 g31 g40 g41 g42
        go_wp2_with fail
        refine CC.out.mono ?_
        clear CC f0 f1 f2 f3 f4 f5 f6 f7 f8 f9 f10 f11 f12 f13 f14 f15 f16 f17 f18 f19 f20 f21 f22 f23 f24 f25 f26 f27 f28 f29 f30 f31 f32 f33 f34 f35 f36 f37 f38 f39 f40 f41 f42 f43
        rintro e wf9 ⟨a43, n43, c43, a44, n44, c44, rfl, hl43, hl44, hb⟩
        have hHeld := HH.out.trans (hb.mono HH.out.size)
        clear HH hb
        have hb3 := below_alloc1 wf9 (Obj.cells #[.int .i64 D0, .slice a43 n43 c43, .int .i64 D1, .slice a44 n44 c44] 33)
        obtain ⟨Xb, eX⟩ : ∃ X, X = wf9.alloc (Obj.cells #[.int .i64 D0, .slice a43 n43 c43, .int .i64 D1, .slice a44 n44 c44] 33) := ⟨_, rfl⟩
        have HK := Lib.hid (show Xb.heap[wf9.heap.size]? = some (Obj.cells #[.int .i64 D0, .slice a43 n43 c43, .int .i64 D1, .slice a44 n44 c44] 33) from by rw [eX]; exact heap_alloc_new _ _)
        have HXb := Lib.hid (show Below Xa.heap.size Xa Xb from by rw [eX]; exact hHeld.trans (hb3.mono hHeld.size))
        have HL43 := Lib.hid (show LA 201 Xb D0 a43 n43 c43 (Lab.put D0 P0 c 0) from by rw [eX]; exact (hl43.below hb3).mono (by omega))
        have HL44 := Lib.hid (show LA 201 Xb D1 a44 n44 c44 (Lab.put D1 P1 c 4) from by rw [eX]; exact (hl44.below hb3).mono (by omega))
        clear hb3 hHeld
        go_upto_region 10 with fail
        rw [← eX]
        obtain ⟨Vb, eA⟩ : ∃ A, A = wf9.heap.size := ⟨_, rfl⟩
        rw [← eA] at HK ⊢
        clear eX eA
        have hk0 := HK.out
        have hB := (HS.out Xb HXb.out).1
        have HS := Lib.hid (fun (wx : World) (hx : Below Xb.heap.size Xb wx) => (by
            have hw : Below w.heap.size w wx := hB.trans (hx.mono hB.size)
            have hold := HS.out wx (HXb.out.trans (hx.mono HXb.out.size))
            have r0 := block_below hk0 hx
            exact ⟨hw, hold.2.1, hold.2.2.1, hold.2.2.2.1, hold.2.2.2.2.1, hold.2.2.2.2.2.1, hold.2.2.2.2.2.2.1, hold.2.2.2.2.2.2.2.1, hold.2.2.2.2.2.2.2.2.1, hold.2.2.2.2.2.2.2.2.2.1, hold.2.2.2.2.2.2.2.2.2.2.1, hold.2.2.2.2.2.2.2.2.2.2.2.1, hold.2.2.2.2.2.2.2.2.2.2.2.2.1, hold.2.2.2.2.2.2.2.2.2.2.2.2.2.1, hold.2.2.2.2.2.2.2.2.2.2.2.2.2.2.1, hold.2.2.2.2.2.2.2.2.2.2.2.2.2.2.2.1, hold.2.2.2.2.2.2.2.2.2.2.2.2.2.2.2.2.1, hold.2.2.2.2.2.2.2.2.2.2.2.2.2.2.2.2.2.1, hold.2.2.2.2.2.2.2.2.2.2.2.2.2.2.2.2.2.2.1, hold.2.2.2.2.2.2.2.2.2.2.2.2.2.2.2.2.2.2.2.1, hold.2.2.2.2.2.2.2.2.2.2.2.2.2.2.2.2.2.2.2.2.1, hold.2.2.2.2.2.2.2.2.2.2.2.2.2.2.2.2.2.2.2.2.2.1, hold.2.2.2.2.2.2.2.2.2.2.2.2.2.2.2.2.2.2.2.2.2.2.1, hold.2.2.2.2.2.2.2.2.2.2.2.2.2.2.2.2.2.2.2.2.2.2.2.1, hold.2.2.2.2.2.2.2.2.2.2.2.2.2.2.2.2.2.2.2.2.2.2.2.2.1, hold.2.2.2.2.2.2.2.2.2.2.2.2.2.2.2.2.2.2.2.2.2.2.2.2.2.1, hold.2.2.2.2.2.2.2.2.2.2.2.2.2.2.2.2.2.2.2.2.2.2.2.2.2.2.1, hold.2.2.2.2.2.2.2.2.2.2.2.2.2.2.2.2.2.2.2.2.2.2.2.2.2.2.2.1, hold.2.2.2.2.2.2.2.2.2.2.2.2.2.2.2.2.2.2.2.2.2.2.2.2.2.2.2.2.1, hold.2.2.2.2.2.2.2.2.2.2.2.2.2.2.2.2.2.2.2.2.2.2.2.2.2.2.2.2.2.1, hold.2.2.2.2.2.2.2.2.2.2.2.2.2.2.2.2.2.2.2.2.2.2.2.2.2.2.2.2.2.2.1, hold.2.2.2.2.2.2.2.2.2.2.2.2.2.2.2.2.2.2.2.2.2.2.2.2.2.2.2.2.2.2.2.1, hold.2.2.2.2.2.2.2.2.2.2.2.2.2.2.2.2.2.2.2.2.2.2.2.2.2.2.2.2.2.2.2.2.1, hold.2.2.2.2.2.2.2.2.2.2.2.2.2.2.2.2.2.2.2.2.2.2.2.2.2.2.2.2.2.2.2.2.2.1, hold.2.2.2.2.2.2.2.2.2.2.2.2.2.2.2.2.2.2.2.2.2.2.2.2.2.2.2.2.2.2.2.2.2.2.1, hold.2.2.2.2.2.2.2.2.2.2.2.2.2.2.2.2.2.2.2.2.2.2.2.2.2.2.2.2.2.2.2.2.2.2.2.1, hold.2.2.2.2.2.2.2.2.2.2.2.2.2.2.2.2.2.2.2.2.2.2.2.2.2.2.2.2.2.2.2.2.2.2.2.2.1, hold.2.2.2.2.2.2.2.2.2.2.2.2.2.2.2.2.2.2.2.2.2.2.2.2.2.2.2.2.2.2.2.2.2.2.2.2.2.1, hold.2.2.2.2.2.2.2.2.2.2.2.2.2.2.2.2.2.2.2.2.2.2.2.2.2.2.2.2.2.2.2.2.2.2.2.2.2.2.1, hold.2.2.2.2.2.2.2.2.2.2.2.2.2.2.2.2.2.2.2.2.2.2.2.2.2.2.2.2.2.2.2.2.2.2.2.2.2.2.2.1, hold.2.2.2.2.2.2.2.2.2.2.2.2.2.2.2.2.2.2.2.2.2.2.2.2.2.2.2.2.2.2.2.2.2.2.2.2.2.2.2.2.1, hold.2.2.2.2.2.2.2.2.2.2.2.2.2.2.2.2.2.2.2.2.2.2.2.2.2.2.2.2.2.2.2.2.2.2.2.2.2.2.2.2.2.1, hold.2.2.2.2.2.2.2.2.2.2.2.2.2.2.2.2.2.2.2.2.2.2.2.2.2.2.2.2.2.2.2.2.2.2.2.2.2.2.2.2.2.2.1, hold.2.2.2.2.2.2.2.2.2.2.2.2.2.2.2.2.2.2.2.2.2.2.2.2.2.2.2.2.2.2.2.2.2.2.2.2.2.2.2.2.2.2.2.1, hold.2.2.2.2.2.2.2.2.2.2.2.2.2.2.2.2.2.2.2.2.2.2.2.2.2.2.2.2.2.2.2.2.2.2.2.2.2.2.2.2.2.2.2.2.1, by rw [cell_of_row _ _ 0 _ 33 (0, 0) r0]; rfl, by rw [cell_of_row _ _ 1 _ 33 (0, 0) r0]; rfl, by rw [cell_of_row _ _ 2 _ 33 (0, 0) r0]; rfl, by rw [cell_of_row _ _ 3 _ 33 (0, 0) r0]; rfl, hold.2.2.2.2.2.2.2.2.2.2.2.2.2.2.2.2.2.2.2.2.2.2.2.2.2.2.2.2.2.2.2.2.2.2.2.2.2.2.2.2.2.2.2.2.2.1, hold.2.2.2.2.2.2.2.2.2.2.2.2.2.2.2.2.2.2.2.2.2.2.2.2.2.2.2.2.2.2.2.2.2.2.2.2.2.2.2.2.2.2.2.2.2.2.1, hold.2.2.2.2.2.2.2.2.2.2.2.2.2.2.2.2.2.2.2.2.2.2.2.2.2.2.2.2.2.2.2.2.2.2.2.2.2.2.2.2.2.2.2.2.2.2.2.1, hold.2.2.2.2.2.2.2.2.2.2.2.2.2.2.2.2.2.2.2.2.2.2.2.2.2.2.2.2.2.2.2.2.2.2.2.2.2.2.2.2.2.2.2.2.2.2.2.2.1, hold.2.2.2.2.2.2.2.2.2.2.2.2.2.2.2.2.2.2.2.2.2.2.2.2.2.2.2.2.2.2.2.2.2.2.2.2.2.2.2.2.2.2.2.2.2.2.2.2.2.1, hold.2.2.2.2.2.2.2.2.2.2.2.2.2.2.2.2.2.2.2.2.2.2.2.2.2.2.2.2.2.2.2.2.2.2.2.2.2.2.2.2.2.2.2.2.2.2.2.2.2.2.1, hold.2.2.2.2.2.2.2.2.2.2.2.2.2.2.2.2.2.2.2.2.2.2.2.2.2.2.2.2.2.2.2.2.2.2.2.2.2.2.2.2.2.2.2.2.2.2.2.2.2.2.2.1, hold.2.2.2.2.2.2.2.2.2.2.2.2.2.2.2.2.2.2.2.2.2.2.2.2.2.2.2.2.2.2.2.2.2.2.2.2.2.2.2.2.2.2.2.2.2.2.2.2.2.2.2.2.1, hold.2.2.2.2.2.2.2.2.2.2.2.2.2.2.2.2.2.2.2.2.2.2.2.2.2.2.2.2.2.2.2.2.2.2.2.2.2.2.2.2.2.2.2.2.2.2.2.2.2.2.2.2.2.1, hold.2.2.2.2.2.2.2.2.2.2.2.2.2.2.2.2.2.2.2.2.2.2.2.2.2.2.2.2.2.2.2.2.2.2.2.2.2.2.2.2.2.2.2.2.2.2.2.2.2.2.2.2.2.2.1, hold.2.2.2.2.2.2.2.2.2.2.2.2.2.2.2.2.2.2.2.2.2.2.2.2.2.2.2.2.2.2.2.2.2.2.2.2.2.2.2.2.2.2.2.2.2.2.2.2.2.2.2.2.2.2.2.1, hold.2.2.2.2.2.2.2.2.2.2.2.2.2.2.2.2.2.2.2.2.2.2.2.2.2.2.2.2.2.2.2.2.2.2.2.2.2.2.2.2.2.2.2.2.2.2.2.2.2.2.2.2.2.2.2.2.1, hold.2.2.2.2.2.2.2.2.2.2.2.2.2.2.2.2.2.2.2.2.2.2.2.2.2.2.2.2.2.2.2.2.2.2.2.2.2.2.2.2.2.2.2.2.2.2.2.2.2.2.2.2.2.2.2.2.2.1, hold.2.2.2.2.2.2.2.2.2.2.2.2.2.2.2.2.2.2.2.2.2.2.2.2.2.2.2.2.2.2.2.2.2.2.2.2.2.2.2.2.2.2.2.2.2.2.2.2.2.2.2.2.2.2.2.2.2.2.1, hold.2.2.2.2.2.2.2.2.2.2.2.2.2.2.2.2.2.2.2.2.2.2.2.2.2.2.2.2.2.2.2.2.2.2.2.2.2.2.2.2.2.2.2.2.2.2.2.2.2.2.2.2.2.2.2.2.2.2.2.1, hold.2.2.2.2.2.2.2.2.2.2.2.2.2.2.2.2.2.2.2.2.2.2.2.2.2.2.2.2.2.2.2.2.2.2.2.2.2.2.2.2.2.2.2.2.2.2.2.2.2.2.2.2.2.2.2.2.2.2.2.2.1, hold.2.2.2.2.2.2.2.2.2.2.2.2.2.2.2.2.2.2.2.2.2.2.2.2.2.2.2.2.2.2.2.2.2.2.2.2.2.2.2.2.2.2.2.2.2.2.2.2.2.2.2.2.2.2.2.2.2.2.2.2.2.1, hold.2.2.2.2.2.2.2.2.2.2.2.2.2.2.2.2.2.2.2.2.2.2.2.2.2.2.2.2.2.2.2.2.2.2.2.2.2.2.2.2.2.2.2.2.2.2.2.2.2.2.2.2.2.2.2.2.2.2.2.2.2.2.1, hold.2.2.2.2.2.2.2.2.2.2.2.2.2.2.2.2.2.2.2.2.2.2.2.2.2.2.2.2.2.2.2.2.2.2.2.2.2.2.2.2.2.2.2.2.2.2.2.2.2.2.2.2.2.2.2.2.2.2.2.2.2.2.2.1, hold.2.2.2.2.2.2.2.2.2.2.2.2.2.2.2.2.2.2.2.2.2.2.2.2.2.2.2.2.2.2.2.2.2.2.2.2.2.2.2.2.2.2.2.2.2.2.2.2.2.2.2.2.2.2.2.2.2.2.2.2.2.2.2.2.1, hold.2.2.2.2.2.2.2.2.2.2.2.2.2.2.2.2.2.2.2.2.2.2.2.2.2.2.2.2.2.2.2.2.2.2.2.2.2.2.2.2.2.2.2.2.2.2.2.2.2.2.2.2.2.2.2.2.2.2.2.2.2.2.2.2.2.1, hold.2.2.2.2.2.2.2.2.2.2.2.2.2.2.2.2.2.2.2.2.2.2.2.2.2.2.2.2.2.2.2.2.2.2.2.2.2.2.2.2.2.2.2.2.2.2.2.2.2.2.2.2.2.2.2.2.2.2.2.2.2.2.2.2.2.2, HL43.out.below hx, HL44.out.below hx⟩ : Below w.heap.size w wx ∧ wx.cell? ⟨w.heap.size, 0, none⟩ = some (.int .i64 S0) ∧ wx.cell? ⟨w.heap.size, 1, none⟩ = some (.slice sa0 sn0 sc0) ∧ wx.cell? ⟨w.heap.size, 2, none⟩ = some (.int .i64 S1) ∧ wx.cell? ⟨w.heap.size, 3, none⟩ = some (.slice sa1 sn1 sc1) ∧ wx.cell? ⟨w.heap.size, 4, none⟩ = some (.int .i64 S2) ∧ wx.cell? ⟨w.heap.size, 5, none⟩ = some (.slice sa2 sn2 sc2) ∧ wx.cell? ⟨w.heap.size, 6, none⟩ = some (.int .i64 S3) ∧ wx.cell? ⟨w.heap.size, 7, none⟩ = some (.slice sa3 sn3 sc3) ∧ wx.cell? ⟨w.heap.size + 1, 0, none⟩ = some (.int .i64 S4) ∧ wx.cell? ⟨w.heap.size + 1, 1, none⟩ = some (.slice sa4 sn4 sc4) ∧ wx.cell? ⟨w.heap.size + 1, 2, none⟩ = some (.int .i64 S5) ∧ wx.cell? ⟨w.heap.size + 1, 3, none⟩ = some (.slice sa5 sn5 sc5) ∧ wx.cell? ⟨w.heap.size + 1, 4, none⟩ = some (.int .i64 S6) ∧ wx.cell? ⟨w.heap.size + 1, 5, none⟩ = some (.slice sa6 sn6 sc6) ∧ wx.cell? ⟨V7, 0, none⟩ = some (.int .i64 D0) ∧ wx.cell? ⟨V7, 1, none⟩ = some (.slice a20 n20 c20) ∧ wx.cell? ⟨V7, 2, none⟩ = some (.int .i64 D1) ∧ wx.cell? ⟨V7, 3, none⟩ = some (.slice a21 n21 c21) ∧ wx.cell? ⟨V8, 0, none⟩ = some (.int .i64 D0) ∧ wx.cell? ⟨V8, 1, none⟩ = some (.slice a22 n22 c22) ∧ wx.cell? ⟨V8, 2, none⟩ = some (.int .i64 D1) ∧ wx.cell? ⟨V8, 3, none⟩ = some (.slice a23 n23 c23) ∧ wx.cell? ⟨V9, 0, none⟩ = some (.int .i64 D2) ∧ wx.cell? ⟨V9, 1, none⟩ = some (.slice a24 n24 c24) ∧ wx.cell? ⟨V9, 2, none⟩ = some (.int .i64 D3) ∧ wx.cell? ⟨V9, 3, none⟩ = some (.slice a25 n25 c25) ∧ wx.cell? ⟨V10, 0, none⟩ = some (.int .i64 D2) ∧ wx.cell? ⟨V10, 1, none⟩ = some (.slice a26 n26 c26) ∧ wx.cell? ⟨V10, 2, none⟩ = some (.int .i64 D3) ∧ wx.cell? ⟨V10, 3, none⟩ = some (.slice a27 n27 c27) ∧ wx.cell? ⟨V11, 0, none⟩ = some (.int .i64 D4) ∧ wx.cell? ⟨V11, 1, none⟩ = some (.slice a28 n28 c28) ∧ wx.cell? ⟨V11, 2, none⟩ = some (.int .i64 D5) ∧ wx.cell? ⟨V11, 3, none⟩ = some (.slice a29 n29 c29) ∧ wx.cell? ⟨V12, 0, none⟩ = some (.int .i64 D4) ∧ wx.cell? ⟨V12, 1, none⟩ = some (.slice a30 n30 c30) ∧ wx.cell? ⟨V12, 2, none⟩ = some (.int .i64 D5) ∧ wx.cell? ⟨V12, 3, none⟩ = some (.slice a31 n31 c31) ∧ wx.cell? ⟨Vh, 0, none⟩ = some (.int .i64 D6) ∧ wx.cell? ⟨Vh, 1, none⟩ = some (.slice a40 n40 c40) ∧ wx.cell? ⟨Va, 0, none⟩ = some (.int .i64 D0) ∧ wx.cell? ⟨Va, 1, none⟩ = some (.slice a41 n41 c41) ∧ wx.cell? ⟨Va, 2, none⟩ = some (.int .i64 D1) ∧ wx.cell? ⟨Va, 3, none⟩ = some (.slice a42 n42 c42) ∧ wx.cell? ⟨Vb, 0, none⟩ = some (.int .i64 D0) ∧ wx.cell? ⟨Vb, 1, none⟩ = some (.slice a43 n43 c43) ∧ wx.cell? ⟨Vb, 2, none⟩ = some (.int .i64 D1) ∧ wx.cell? ⟨Vb, 3, none⟩ = some (.slice a44 n44 c44) ∧ IntsL wx (.slice sa0 sn0 sc0) ls0 ∧ IntsL wx (.slice sa1 sn1 sc1) ls1 ∧ IntsL wx (.slice sa2 sn2 sc2) ls2 ∧ IntsL wx (.slice sa3 sn3 sc3) ls3 ∧ IntsL wx (.slice sa4 sn4 sc4) ls4 ∧ IntsL wx (.slice sa5 sn5 sc5) ls5 ∧ IntsL wx (.slice sa6 sn6 sc6) ls6 ∧ LA 12 wx D0 a20 n20 c20 P0 ∧ LA 12 wx D1 a21 n21 c21 P1 ∧ LA 12 wx D0 a22 n22 c22 P0 ∧ LA 12 wx D1 a23 n23 c23 P1 ∧ LA 12 wx D2 a24 n24 c24 P2 ∧ LA 12 wx D3 a25 n25 c25 P3 ∧ LA 12 wx D2 a26 n26 c26 P2 ∧ LA 12 wx D3 a27 n27 c27 P3 ∧ LA 12 wx D4 a28 n28 c28 P4 ∧ LA 12 wx D5 a29 n29 c29 P5 ∧ LA 12 wx D4 a30 n30 c30 P4 ∧ LA 12 wx D5 a31 n31 c31 P5 ∧ LA 12 wx D6 a40 n40 c40 P6 ∧ LA 201 wx D0 a41 n41 c41 (Lab.put D0 P0 c 0) ∧ LA 201 wx D1 a42 n42 c42 (Lab.put D1 P1 c 4) ∧ LA 201 wx D0 a43 n43 c43 (Lab.put D0 P0 c 0) ∧ LA 201 wx D1 a44 n44 c44 (Lab.put D1 P1 c 4)))
        clear hk0 hB HK
        have hHeld := Below.refl Xb.heap.size Xb
        have EK1 := Lib.hid (show decide ((lsD D0 D4) = (lsD D0 D4) ∧ (lsP D0 P0 D4 P4) = (lsP D0 P0 D4 P4)) = true from decide_eq_true ⟨rfl, rfl⟩)
        have EK2 := Lib.hid (show (decide (D0 = D0 ∧ (Lab.put D0 P0 c 0) = (Lab.put D0 P0 c 0)) && decide (D1 = D1 ∧ (Lab.put D1 P1 c 4) = (Lab.put D1 P1 c 4))) = true from by simp)
        refine region_AU (Z := fun j => false) (S := fun w' => Below Xb.heap.size Xb w') (by kernel_rfl) (hHeld.drew) (fun hHeld => ?_)
        refine AUS_take (by kernel_rfl) rfl (i := 0) (oi := _) (v := ?vw1) rfl (by kernel_rfl) (by kernel_rfl) (by kernel_rfl) (fun _ _ _ h => h) (Or.inl ⟨by rfl, ?hz1⟩) hHeld ?rst1
        case hz1 => (intro wS hSw; obtain ⟨_, f0, f1, f2, f3, f4, f5, f6, f7, f8, f9, f10, f11, f12, f13, f14, f15, f16, f17, f18, f19, f20, f21, f22, f23, f24, f25, f26, f27, f28, f29, f30, f31, f32, f33, f34, f35, f36, f37, f38, f39, f40, f41, f42, f43, f44, f45, f46, f47, _, _, _, _, _, _, _, _, _, _, _, _, _, _, _, _, _, _, _, _, _, _, _, _⟩ := HS.out wS hSw; clear hSw; go_simp; try with_reducible rfl)
        simp only [Act.put, List.getElem_toArray, List.getElem_cons_zero, List.getElem_cons_succ, List.setIfInBounds_toArray, List.set_cons_zero, List.set_cons_succ]
        refine AUS_take (by kernel_rfl) rfl (i := 1) (oi := _) (v := ?vw2) rfl (by kernel_rfl) (by kernel_rfl) (by kernel_rfl) (fun _ _ _ h => h) (Or.inl ⟨by rfl, ?hz2⟩) hHeld ?rst2
        case hz2 => (intro wS hSw; obtain ⟨_, f0, f1, f2, f3, f4, f5, f6, f7, f8, f9, f10, f11, f12, f13, f14, f15, f16, f17, f18, f19, f20, f21, f22, f23, f24, f25, f26, f27, f28, f29, f30, f31, f32, f33, f34, f35, f36, f37, f38, f39, f40, f41, f42, f43, f44, f45, f46, f47, _, _, _, _, _, _, _, _, _, _, _, _, _, _, _, _, _, _, _, _, _, _, _, _⟩ := HS.out wS hSw; clear hSw; go_simp; try with_reducible rfl)
        simp only [Act.put, List.getElem_toArray, List.getElem_cons_zero, List.getElem_cons_succ, List.setIfInBounds_toArray, List.set_cons_zero, List.set_cons_succ]
        refine AUS_take (by kernel_rfl) rfl (i := 2) (oi := _) (v := ?vw3) rfl (by kernel_rfl) (by kernel_rfl) (by kernel_rfl) (fun _ _ _ h => h) (Or.inl ⟨by rfl, ?hz3⟩) hHeld ?rst3
        case hz3 => (intro wS hSw; obtain ⟨_, f0, f1, f2, f3, f4, f5, f6, f7, f8, f9, f10, f11, f12, f13, f14, f15, f16, f17, f18, f19, f20, f21, f22, f23, f24, f25, f26, f27, f28, f29, f30, f31, f32, f33, f34, f35, f36, f37, f38, f39, f40, f41, f42, f43, f44, f45, f46, f47, _, _, _, _, _, _, _, _, _, _, _, _, _, _, _, _, _, _, _, _, _, _, _, _⟩ := HS.out wS hSw; clear hSw; go_simp; try with_reducible rfl)
        simp only [Act.put, List.getElem_toArray, List.getElem_cons_zero, List.getElem_cons_succ, List.setIfInBounds_toArray, List.set_cons_zero, List.set_cons_succ]
        refine AUS_take (by kernel_rfl) rfl (i := 4) (oi := _) (v := ?vw4) rfl (by kernel_rfl) (by kernel_rfl) (by kernel_rfl) (fun _ _ _ h => h) (Or.inl ⟨by rfl, ?hz4⟩) hHeld ?rst4
        case hz4 => (intro wS hSw; obtain ⟨_, f0, f1, f2, f3, f4, f5, f6, f7, f8, f9, f10, f11, f12, f13, f14, f15, f16, f17, f18, f19, f20, f21, f22, f23, f24, f25, f26, f27, f28, f29, f30, f31, f32, f33, f34, f35, f36, f37, f38, f39, f40, f41, f42, f43, f44, f45, f46, f47, _, _, _, _, _, _, _, _, _, _, _, _, _, _, _, _, _, _, _, _, _, _, _, _⟩ := HS.out wS hSw; clear hSw; go_simp; try with_reducible rfl)
        simp only [Act.put, List.getElem_toArray, List.getElem_cons_zero, List.getElem_cons_succ, List.setIfInBounds_toArray, List.set_cons_zero, List.set_cons_succ]
        refine AUS_take (by kernel_rfl) rfl (i := 5) (oi := _) (v := ?vw5) rfl (by kernel_rfl) (by kernel_rfl) (by kernel_rfl) (fun _ _ _ h => h) (Or.inl ⟨by rfl, ?hz5⟩) hHeld ?rst5
        case hz5 => (intro wS hSw; obtain ⟨_, f0, f1, f2, f3, f4, f5, f6, f7, f8, f9, f10, f11, f12, f13, f14, f15, f16, f17, f18, f19, f20, f21, f22, f23, f24, f25, f26, f27, f28, f29, f30, f31, f32, f33, f34, f35, f36, f37, f38, f39, f40, f41, f42, f43, f44, f45, f46, f47, _, _, _, _, _, _, _, _, _, _, _, _, _, _, _, _, _, _, _, _, _, _, _, _⟩ := HS.out wS hSw; clear hSw; go_simp; try with_reducible rfl)
        simp only [Act.put, List.getElem_toArray, List.getElem_cons_zero, List.getElem_cons_succ, List.setIfInBounds_toArray, List.set_cons_zero, List.set_cons_succ]
        refine AUS_take (by kernel_rfl) rfl (i := 6) (oi := _) (v := ?vw6) rfl (by kernel_rfl) (by kernel_rfl) (by kernel_rfl) (fun _ _ _ h => h) (Or.inl ⟨by rfl, ?hz6⟩) hHeld ?rst6
        case hz6 => (intro wS hSw; obtain ⟨_, f0, f1, f2, f3, f4, f5, f6, f7, f8, f9, f10, f11, f12, f13, f14, f15, f16, f17, f18, f19, f20, f21, f22, f23, f24, f25, f26, f27, f28, f29, f30, f31, f32, f33, f34, f35, f36, f37, f38, f39, f40, f41, f42, f43, f44, f45, f46, f47, _, _, _, _, _, _, _, _, _, _, _, _, _, _, _, _, _, _, _, _, _, _, _, _⟩ := HS.out wS hSw; clear hSw; go_simp; try with_reducible rfl)
        simp only [Act.put, List.getElem_toArray, List.getElem_cons_zero, List.getElem_cons_succ, List.setIfInBounds_toArray, List.set_cons_zero, List.set_cons_succ]
        have HH := Lib.hid hHeld
        obtain ⟨hbw, _, _, _, _, _, _, _, _, _, _, _, _, _, _, _, _, _, _, _, _, _, _, _, _, _, _, _, _, _, _, _, _, _, _, _, _, _, _, _, _, _, _, _, _, _, _, _, _, gs0, gs1, gs2, gs3, gs4, gs5, gs6, g20, g21, g22, g23, g24, g25, g26, g27, g28, g29, g30, g31, g40, g41, g42, g43, g44⟩ := HS.out _ hHeld
        refine AU_one (i := 3) (o := _) (by kernel_rfl) rfl (fun K hK => ?_)
        obtain ⟨b2, E2⟩ : ∃ b, Hid (gv D0 P0 D1 P1 D6 P6 D2 P2 D3 P3 = b) := ⟨_, Lib.hid rfl⟩
        have CC := give_m (g20.mono (by omega)) (g21.mono (by omega)) (g40.mono (by omega)) (g24.mono (by omega)) (g25.mono (by omega))
        rw [E2.out] at CC
        have CC := Lib.hid CC
        clear hHeld hbw gs0 gs1 gs2 gs3 gs4 gs5 gs6 g20 g21 g22 g23 g24 g25 g26 g27 g28 g29 g30 g31 g40 g41 g42 g43 g44
        go_simp
        refine CC.out.mono ?_
        clear CC
        rintro e wz2 ⟨rfl, hb⟩
        have hHeld := HH.out.trans (hb.mono HH.out.size)
        clear HH hb
        refine hK.out _ _ (fun _ => hHeld) ?_
        clear hK K
        try simp only [Act.put, List.getElem_toArray, List.getElem_cons_zero, List.getElem_cons_succ, List.setIfInBounds_toArray, List.set_cons_zero, List.set_cons_succ]
        have HH := Lib.hid hHeld
        obtain ⟨hbw, _, _, _, _, _, _, _, _, _, _, _, _, _, _, _, _, _, _, _, _, _, _, _, _, _, _, _, _, _, _, _, _, _, _, _, _, _, _, _, _, _, _, _, _, _, _, _, _, gs0, gs1, gs2, gs3, gs4, gs5, gs6, g20, g21, g22, g23, g24, g25, g26, g27, g28, g29, g30, g31, g40, g41, g42, g43, g44⟩ := HS.out _ hHeld
        refine AU_one (i := 7) (o := _) (by kernel_rfl) rfl (fun K hK => ?_)
        have CC := rgive_m (g22.mono (by omega)) (g23.mono (by omega)) (g40.mono (by omega)) (g26.mono (by omega)) (g27.mono (by omega))
        rw [E2.out] at CC
        have CC := Lib.hid CC
        clear hHeld hbw gs0 gs1 gs2 gs3 gs4 gs5 gs6 g20 g21 g22 g23 g24 g25 g26 g27 g28 g29 g30 g31 g40 g41 g42 g43 g44
        go_simp
        refine CC.out.mono ?_
        clear CC
        rintro e wz3 ⟨rfl, hb⟩
        have hHeld := HH.out.trans (hb.mono HH.out.size)
        clear HH hb
        refine hK.out _ _ (fun _ => hHeld) ?_
        clear hK K
        try simp only [Act.put, List.getElem_toArray, List.getElem_cons_zero, List.getElem_cons_succ, List.setIfInBounds_toArray, List.set_cons_zero, List.set_cons_succ]
        refine AUS_take (by kernel_rfl) rfl (i := 8) (oi := _) (v := ?vw7) rfl (by kernel_rfl) (by kernel_rfl) (by kernel_rfl) (fun _ _ _ h => h) (Or.inl ⟨by rfl, ?hz7⟩) hHeld ?rst7
        case hz7 => (intro wS hSw; obtain ⟨_, f0, f1, f2, f3, f4, f5, f6, f7, f8, f9, f10, f11, f12, f13, f14, f15, f16, f17, f18, f19, f20, f21, f22, f23, f24, f25, f26, f27, f28, f29, f30, f31, f32, f33, f34, f35, f36, f37, f38, f39, f40, f41, f42, f43, f44, f45, f46, f47, _, _, _, _, _, _, _, _, _, _, _, _, _, _, _, _, _, _, _, _, _, _, _, _⟩ := HS.out wS hSw; clear hSw; go_simp; try with_reducible rfl)
        simp only [Act.put, List.getElem_toArray, List.getElem_cons_zero, List.getElem_cons_succ, List.setIfInBounds_toArray, List.set_cons_zero, List.set_cons_succ]
        refine AUS_take (by kernel_rfl) rfl (i := 9) (oi := _) (v := ?vw8) rfl (by kernel_rfl) (by kernel_rfl) (by kernel_rfl) (fun _ _ _ h => h) (Or.inl ⟨by rfl, ?hz8⟩) hHeld ?rst8
        case hz8 => (intro wS hSw; obtain ⟨_, f0, f1, f2, f3, f4, f5, f6, f7, f8, f9, f10, f11, f12, f13, f14, f15, f16, f17, f18, f19, f20, f21, f22, f23, f24, f25, f26, f27, f28, f29, f30, f31, f32, f33, f34, f35, f36, f37, f38, f39, f40, f41, f42, f43, f44, f45, f46, f47, _, _, _, _, _, _, _, _, _, _, _, _, _, _, _, _, _, _, _, _, _, _, _, _⟩ := HS.out wS hSw; clear hSw; go_simp; try with_reducible rfl)
        simp only [Act.put, List.getElem_toArray, List.getElem_cons_zero, List.getElem_cons_succ, List.setIfInBounds_toArray, List.set_cons_zero, List.set_cons_succ]
        refine AUS_take (by kernel_rfl) rfl (i := 10) (oi := _) (v := ?vw9) rfl (by kernel_rfl) (by kernel_rfl) (by kernel_rfl) (fun _ _ _ h => h) (Or.inl ⟨by rfl, ?hz9⟩) hHeld ?rst9
        case hz9 => (intro wS hSw; obtain ⟨_, f0, f1, f2, f3, f4, f5, f6, f7, f8, f9, f10, f11, f12, f13, f14, f15, f16, f17, f18, f19, f20, f21, f22, f23, f24, f25, f26, f27, f28, f29, f30, f31, f32, f33, f34, f35, f36, f37, f38, f39, f40, f41, f42, f43, f44, f45, f46, f47, _, _, _, _, _, _, _, _, _, _, _, _, _, _, _, _, _, _, _, _, _, _, _, _⟩ := HS.out wS hSw; clear hSw; go_simp; try with_reducible rfl)
        simp only [Act.put, List.getElem_toArray, List.getElem_cons_zero, List.getElem_cons_succ, List.setIfInBounds_toArray, List.set_cons_zero, List.set_cons_succ]
        refine AUS_take (by kernel_rfl) rfl (i := 11) (oi := _) (v := ?vw10) rfl (by kernel_rfl) (by kernel_rfl) (by kernel_rfl) (fun _ _ _ h => h) (Or.inl ⟨by rfl, ?hz10⟩) hHeld ?rst10
        case hz10 => (intro wS hSw; obtain ⟨_, f0, f1, f2, f3, f4, f5, f6, f7, f8, f9, f10, f11, f12, f13, f14, f15, f16, f17, f18, f19, f20, f21, f22, f23, f24, f25, f26, f27, f28, f29, f30, f31, f32, f33, f34, f35, f36, f37, f38, f39, f40, f41, f42, f43, f44, f45, f46, f47, _, _, _, _, _, _, _, _, _, _, _, _, _, _, _, _, _, _, _, _, _, _, _, _⟩ := HS.out wS hSw; clear hSw; go_simp; try with_reducible rfl)
        simp only [Act.put, List.getElem_toArray, List.getElem_cons_zero, List.getElem_cons_succ, List.setIfInBounds_toArray, List.set_cons_zero, List.set_cons_succ]
        refine AUS_take (by kernel_rfl) rfl (i := 12) (oi := _) (v := ?vw11) rfl (by kernel_rfl) (by kernel_rfl) (by kernel_rfl) (fun _ _ _ h => h) (Or.inl ⟨by rfl, ?hz11⟩) hHeld ?rst11
        case hz11 => (intro wS hSw; obtain ⟨_, f0, f1, f2, f3, f4, f5, f6, f7, f8, f9, f10, f11, f12, f13, f14, f15, f16, f17, f18, f19, f20, f21, f22, f23, f24, f25, f26, f27, f28, f29, f30, f31, f32, f33, f34, f35, f36, f37, f38, f39, f40, f41, f42, f43, f44, f45, f46, f47, _, _, _, _, _, _, _, _, _, _, _, _, _, _, _, _, _, _, _, _, _, _, _, _⟩ := HS.out wS hSw; clear hSw; go_simp; try with_reducible rfl)
        simp only [Act.put, List.getElem_toArray, List.getElem_cons_zero, List.getElem_cons_succ, List.setIfInBounds_toArray, List.set_cons_zero, List.set_cons_succ]
        refine AUS_take (by kernel_rfl) rfl (i := 13) (oi := _) (v := ?vw12) rfl (by kernel_rfl) (by kernel_rfl) (by kernel_rfl) (fun _ _ _ h => h) (Or.inl ⟨by rfl, ?hz12⟩) hHeld ?rst12
        case hz12 => (intro wS hSw; obtain ⟨_, f0, f1, f2, f3, f4, f5, f6, f7, f8, f9, f10, f11, f12, f13, f14, f15, f16, f17, f18, f19, f20, f21, f22, f23, f24, f25, f26, f27, f28, f29, f30, f31, f32, f33, f34, f35, f36, f37, f38, f39, f40, f41, f42, f43, f44, f45, f46, f47, _, _, _, _, _, _, _, _, _, _, _, _, _, _, _, _, _, _, _, _, _, _, _, _⟩ := HS.out wS hSw; clear hSw; go_simp; try with_reducible rfl)
        simp only [Act.put, List.getElem_toArray, List.getElem_cons_zero, List.getElem_cons_succ, List.setIfInBounds_toArray, List.set_cons_zero, List.set_cons_succ]
        refine AUS_take (by kernel_rfl) rfl (i := 15) (oi := _) (v := ?vw13) rfl (by kernel_rfl) (by kernel_rfl) (by kernel_rfl) (fun _ _ _ h => h) (Or.inl ⟨by rfl, ?hz13⟩) hHeld ?rst13
        case hz13 => (intro wS hSw; obtain ⟨_, f0, f1, f2, f3, f4, f5, f6, f7, f8, f9, f10, f11, f12, f13, f14, f15, f16, f17, f18, f19, f20, f21, f22, f23, f24, f25, f26, f27, f28, f29, f30, f31, f32, f33, f34, f35, f36, f37, f38, f39, f40, f41, f42, f43, f44, f45, f46, f47, _, _, _, _, _, _, _, _, _, _, _, _, _, _, _, _, _, _, _, _, _, _, _, _⟩ := HS.out wS hSw; clear hSw; go_simp; try with_reducible rfl)
        simp only [Act.put, List.getElem_toArray, List.getElem_cons_zero, List.getElem_cons_succ, List.setIfInBounds_toArray, List.set_cons_zero, List.set_cons_succ]
        refine AUS_take (by kernel_rfl) rfl (i := 16) (oi := _) (v := ?vw14) rfl (by kernel_rfl) (by kernel_rfl) (by kernel_rfl) (fun _ _ _ h => h) (Or.inl ⟨by rfl, ?hz14⟩) hHeld ?rst14
        case hz14 => (intro wS hSw; obtain ⟨_, f0, f1, f2, f3, f4, f5, f6, f7, f8, f9, f10, f11, f12, f13, f14, f15, f16, f17, f18, f19, f20, f21, f22, f23, f24, f25, f26, f27, f28, f29, f30, f31, f32, f33, f34, f35, f36, f37, f38, f39, f40, f41, f42, f43, f44, f45, f46, f47, _, _, _, _, _, _, _, _, _, _, _, _, _, _, _, _, _, _, _, _, _, _, _, _⟩ := HS.out wS hSw; clear hSw; go_simp; try with_reducible rfl)
        simp only [Act.put, List.getElem_toArray, List.getElem_cons_zero, List.getElem_cons_succ, List.setIfInBounds_toArray, List.set_cons_zero, List.set_cons_succ]
        refine AUS_take (by kernel_rfl) rfl (i := 17) (oi := _) (v := ?vw15) rfl (by kernel_rfl) (by kernel_rfl) (by kernel_rfl) (fun _ _ _ h => h) (Or.inl ⟨by rfl, ?hz15⟩) hHeld ?rst15
        case hz15 => (intro wS hSw; obtain ⟨_, f0, f1, f2, f3, f4, f5, f6, f7, f8, f9, f10, f11, f12, f13, f14, f15, f16, f17, f18, f19, f20, f21, f22, f23, f24, f25, f26, f27, f28, f29, f30, f31, f32, f33, f34, f35, f36, f37, f38, f39, f40, f41, f42, f43, f44, f45, f46, f47, _, _, _, _, _, _, _, _, _, _, _, _, _, _, _, _, _, _, _, _, _, _, _, _⟩ := HS.out wS hSw; clear hSw; go_simp; try with_reducible rfl)
        simp only [Act.put, List.getElem_toArray, List.getElem_cons_zero, List.getElem_cons_succ, List.setIfInBounds_toArray, List.set_cons_zero, List.set_cons_succ]
        refine AUS_take (by kernel_rfl) rfl (i := 18) (oi := _) (v := ?vw16) rfl (by kernel_rfl) (by kernel_rfl) (by kernel_rfl) (fun _ _ _ h => h) (Or.inl ⟨by rfl, ?hz16⟩) hHeld ?rst16
        case hz16 => (intro wS hSw; obtain ⟨_, f0, f1, f2, f3, f4, f5, f6, f7, f8, f9, f10, f11, f12, f13, f14, f15, f16, f17, f18, f19, f20, f21, f22, f23, f24, f25, f26, f27, f28, f29, f30, f31, f32, f33, f34, f35, f36, f37, f38, f39, f40, f41, f42, f43, f44, f45, f46, f47, _, _, _, _, _, _, _, _, _, _, _, _, _, _, _, _, _, _, _, _, _, _, _, _⟩ := HS.out wS hSw; clear hSw; go_simp; try with_reducible rfl)
        simp only [Act.put, List.getElem_toArray, List.getElem_cons_zero, List.getElem_cons_succ, List.setIfInBounds_toArray, List.set_cons_zero, List.set_cons_succ]
        have HH := Lib.hid hHeld
        obtain ⟨hbw, _, _, _, _, _, _, _, _, _, _, _, _, _, _, _, _, _, _, _, _, _, _, _, _, _, _, _, _, _, _, _, _, _, _, _, _, _, _, _, _, _, _, _, _, _, _, _, _, gs0, gs1, gs2, gs3, gs4, gs5, gs6, g20, g21, g22, g23, g24, g25, g26, g27, g28, g29, g30, g31, g40, g41, g42, g43, g44⟩ := HS.out _ hHeld
        refine AU_one (i := 14) (o := _) (by kernel_rfl) rfl (fun K hK => ?_)
        obtain ⟨b4, E4⟩ : ∃ b, Hid (en D0 P0 D1 P1 D6 P6 D4 P4 D5 P5 D2 P2 D3 P3 = b) := ⟨_, Lib.hid rfl⟩
        have CC := enter_m (g20.mono (by omega)) (g21.mono (by omega)) (g40.mono (by omega)) (g28.mono (by omega)) (g29.mono (by omega)) (g24.mono (by omega)) (g25.mono (by omega))
        rw [E4.out] at CC
        have CC := Lib.hid CC
        clear hHeld hbw gs0 gs1 gs2 gs3 gs4 gs5 gs6 g20 g21 g22 g23 g24 g25 g26 g27 g28 g29 g30 g31 g40 g41 g42 g43 g44
        go_simp
        refine CC.out.mono ?_
        clear CC
        rintro e wz4 ⟨rfl, hb⟩
        have hHeld := HH.out.trans (hb.mono HH.out.size)
        clear HH hb
        refine hK.out _ _ (fun _ => hHeld) ?_
        clear hK K
        try simp only [Act.put, List.getElem_toArray, List.getElem_cons_zero, List.getElem_cons_succ, List.setIfInBounds_toArray, List.set_cons_zero, List.set_cons_succ]
        have HH := Lib.hid hHeld
        obtain ⟨hbw, _, _, _, _, _, _, _, _, _, _, _, _, _, _, _, _, _, _, _, _, _, _, _, _, _, _, _, _, _, _, _, _, _, _, _, _, _, _, _, _, _, _, _, _, _, _, _, _, gs0, gs1, gs2, gs3, gs4, gs5, gs6, g20, g21, g22, g23, g24, g25, g26, g27, g28, g29, g30, g31, g40, g41, g42, g43, g44⟩ := HS.out _ hHeld
        refine AU_one (i := 19) (o := _) (by kernel_rfl) rfl (fun K hK => ?_)
        have CC := renter_m (g22.mono (by omega)) (g23.mono (by omega)) (g40.mono (by omega)) (g30.mono (by omega)) (g31.mono (by omega)) (g26.mono (by omega)) (g27.mono (by omega))
        rw [E4.out] at CC
        have CC := Lib.hid CC
        clear hHeld hbw gs0 gs1 gs2 gs3 gs4 gs5 gs6 g20 g21 g22 g23 g24 g25 g26 g27 g28 g29 g30 g31 g40 g41 g42 g43 g44
        go_simp
        refine CC.out.mono ?_
        clear CC
        rintro e wz5 ⟨rfl, hb⟩
        have hHeld := HH.out.trans (hb.mono HH.out.size)
        clear HH hb
        refine hK.out _ _ (fun _ => hHeld) ?_
        clear hK K
        try simp only [Act.put, List.getElem_toArray, List.getElem_cons_zero, List.getElem_cons_succ, List.setIfInBounds_toArray, List.set_cons_zero, List.set_cons_succ]
        refine AUS_take (by kernel_rfl) rfl (i := 20) (oi := _) (v := ?vw17) rfl (by kernel_rfl) (by kernel_rfl) (by kernel_rfl) (fun _ _ _ h => h) (Or.inl ⟨by rfl, ?hz17⟩) hHeld ?rst17
        case hz17 => (intro wS hSw; obtain ⟨_, f0, f1, f2, f3, f4, f5, f6, f7, f8, f9, f10, f11, f12, f13, f14, f15, f16, f17, f18, f19, f20, f21, f22, f23, f24, f25, f26, f27, f28, f29, f30, f31, f32, f33, f34, f35, f36, f37, f38, f39, f40, f41, f42, f43, f44, f45, f46, f47, _, _, _, _, _, _, _, _, _, _, _, _, _, _, _, _, _, _, _, _, _, _, _, _⟩ := HS.out wS hSw; clear hSw; go_simp; try with_reducible rfl)
        simp only [Act.put, List.getElem_toArray, List.getElem_cons_zero, List.getElem_cons_succ, List.setIfInBounds_toArray, List.set_cons_zero, List.set_cons_succ]
        refine AUS_take (by kernel_rfl) rfl (i := 21) (oi := _) (v := ?vw18) rfl (by kernel_rfl) (by kernel_rfl) (by kernel_rfl) (fun _ _ _ h => h) (Or.inl ⟨by rfl, ?hz18⟩) hHeld ?rst18
        case hz18 => (intro wS hSw; obtain ⟨_, f0, f1, f2, f3, f4, f5, f6, f7, f8, f9, f10, f11, f12, f13, f14, f15, f16, f17, f18, f19, f20, f21, f22, f23, f24, f25, f26, f27, f28, f29, f30, f31, f32, f33, f34, f35, f36, f37, f38, f39, f40, f41, f42, f43, f44, f45, f46, f47, _, _, _, _, _, _, _, _, _, _, _, _, _, _, _, _, _, _, _, _, _, _, _, _⟩ := HS.out wS hSw; clear hSw; go_simp; try with_reducible rfl)
        simp only [Act.put, List.getElem_toArray, List.getElem_cons_zero, List.getElem_cons_succ, List.setIfInBounds_toArray, List.set_cons_zero, List.set_cons_succ]
        refine AUS_take (by kernel_rfl) rfl (i := 22) (oi := _) (v := ?vw19) rfl (by kernel_rfl) (by kernel_rfl) (by kernel_rfl) (fun _ _ _ h => h) (Or.inl ⟨by rfl, ?hz19⟩) hHeld ?rst19
        case hz19 => (intro wS hSw; obtain ⟨_, f0, f1, f2, f3, f4, f5, f6, f7, f8, f9, f10, f11, f12, f13, f14, f15, f16, f17, f18, f19, f20, f21, f22, f23, f24, f25, f26, f27, f28, f29, f30, f31, f32, f33, f34, f35, f36, f37, f38, f39, f40, f41, f42, f43, f44, f45, f46, f47, _, _, _, _, _, _, _, _, _, _, _, _, _, _, _, _, _, _, _, _, _, _, _, _⟩ := HS.out wS hSw; clear hSw; go_simp; try with_reducible rfl)
        simp only [Act.put, List.getElem_toArray, List.getElem_cons_zero, List.getElem_cons_succ, List.setIfInBounds_toArray, List.set_cons_zero, List.set_cons_succ]
        refine AUS_take (by kernel_rfl) rfl (i := 23) (oi := _) (v := ?vw20) rfl (by kernel_rfl) (by kernel_rfl) (by kernel_rfl) (fun _ _ _ h => h) (Or.inl ⟨by rfl, ?hz20⟩) hHeld ?rst20
        case hz20 => (intro wS hSw; obtain ⟨_, f0, f1, f2, f3, f4, f5, f6, f7, f8, f9, f10, f11, f12, f13, f14, f15, f16, f17, f18, f19, f20, f21, f22, f23, f24, f25, f26, f27, f28, f29, f30, f31, f32, f33, f34, f35, f36, f37, f38, f39, f40, f41, f42, f43, f44, f45, f46, f47, _, _, _, _, _, _, _, _, _, _, _, _, _, _, _, _, _, _, _, _, _, _, _, _⟩ := HS.out wS hSw; clear hSw; go_simp; try with_reducible rfl)
        simp only [Act.put, List.getElem_toArray, List.getElem_cons_zero, List.getElem_cons_succ, List.setIfInBounds_toArray, List.set_cons_zero, List.set_cons_succ]
        refine AUS_take (by kernel_rfl) rfl (i := 24) (oi := _) (v := ?vw21) rfl (by kernel_rfl) (by kernel_rfl) (by kernel_rfl) (fun _ _ _ h => h) (Or.inl ⟨by rfl, ?hz21⟩) hHeld ?rst21
        case hz21 => (intro wS hSw; obtain ⟨_, f0, f1, f2, f3, f4, f5, f6, f7, f8, f9, f10, f11, f12, f13, f14, f15, f16, f17, f18, f19, f20, f21, f22, f23, f24, f25, f26, f27, f28, f29, f30, f31, f32, f33, f34, f35, f36, f37, f38, f39, f40, f41, f42, f43, f44, f45, f46, f47, _, _, _, _, _, _, _, _, _, _, _, _, _, _, _, _, _, _, _, _, _, _, _, _⟩ := HS.out wS hSw; clear hSw; go_simp; try with_reducible rfl)
        simp only [Act.put, List.getElem_toArray, List.getElem_cons_zero, List.getElem_cons_succ, List.setIfInBounds_toArray, List.set_cons_zero, List.set_cons_succ]
        refine AUS_take (by kernel_rfl) rfl (i := 25) (oi := _) (v := ?vw22) rfl (by kernel_rfl) (by kernel_rfl) (by kernel_rfl) (fun _ _ _ h => h) (Or.inl ⟨by rfl, ?hz22⟩) hHeld ?rst22
        case hz22 => (intro wS hSw; obtain ⟨_, f0, f1, f2, f3, f4, f5, f6, f7, f8, f9, f10, f11, f12, f13, f14, f15, f16, f17, f18, f19, f20, f21, f22, f23, f24, f25, f26, f27, f28, f29, f30, f31, f32, f33, f34, f35, f36, f37, f38, f39, f40, f41, f42, f43, f44, f45, f46, f47, _, _, _, _, _, _, _, _, _, _, _, _, _, _, _, _, _, _, _, _, _, _, _, _⟩ := HS.out wS hSw; clear hSw; go_simp; try with_reducible rfl)
        simp only [Act.put, List.getElem_toArray, List.getElem_cons_zero, List.getElem_cons_succ, List.setIfInBounds_toArray, List.set_cons_zero, List.set_cons_succ]
        refine AUS_take (by kernel_rfl) rfl (i := 26) (oi := _) (v := ?vw23) rfl (by kernel_rfl) (by kernel_rfl) (by kernel_rfl) (fun _ _ _ h => h) (Or.inl ⟨by rfl, ?hz23⟩) hHeld ?rst23
        case hz23 => (intro wS hSw; obtain ⟨_, f0, f1, f2, f3, f4, f5, f6, f7, f8, f9, f10, f11, f12, f13, f14, f15, f16, f17, f18, f19, f20, f21, f22, f23, f24, f25, f26, f27, f28, f29, f30, f31, f32, f33, f34, f35, f36, f37, f38, f39, f40, f41, f42, f43, f44, f45, f46, f47, _, _, _, _, _, _, _, _, _, _, _, _, _, _, _, _, _, _, _, _, _, _, _, _⟩ := HS.out wS hSw; clear hSw; go_simp; try with_reducible rfl)
        simp only [Act.put, List.getElem_toArray, List.getElem_cons_zero, List.getElem_cons_succ, List.setIfInBounds_toArray, List.set_cons_zero, List.set_cons_succ]
        refine AUS_take (by kernel_rfl) rfl (i := 28) (oi := _) (v := ?vw24) rfl (by kernel_rfl) (by kernel_rfl) (by kernel_rfl) (fun _ _ _ h => h) (Or.inl ⟨by rfl, ?hz24⟩) hHeld ?rst24
        case hz24 => (intro wS hSw; obtain ⟨_, f0, f1, f2, f3, f4, f5, f6, f7, f8, f9, f10, f11, f12, f13, f14, f15, f16, f17, f18, f19, f20, f21, f22, f23, f24, f25, f26, f27, f28, f29, f30, f31, f32, f33, f34, f35, f36, f37, f38, f39, f40, f41, f42, f43, f44, f45, f46, f47, _, _, _, _, _, _, _, _, _, _, _, _, _, _, _, _, _, _, _, _, _, _, _, _⟩ := HS.out wS hSw; clear hSw; go_simp; try with_reducible rfl)
        simp only [Act.put, List.getElem_toArray, List.getElem_cons_zero, List.getElem_cons_succ, List.setIfInBounds_toArray, List.set_cons_zero, List.set_cons_succ]
        refine AUS_take (by kernel_rfl) rfl (i := 29) (oi := _) (v := ?vw25) rfl (by kernel_rfl) (by kernel_rfl) (by kernel_rfl) (fun _ _ _ h => h) (Or.inl ⟨by rfl, ?hz25⟩) hHeld ?rst25
        case hz25 => (intro wS hSw; obtain ⟨_, f0, f1, f2, f3, f4, f5, f6, f7, f8, f9, f10, f11, f12, f13, f14, f15, f16, f17, f18, f19, f20, f21, f22, f23, f24, f25, f26, f27, f28, f29, f30, f31, f32, f33, f34, f35, f36, f37, f38, f39, f40, f41, f42, f43, f44, f45, f46, f47, _, _, _, _, _, _, _, _, _, _, _, _, _, _, _, _, _, _, _, _, _, _, _, _⟩ := HS.out wS hSw; clear hSw; go_simp; try with_reducible rfl)
        simp only [Act.put, List.getElem_toArray, List.getElem_cons_zero, List.getElem_cons_succ, List.setIfInBounds_toArray, List.set_cons_zero, List.set_cons_succ]
        refine AUS_take (by kernel_rfl) rfl (i := 30) (oi := _) (v := ?vw26) rfl (by kernel_rfl) (by kernel_rfl) (by kernel_rfl) (fun _ _ _ h => h) (Or.inl ⟨by rfl, ?hz26⟩) hHeld ?rst26
        case hz26 => (intro wS hSw; obtain ⟨_, f0, f1, f2, f3, f4, f5, f6, f7, f8, f9, f10, f11, f12, f13, f14, f15, f16, f17, f18, f19, f20, f21, f22, f23, f24, f25, f26, f27, f28, f29, f30, f31, f32, f33, f34, f35, f36, f37, f38, f39, f40, f41, f42, f43, f44, f45, f46, f47, _, _, _, _, _, _, _, _, _, _, _, _, _, _, _, _, _, _, _, _, _, _, _, _⟩ := HS.out wS hSw; clear hSw; go_simp; try with_reducible rfl)
        simp only [Act.put, List.getElem_toArray, List.getElem_cons_zero, List.getElem_cons_succ, List.setIfInBounds_toArray, List.set_cons_zero, List.set_cons_succ]
        refine AUS_take (by kernel_rfl) rfl (i := 31) (oi := _) (v := ?vw27) rfl (by kernel_rfl) (by kernel_rfl) (by kernel_rfl) (fun _ _ _ h => h) (Or.inl ⟨by rfl, ?hz27⟩) hHeld ?rst27
        case hz27 => (intro wS hSw; obtain ⟨_, f0, f1, f2, f3, f4, f5, f6, f7, f8, f9, f10, f11, f12, f13, f14, f15, f16, f17, f18, f19, f20, f21, f22, f23, f24, f25, f26, f27, f28, f29, f30, f31, f32, f33, f34, f35, f36, f37, f38, f39, f40, f41, f42, f43, f44, f45, f46, f47, _, _, _, _, _, _, _, _, _, _, _, _, _, _, _, _, _, _, _, _, _, _, _, _⟩ := HS.out wS hSw; clear hSw; go_simp; try with_reducible rfl)
        simp only [Act.put, List.getElem_toArray, List.getElem_cons_zero, List.getElem_cons_succ, List.setIfInBounds_toArray, List.set_cons_zero, List.set_cons_succ]
        have HH := Lib.hid hHeld
        obtain ⟨hbw, _, _, _, _, _, _, _, _, _, _, _, _, _, _, _, _, _, _, _, _, _, _, _, _, _, _, _, _, _, _, _, _, _, _, _, _, _, _, _, _, _, _, _, _, _, _, _, _, gs0, gs1, gs2, gs3, gs4, gs5, gs6, g20, g21, g22, g23, g24, g25, g26, g27, g28, g29, g30, g31, g40, g41, g42, g43, g44⟩ := HS.out _ hHeld
        refine AU_one (i := 27) (o := _) (by kernel_rfl) rfl (fun K hK => ?_)
        have CC := Lib.hid (least_m (g20.mono (by omega)) (g28.mono (by omega)))
        clear hHeld hbw gs0 gs1 gs2 gs3 gs4 gs5 gs6 g20 g21 g22 g23 g24 g25 g26 g27 g28 g29 g30 g31 g40 g41 g42 g43 g44
        go_simp
        refine CC.out.mono ?_
        clear CC
        rintro e wz6 ⟨a7, n7, c7, rfl, l7, hb⟩
        have hHeld := HH.out.trans (hb.mono HH.out.size)
        clear HH hb
        refine hK.out _ _ (fun _ => hHeld) ?_
        clear hK K
        try simp only [Act.put, List.getElem_toArray, List.getElem_cons_zero, List.getElem_cons_succ, List.setIfInBounds_toArray, List.set_cons_zero, List.set_cons_succ]
        have HH := Lib.hid hHeld
        obtain ⟨hbw, _, _, _, _, _, _, _, _, _, _, _, _, _, _, _, _, _, _, _, _, _, _, _, _, _, _, _, _, _, _, _, _, _, _, _, _, _, _, _, _, _, _, _, _, _, _, _, _, gs0, gs1, gs2, gs3, gs4, gs5, gs6, g20, g21, g22, g23, g24, g25, g26, g27, g28, g29, g30, g31, g40, g41, g42, g43, g44⟩ := HS.out _ hHeld
        refine AU_one (i := 32) (o := _) (by kernel_rfl) rfl (fun K hK => ?_)
        have CC := Lib.hid (rleast_m (g22.mono (by omega)) (g30.mono (by omega)))
        clear hHeld hbw gs0 gs1 gs2 gs3 gs4 gs5 gs6 g20 g21 g22 g23 g24 g25 g26 g27 g28 g29 g30 g31 g40 g41 g42 g43 g44
        go_simp
        refine CC.out.mono ?_
        clear CC
        rintro e wz7 ⟨a8, n8, c8, rfl, l8, hb⟩
        have hHeld := HH.out.trans (hb.mono HH.out.size)
        replace l7 := l7.below hb
        clear HH hb
        refine hK.out _ _ (fun _ => hHeld) ?_
        clear hK K
        try simp only [Act.put, List.getElem_toArray, List.getElem_cons_zero, List.getElem_cons_succ, List.setIfInBounds_toArray, List.set_cons_zero, List.set_cons_succ]
        have HH := Lib.hid hHeld
        obtain ⟨hbw, _, _, _, _, _, _, _, _, _, _, _, _, _, _, _, _, _, _, _, _, _, _, _, _, _, _, _, _, _, _, _, _, _, _, _, _, _, _, _, _, _, _, _, _, _, _, _, _, gs0, gs1, gs2, gs3, gs4, gs5, gs6, g20, g21, g22, g23, g24, g25, g26, g27, g28, g29, g30, g31, g40, g41, g42, g43, g44⟩ := HS.out _ hHeld
        refine AU_one (i := 33) (o := _) (by kernel_rfl) rfl (fun K hK => ?_)
        have CC := ysame_m l7.la l8.la
        rw [EK1.out] at CC
        have CC := Lib.hid CC
        clear hHeld hbw gs0 gs1 gs2 gs3 gs4 gs5 gs6 g20 g21 g22 g23 g24 g25 g26 g27 g28 g29 g30 g31 g40 g41 g42 g43 g44
        go_simp
        refine CC.out.mono ?_
        clear CC
        rintro e wz8 ⟨rfl, hb⟩
        have hHeld := HH.out.trans (hb.mono HH.out.size)
        replace l7 := l7.below hb
        replace l8 := l8.below hb
        clear HH hb
        refine hK.out _ _ (fun _ => hHeld) ?_
        clear hK K
        try simp only [Act.put, List.getElem_toArray, List.getElem_cons_zero, List.getElem_cons_succ, List.setIfInBounds_toArray, List.set_cons_zero, List.set_cons_succ]
        refine AUS_take (by kernel_rfl) rfl (i := 34) (oi := _) (v := ?vw28) rfl (by kernel_rfl) (by kernel_rfl) (by kernel_rfl) (fun _ _ _ h => h) (Or.inl ⟨by rfl, ?hz28⟩) hHeld ?rst28
        case hz28 => (intro wS hSw; obtain ⟨_, f0, f1, f2, f3, f4, f5, f6, f7, f8, f9, f10, f11, f12, f13, f14, f15, f16, f17, f18, f19, f20, f21, f22, f23, f24, f25, f26, f27, f28, f29, f30, f31, f32, f33, f34, f35, f36, f37, f38, f39, f40, f41, f42, f43, f44, f45, f46, f47, _, _, _, _, _, _, _, _, _, _, _, _, _, _, _, _, _, _, _, _, _, _, _, _⟩ := HS.out wS hSw; clear hSw; go_simp; try with_reducible rfl)
        simp only [Act.put, List.getElem_toArray, List.getElem_cons_zero, List.getElem_cons_succ, List.setIfInBounds_toArray, List.set_cons_zero, List.set_cons_succ]
        refine AUS_take (by kernel_rfl) rfl (i := 35) (oi := _) (v := ?vw29) rfl (by kernel_rfl) (by kernel_rfl) (by kernel_rfl) (fun _ _ _ h => h) (Or.inl ⟨by rfl, ?hz29⟩) hHeld ?rst29
        case hz29 => (intro wS hSw; obtain ⟨_, f0, f1, f2, f3, f4, f5, f6, f7, f8, f9, f10, f11, f12, f13, f14, f15, f16, f17, f18, f19, f20, f21, f22, f23, f24, f25, f26, f27, f28, f29, f30, f31, f32, f33, f34, f35, f36, f37, f38, f39, f40, f41, f42, f43, f44, f45, f46, f47, _, _, _, _, _, _, _, _, _, _, _, _, _, _, _, _, _, _, _, _, _, _, _, _⟩ := HS.out wS hSw; clear hSw; go_simp; try with_reducible rfl)
        simp only [Act.put, List.getElem_toArray, List.getElem_cons_zero, List.getElem_cons_succ, List.setIfInBounds_toArray, List.set_cons_zero, List.set_cons_succ]
        refine AUS_take (by kernel_rfl) rfl (i := 36) (oi := _) (v := ?vw30) rfl (by kernel_rfl) (by kernel_rfl) (by kernel_rfl) (fun _ _ _ h => h) (Or.inl ⟨by rfl, ?hz30⟩) hHeld ?rst30
        case hz30 => (intro wS hSw; obtain ⟨_, f0, f1, f2, f3, f4, f5, f6, f7, f8, f9, f10, f11, f12, f13, f14, f15, f16, f17, f18, f19, f20, f21, f22, f23, f24, f25, f26, f27, f28, f29, f30, f31, f32, f33, f34, f35, f36, f37, f38, f39, f40, f41, f42, f43, f44, f45, f46, f47, _, _, _, _, _, _, _, _, _, _, _, _, _, _, _, _, _, _, _, _, _, _, _, _⟩ := HS.out wS hSw; clear hSw; go_simp; try with_reducible rfl)
        simp only [Act.put, List.getElem_toArray, List.getElem_cons_zero, List.getElem_cons_succ, List.setIfInBounds_toArray, List.set_cons_zero, List.set_cons_succ]
        refine AUS_take (by kernel_rfl) rfl (i := 37) (oi := _) (v := ?vw31) rfl (by kernel_rfl) (by kernel_rfl) (by kernel_rfl) (fun _ _ _ h => h) (Or.inl ⟨by rfl, ?hz31⟩) hHeld ?rst31
        case hz31 => (intro wS hSw; obtain ⟨_, f0, f1, f2, f3, f4, f5, f6, f7, f8, f9, f10, f11, f12, f13, f14, f15, f16, f17, f18, f19, f20, f21, f22, f23, f24, f25, f26, f27, f28, f29, f30, f31, f32, f33, f34, f35, f36, f37, f38, f39, f40, f41, f42, f43, f44, f45, f46, f47, _, _, _, _, _, _, _, _, _, _, _, _, _, _, _, _, _, _, _, _, _, _, _, _⟩ := HS.out wS hSw; clear hSw; go_simp; try with_reducible rfl)
        simp only [Act.put, List.getElem_toArray, List.getElem_cons_zero, List.getElem_cons_succ, List.setIfInBounds_toArray, List.set_cons_zero, List.set_cons_succ]
        refine AUS_take (by kernel_rfl) rfl (i := 38) (oi := _) (v := ?vw32) rfl (by kernel_rfl) (by kernel_rfl) (by kernel_rfl) (fun _ _ _ h => h) (Or.inl ⟨by rfl, ?hz32⟩) hHeld ?rst32
        case hz32 => (intro wS hSw; obtain ⟨_, f0, f1, f2, f3, f4, f5, f6, f7, f8, f9, f10, f11, f12, f13, f14, f15, f16, f17, f18, f19, f20, f21, f22, f23, f24, f25, f26, f27, f28, f29, f30, f31, f32, f33, f34, f35, f36, f37, f38, f39, f40, f41, f42, f43, f44, f45, f46, f47, _, _, _, _, _, _, _, _, _, _, _, _, _, _, _, _, _, _, _, _, _, _, _, _⟩ := HS.out wS hSw; clear hSw; go_simp; try with_reducible rfl)
        simp only [Act.put, List.getElem_toArray, List.getElem_cons_zero, List.getElem_cons_succ, List.setIfInBounds_toArray, List.set_cons_zero, List.set_cons_succ]
        refine AUS_take (by kernel_rfl) rfl (i := 39) (oi := _) (v := ?vw33) rfl (by kernel_rfl) (by kernel_rfl) (by kernel_rfl) (fun _ _ _ h => h) (Or.inl ⟨by rfl, ?hz33⟩) hHeld ?rst33
        case hz33 => (intro wS hSw; obtain ⟨_, f0, f1, f2, f3, f4, f5, f6, f7, f8, f9, f10, f11, f12, f13, f14, f15, f16, f17, f18, f19, f20, f21, f22, f23, f24, f25, f26, f27, f28, f29, f30, f31, f32, f33, f34, f35, f36, f37, f38, f39, f40, f41, f42, f43, f44, f45, f46, f47, _, _, _, _, _, _, _, _, _, _, _, _, _, _, _, _, _, _, _, _, _, _, _, _⟩ := HS.out wS hSw; clear hSw; go_simp; try with_reducible rfl)
        simp only [Act.put, List.getElem_toArray, List.getElem_cons_zero, List.getElem_cons_succ, List.setIfInBounds_toArray, List.set_cons_zero, List.set_cons_succ]
        refine AUS_take (by kernel_rfl) rfl (i := 40) (oi := _) (v := ?vw34) rfl (by kernel_rfl) (by kernel_rfl) (by kernel_rfl) (fun _ _ _ h => h) (Or.inl ⟨by rfl, ?hz34⟩) hHeld ?rst34
        case hz34 => (intro wS hSw; obtain ⟨_, f0, f1, f2, f3, f4, f5, f6, f7, f8, f9, f10, f11, f12, f13, f14, f15, f16, f17, f18, f19, f20, f21, f22, f23, f24, f25, f26, f27, f28, f29, f30, f31, f32, f33, f34, f35, f36, f37, f38, f39, f40, f41, f42, f43, f44, f45, f46, f47, _, _, _, _, _, _, _, _, _, _, _, _, _, _, _, _, _, _, _, _, _, _, _, _⟩ := HS.out wS hSw; clear hSw; go_simp; try with_reducible rfl)
        simp only [Act.put, List.getElem_toArray, List.getElem_cons_zero, List.getElem_cons_succ, List.setIfInBounds_toArray, List.set_cons_zero, List.set_cons_succ]
        refine AUS_take (by kernel_rfl) rfl (i := 41) (oi := _) (v := ?vw35) rfl (by kernel_rfl) (by kernel_rfl) (by kernel_rfl) (fun _ _ _ h => h) (Or.inl ⟨by rfl, ?hz35⟩) hHeld ?rst35
        case hz35 => (intro wS hSw; obtain ⟨_, f0, f1, f2, f3, f4, f5, f6, f7, f8, f9, f10, f11, f12, f13, f14, f15, f16, f17, f18, f19, f20, f21, f22, f23, f24, f25, f26, f27, f28, f29, f30, f31, f32, f33, f34, f35, f36, f37, f38, f39, f40, f41, f42, f43, f44, f45, f46, f47, _, _, _, _, _, _, _, _, _, _, _, _, _, _, _, _, _, _, _, _, _, _, _, _⟩ := HS.out wS hSw; clear hSw; go_simp; try with_reducible rfl)
        simp only [Act.put, List.getElem_toArray, List.getElem_cons_zero, List.getElem_cons_succ, List.setIfInBounds_toArray, List.set_cons_zero, List.set_cons_succ]
        refine AUS_take (by kernel_rfl) rfl (i := 42) (oi := _) (v := ?vw36) rfl (by kernel_rfl) (by kernel_rfl) (by kernel_rfl) (fun _ _ _ h => h) (Or.inl ⟨by rfl, ?hz36⟩) hHeld ?rst36
        case hz36 => (intro wS hSw; obtain ⟨_, f0, f1, f2, f3, f4, f5, f6, f7, f8, f9, f10, f11, f12, f13, f14, f15, f16, f17, f18, f19, f20, f21, f22, f23, f24, f25, f26, f27, f28, f29, f30, f31, f32, f33, f34, f35, f36, f37, f38, f39, f40, f41, f42, f43, f44, f45, f46, f47, _, _, _, _, _, _, _, _, _, _, _, _, _, _, _, _, _, _, _, _, _, _, _, _⟩ := HS.out wS hSw; clear hSw; go_simp; try with_reducible rfl)
        simp only [Act.put, List.getElem_toArray, List.getElem_cons_zero, List.getElem_cons_succ, List.setIfInBounds_toArray, List.set_cons_zero, List.set_cons_succ]
        have HH := Lib.hid hHeld
        obtain ⟨hbw, _, _, _, _, _, _, _, _, _, _, _, _, _, _, _, _, _, _, _, _, _, _, _, _, _, _, _, _, _, _, _, _, _, _, _, _, _, _, _, _, _, _, _, _, _, _, _, _, gs0, gs1, gs2, gs3, gs4, gs5, gs6, g20, g21, g22, g23, g24, g25, g26, g27, g28, g29, g30, g31, g40, g41, g42, g43, g44⟩ := HS.out _ hHeld
        refine AU_one (i := 43) (o := _) (by kernel_rfl) rfl (fun K hK => ?_)
        have CC := samew_m (g41.mono (by omega)) (g42.mono (by omega)) (g43.mono (by omega)) (g44.mono (by omega))
        rw [EK2.out] at CC
        have CC := Lib.hid CC
        clear hHeld hbw gs0 gs1 gs2 gs3 gs4 gs5 gs6 g20 g21 g22 g23 g24 g25 g26 g27 g28 g29 g30 g31 g40 g41 g42 g43 g44
        go_simp
        refine CC.out.mono ?_
        clear CC
        rintro e wz9 ⟨rfl, hb⟩
        have hHeld := HH.out.trans (hb.mono HH.out.size)
        replace l7 := l7.below hb
        replace l8 := l8.below hb
        clear HH hb
        refine hK.out _ _ (fun _ => hHeld) ?_
        clear hK K
        try simp only [Act.put, List.getElem_toArray, List.getElem_cons_zero, List.getElem_cons_succ, List.setIfInBounds_toArray, List.set_cons_zero, List.set_cons_succ]
        refine AUS_take (by kernel_rfl) rfl (i := 44) (oi := _) (v := ?vw37) rfl (by kernel_rfl) (by kernel_rfl) (by kernel_rfl) (fun _ _ _ h => h) (Or.inl ⟨by rfl, ?hz37⟩) hHeld ?rst37
        case hz37 => (intro wS hSw; obtain ⟨_, f0, f1, f2, f3, f4, f5, f6, f7, f8, f9, f10, f11, f12, f13, f14, f15, f16, f17, f18, f19, f20, f21, f22, f23, f24, f25, f26, f27, f28, f29, f30, f31, f32, f33, f34, f35, f36, f37, f38, f39, f40, f41, f42, f43, f44, f45, f46, f47, _, _, _, _, _, _, _, _, _, _, _, _, _, _, _, _, _, _, _, _, _, _, _, _⟩ := HS.out wS hSw; clear hSw; go_simp; try with_reducible rfl)
        simp only [Act.put, List.getElem_toArray, List.getElem_cons_zero, List.getElem_cons_succ, List.setIfInBounds_toArray, List.set_cons_zero, List.set_cons_succ]
        refine AUS_take (by kernel_rfl) rfl (i := 45) (oi := _) (v := ?vw38) rfl (by kernel_rfl) (by kernel_rfl) (by kernel_rfl) (fun _ _ _ h => h) (Or.inl ⟨by rfl, ?hz38⟩) hHeld ?rst38
        case hz38 => (intro wS hSw; obtain ⟨_, f0, f1, f2, f3, f4, f5, f6, f7, f8, f9, f10, f11, f12, f13, f14, f15, f16, f17, f18, f19, f20, f21, f22, f23, f24, f25, f26, f27, f28, f29, f30, f31, f32, f33, f34, f35, f36, f37, f38, f39, f40, f41, f42, f43, f44, f45, f46, f47, _, _, _, _, _, _, _, _, _, _, _, _, _, _, _, _, _, _, _, _, _, _, _, _⟩ := HS.out wS hSw; clear hSw; go_simp; try with_reducible rfl)
        simp only [Act.put, List.getElem_toArray, List.getElem_cons_zero, List.getElem_cons_succ, List.setIfInBounds_toArray, List.set_cons_zero, List.set_cons_succ]
        have HE := Lib.hid hHeld
        clear hHeld
        refine AU_done (by kernel_rfl) ?_ _
        simp only [OnlyN]
        have hHeld := HE.out
        clear HE
        have HE := Lib.hid (HS.out _ hHeld).1
        clear hHeld
        go_wp2_with fail
        go_ret
        exact ⟨rfl, HE.out⟩
end Go.Proofs.Ytmbdglhihakkjaa
