/- RulesAsk. -/
import Derived.Test.YtmbdglhihakkjaaQn
import Derived.Test.YtmbdglhihakkjaaQi
import Derived.Test.YtmbdglhihakkjaaQh
import Derived.Lib.QuietBelow
import Derived.BigQuiet
set_option linter.unusedVariables false
set_option linter.unusedSimpArgs false
namespace Go.Proofs.Ytmbdglhihakkjaa
open Go.RowKit
set_option linter.unusedVariables false
set_option linter.unusedSimpArgs false
set_option maxHeartbeats 40000000 in
set_option maxRecDepth 100000 in
theorem ask_all {w : World} (S0 : Int) {sa0 : Option Addr} {sn0 sc0 : Nat} {ls0 : List Int} (S1 : Int) {sa1 : Option Addr} {sn1 sc1 : Nat} {ls1 : List Int} (S2 : Int) {sa2 : Option Addr} {sn2 sc2 : Nat} {ls2 : List Int} (S3 : Int) {sa3 : Option Addr} {sn3 sc3 : Nat} {ls3 : List Int}   (h0 : IntsL w (.slice sa0 sn0 sc0) ls0) (h1 : IntsL w (.slice sa1 sn1 sc1) ls1) (h2 : IntsL w (.slice sa2 sn2 sc2) ls2) (h3 : IntsL w (.slice sa3 sn3 sc3) ls3) : Calls Try.prog 3 #[.agg #[.int .i64 S0, .slice sa0 sn0 sc0, .int .i64 S1, .slice sa1 sn1 sc1, .int .i64 S2, .slice sa2 sn2 sc2, .int .i64 S3, .slice sa3 sn3 sc3]] w (BB w true) := by
  obtain ⟨D0, eD0⟩ : ∃ D, Lab.seedD S0 = D := ⟨_, rfl⟩
  obtain ⟨P0, eP0⟩ : ∃ P, Lab.seedP S0 ls0 = P := ⟨_, rfl⟩
  have hfs0 := Lab.fine_seed S0 ls0
  rw [eD0, eP0] at hfs0
  have FS0 := Lib.hid hfs0
  have CS0 := Lib.hid (fun (W : World) (h : IntsL W (.slice sa0 sn0 sc0) ls0) => (by have := seed_m S0 sa0 sn0 sc0 ls0 W h; rwa [eD0, eP0] at this : Calls Try.prog 12 #[.agg #[.int .i64 S0, .slice sa0 sn0 sc0]] W (LM 12 W D0 P0)))
  clear hfs0 eD0 eP0
  obtain ⟨D1, eD1⟩ : ∃ D, Lab.seedD S1 = D := ⟨_, rfl⟩
  obtain ⟨P1, eP1⟩ : ∃ P, Lab.seedP S1 ls1 = P := ⟨_, rfl⟩
  have hfs1 := Lab.fine_seed S1 ls1
  rw [eD1, eP1] at hfs1
  have FS1 := Lib.hid hfs1
  have CS1 := Lib.hid (fun (W : World) (h : IntsL W (.slice sa1 sn1 sc1) ls1) => (by have := seed_m S1 sa1 sn1 sc1 ls1 W h; rwa [eD1, eP1] at this : Calls Try.prog 12 #[.agg #[.int .i64 S1, .slice sa1 sn1 sc1]] W (LM 12 W D1 P1)))
  clear hfs1 eD1 eP1
  obtain ⟨D2, eD2⟩ : ∃ D, Lab.seedD S2 = D := ⟨_, rfl⟩
  obtain ⟨P2, eP2⟩ : ∃ P, Lab.seedP S2 ls2 = P := ⟨_, rfl⟩
  have hfs2 := Lab.fine_seed S2 ls2
  rw [eD2, eP2] at hfs2
  have FS2 := Lib.hid hfs2
  have CS2 := Lib.hid (fun (W : World) (h : IntsL W (.slice sa2 sn2 sc2) ls2) => (by have := seed_m S2 sa2 sn2 sc2 ls2 W h; rwa [eD2, eP2] at this : Calls Try.prog 12 #[.agg #[.int .i64 S2, .slice sa2 sn2 sc2]] W (LM 12 W D2 P2)))
  clear hfs2 eD2 eP2
  obtain ⟨D3, eD3⟩ : ∃ D, Lab.seedD S3 = D := ⟨_, rfl⟩
  obtain ⟨P3, eP3⟩ : ∃ P, Lab.seedP S3 ls3 = P := ⟨_, rfl⟩
  have hfs3 := Lab.fine_seed S3 ls3
  rw [eD3, eP3] at hfs3
  have FS3 := Lib.hid hfs3
  have CS3 := Lib.hid (fun (W : World) (h : IntsL W (.slice sa3 sn3 sc3) ls3) => (by have := seed_m S3 sa3 sn3 sc3 ls3 W h; rwa [eD3, eP3] at this : Calls Try.prog 12 #[.agg #[.int .i64 S3, .slice sa3 sn3 sc3]] W (LM 12 W D3 P3)))
  clear hfs3 eD3 eP3
  obtain ⟨W0, e0⟩ : ∃ W0, W0 = (w.alloc (Obj.cells #[.int .i64 S0, .slice sa0 sn0 sc0, .int .i64 S1, .slice sa1 sn1 sc1, .int .i64 S2, .slice sa2 sn2 sc2, .int .i64 S3, .slice sa3 sn3 sc3] 25)) := ⟨_, rfl⟩
  have hB : Below w.heap.size w W0 := by rw [e0]; exact ((Below.refl w.heap.size w).alloc (by omega) _)
  have hk0 : W0.heap[w.heap.size]? = some (Obj.cells #[.int .i64 S0, .slice sa0 sn0 sc0, .int .i64 S1, .slice sa1 sn1 sc1, .int .i64 S2, .slice sa2 sn2 sc2, .int .i64 S3, .slice sa3 sn3 sc3] 25) := by
    rw [e0]
    have := heap_alloc_new w (Obj.cells #[.int .i64 S0, .slice sa0 sn0 sc0, .int .i64 S1, .slice sa1 sn1 sc1, .int .i64 S2, .slice sa2 sn2 sc2, .int .i64 S3, .slice sa3 sn3 sc3] 25); simpa using this
  have HS := Lib.hid (fun (wx : World) (hx : Below W0.heap.size W0 wx) => (by
      have hw : Below w.heap.size w wx := hB.trans (hx.mono hB.size)
      have r0 := block_below hk0 hx
      exact ⟨hw, by rw [cell_of_row _ _ 0 _ 25 (0, 0) r0]; rfl, by rw [cell_of_row _ _ 1 _ 25 (0, 0) r0]; rfl, by rw [cell_of_row _ _ 2 _ 25 (0, 0) r0]; rfl, by rw [cell_of_row _ _ 3 _ 25 (0, 0) r0]; rfl, by rw [cell_of_row _ _ 4 _ 25 (0, 0) r0]; rfl, by rw [cell_of_row _ _ 5 _ 25 (0, 0) r0]; rfl, by rw [cell_of_row _ _ 6 _ 25 (0, 0) r0]; rfl, by rw [cell_of_row _ _ 7 _ 25 (0, 0) r0]; rfl, h0.below hw, h1.below hw, h2.below hw, h3.below hw⟩ : Below w.heap.size w wx ∧ wx.cell? ⟨w.heap.size, 0, none⟩ = some (.int .i64 S0) ∧ wx.cell? ⟨w.heap.size, 1, none⟩ = some (.slice sa0 sn0 sc0) ∧ wx.cell? ⟨w.heap.size, 2, none⟩ = some (.int .i64 S1) ∧ wx.cell? ⟨w.heap.size, 3, none⟩ = some (.slice sa1 sn1 sc1) ∧ wx.cell? ⟨w.heap.size, 4, none⟩ = some (.int .i64 S2) ∧ wx.cell? ⟨w.heap.size, 5, none⟩ = some (.slice sa2 sn2 sc2) ∧ wx.cell? ⟨w.heap.size, 6, none⟩ = some (.int .i64 S3) ∧ wx.cell? ⟨w.heap.size, 7, none⟩ = some (.slice sa3 sn3 sc3) ∧ IntsL wx (.slice sa0 sn0 sc0) ls0 ∧ IntsL wx (.slice sa1 sn1 sc1) ls1 ∧ IntsL wx (.slice sa2 sn2 sc2) ls2 ∧ IntsL wx (.slice sa3 sn3 sc3) ls3))
  clear h0 h1 h2 h3 hB hk0
  go_enter Try.func3, Try.ntmps3
  go_wp2_with fail
  rw [← e0]
  clear e0
  refine (fit_m _).mono ?_
  rintro e w1 ⟨rfl, hb1⟩
  have HB1 := Lib.hid hb1
  have HS1 := Lib.hid (fun (wx : World) (hx : Below w1.heap.size w1 wx) => HS.out wx (HB1.out.trans (hx.mono HB1.out.size)))
  clear HS
  have HS := HS1
  clear HS1 HB1 hb1
  go_upto_region 3 with fail
  have KS0 := Lib.hid (fun (W : World) (h : Below w1.heap.size w1 W) => (by obtain ⟨_, _, _, _, _, _, _, _, _, hi, _, _, _⟩ := HS.out W h; exact CS0.out W hi : Calls Try.prog 12 #[.agg #[.int .i64 S0, .slice sa0 sn0 sc0]] W (LM 12 W D0 P0)))
  have KS1 := Lib.hid (fun (W : World) (h : Below w1.heap.size w1 W) => (by obtain ⟨_, _, _, _, _, _, _, _, _, _, hi, _, _⟩ := HS.out W h; exact CS1.out W hi : Calls Try.prog 12 #[.agg #[.int .i64 S1, .slice sa1 sn1 sc1]] W (LM 12 W D1 P1)))
  have KS2 := Lib.hid (fun (W : World) (h : Below w1.heap.size w1 W) => (by obtain ⟨_, _, _, _, _, _, _, _, _, _, _, hi, _⟩ := HS.out W h; exact CS2.out W hi : Calls Try.prog 12 #[.agg #[.int .i64 S2, .slice sa2 sn2 sc2]] W (LM 12 W D2 P2)))
  have KS3 := Lib.hid (fun (W : World) (h : Below w1.heap.size w1 W) => (by obtain ⟨_, _, _, _, _, _, _, _, _, _, _, _, hi⟩ := HS.out W h; exact CS3.out W hi : Calls Try.prog 12 #[.agg #[.int .i64 S3, .slice sa3 sn3 sc3]] W (LM 12 W D3 P3)))
  go_cut [3, 4, 5, 6, 11, 12, 13, 14, 15, 16, 17, 18, 19, 20, 21, 22] (fun s3 s4 s5 s6 s11 s12 s13 s14 s15 s16 s17 s18 s19 s20 s21 s22 wx => ∃ V3 a20 n20 c20 V4 a21 n21 c21 V5 a22 n22 c22 V6 a23 n23 c23, s3 = .pointer (some ⟨V3, 0, none⟩) ∧ s4 = .pointer (some ⟨V4, 0, none⟩) ∧ s5 = .pointer (some ⟨V5, 0, none⟩) ∧ s6 = .pointer (some ⟨V6, 0, none⟩) ∧ Hid (VL wx V3 D0 a20 n20 c20 P0 ∧ VL wx V4 D1 a21 n21 c21 P1 ∧ VL wx V5 D2 a22 n22 c22 P2 ∧ VL wx V6 D3 a23 n23 c23 P3 ∧ Below w1.heap.size w1 wx))
  case first =>
    refine wp_region_any (by kernel_rfl) ?_
    refine wpAny_inv (I := fun L a wz => ∃ y3 y4 y5 y6 y11 y12 y13 y14 y15 y16 y17 y18 y19 y20 y21 y22 : Value, a = { tmps := #[.agg #[.int .i64 S0, .slice sa0 sn0 sc0, .int .i64 S1, .slice sa1 sn1 sc1, .int .i64 S2, .slice sa2 sn2 sc2, .int .i64 S3, .slice sa3 sn3 sc3], .pointer (some ⟨w.heap.size, 0, none⟩), .bool false, y3, y4, y5, y6, undef, undef, .bool true, .bool false, y11, y12, y13, y14, y15, y16, y17, y18, y19, y20, y21, y22, undef, undef, undef, undef, undef, undef, undef, undef, undef, undef, undef, undef, undef, undef, undef, undef, undef, undef, undef, undef, undef, undef, undef, undef, undef, undef, undef, undef, undef, undef, undef, undef, undef, undef, undef, undef, undef, undef, undef, undef, undef, undef, undef, undef, undef, undef, undef, undef, undef, undef, undef, undef, undef, undef, undef, undef, undef, undef, undef, undef, undef, undef, undef, undef, undef, undef, undef, undef, undef, undef, undef, undef, undef, undef, undef, undef], defers := [] } ∧ Hid (L.size = 20 ∧ Below w1.heap.size w1 wz ∧ (L[0]? = some true → y11 = .pointer (some ⟨w.heap.size, 0, none⟩)) ∧ (L[1]? = some true → y12 = .agg #[.int .i64 S0, .slice sa0 sn0 sc0]) ∧ (L[2]? = some true → CV w1 wz D0 P0 y13) ∧ (L[3]? = some true → y14 = .pointer (some ⟨w.heap.size, 2, none⟩)) ∧ (L[4]? = some true → y15 = .agg #[.int .i64 S1, .slice sa1 sn1 sc1]) ∧ (L[5]? = some true → CV w1 wz D1 P1 y16) ∧ (L[6]? = some true → y17 = .pointer (some ⟨w.heap.size, 4, none⟩)) ∧ (L[7]? = some true → y18 = .agg #[.int .i64 S2, .slice sa2 sn2 sc2]) ∧ (L[8]? = some true → CV w1 wz D2 P2 y19) ∧ (L[9]? = some true → y20 = .pointer (some ⟨w.heap.size, 6, none⟩)) ∧ (L[10]? = some true → y21 = .agg #[.int .i64 S3, .slice sa3 sn3 sc3]) ∧ (L[11]? = some true → CV w1 wz D3 P3 y22) ∧ (L[12]? = some true → N2 w1 wz 29 y3) ∧ (L[13]? = some true → N2 w1 wz 29 y4) ∧ (L[14]? = some true → N2 w1 wz 29 y5) ∧ (L[15]? = some true → N2 w1 wz 29 y6) ∧ (L[12]? = some true → L[13]? = some true → y3 ≠ y4) ∧ (L[12]? = some true → L[14]? = some true → y3 ≠ y5) ∧ (L[12]? = some true → L[15]? = some true → y3 ≠ y6) ∧ (L[13]? = some true → L[14]? = some true → y4 ≠ y5) ∧ (L[13]? = some true → L[15]? = some true → y4 ≠ y6) ∧ (L[14]? = some true → L[15]? = some true → y5 ≠ y6) ∧ (L[16]? = some true → HV wz 29 y3 y13) ∧ (L[17]? = some true → HV wz 29 y4 y16) ∧ (L[18]? = some true → HV wz 29 y5 y19) ∧ (L[19]? = some true → HV wz 29 y6 y22) ∧ (L[16]? = some true → (L[12]? = some true ∧ L[2]? = some true)) ∧ (L[17]? = some true → (L[13]? = some true ∧ L[5]? = some true)) ∧ (L[18]? = some true → (L[14]? = some true ∧ L[8]? = some true)) ∧ (L[19]? = some true → (L[15]? = some true ∧ L[11]? = some true)))) ?step1 ?fin1 _ _ _ _ ⟨_, _, _, _, _, _, _, _, _, _, _, _, _, _, _, _, rfl, Lib.hid ⟨by rfl, Below.drew (Below.refl _ _), gone (by rfl), gone (by rfl), gone (by rfl), gone (by rfl), gone (by rfl), gone (by rfl), gone (by rfl), gone (by rfl), gone (by rfl), gone (by rfl), gone (by rfl), gone (by rfl), gone (by rfl), gone (by rfl), gone (by rfl), gone (by rfl), gone (by rfl), gone (by rfl), gone (by rfl), gone (by rfl), gone (by rfl), gone (by rfl), gone (by rfl), gone (by rfl), gone (by rfl), gone (by rfl), gone (by rfl), gone (by rfl), gone (by rfl), gone (by rfl)⟩⟩ (by decide)
    case step1 =>
      intro L a wz i o hI ho hL hdeps K hK
      obtain ⟨y3, y4, y5, y6, y11, y12, y13, y14, y15, y16, y17, y18, y19, y20, y21, y22, rfl, hinv⟩ := hI
      have hi : i < 20 := by have := (Array.getElem?_eq_some_iff.1 ho).1; exact this
      obtain ⟨hN, hbel, z0, z1, z2, z3, z4, z5, z6, z7, z8, z9, z10, z11, z12, z13, z14, z15, z16, z17, z18, z19, z20, z21, z22, z23, z24, z25, z26, z27, z28, z29⟩ := hinv.out
      obtain rfl | rfl | rfl | rfl | rfl | rfl | rfl | rfl | rfl | rfl | rfl | rfl | rfl | rfl | rfl | rfl | rfl | rfl | rfl | rfl : i = 0 ∨ i = 1 ∨ i = 2 ∨ i = 3 ∨ i = 4 ∨ i = 5 ∨ i = 6 ∨ i = 7 ∨ i = 8 ∨ i = 9 ∨ i = 10 ∨ i = 11 ∨ i = 12 ∨ i = 13 ∨ i = 14 ∨ i = 15 ∨ i = 16 ∨ i = 17 ∨ i = 18 ∨ i = 19 := by omega
      · as_aux_lemma =>
        obtain rfl := Option.some.inj ho
        have Z := hinv
        clear hinv ho hbel hN hdeps z0 z1 z2 z3 z4 z5 z6 z7 z8 z9 z10 z11 z12 z13 z14 z15 z16 z17 z18 z19 z20 z21 z22 z23 z24 z25 z26 z27 z28 z29
        go_simp
        obtain ⟨hN, hbel, z0, z1, z2, z3, z4, z5, z6, z7, z8, z9, z10, z11, z12, z13, z14, z15, z16, z17, z18, z19, z20, z21, z22, z23, z24, z25, z26, z27, z28, z29⟩ := Z.out
        exact hK _ _ ⟨_, _, _, _, _, _, _, _, _, _, _, _, _, _, _, _, rfl, Lib.hid ⟨by simpa using hN, hbel, fun _ => rfl, fun g0 => (z1 ((set_other (by decide)).symm.trans g0)), fun g0 => (z2 ((set_other (by decide)).symm.trans g0)), fun g0 => (z3 ((set_other (by decide)).symm.trans g0)), fun g0 => (z4 ((set_other (by decide)).symm.trans g0)), fun g0 => (z5 ((set_other (by decide)).symm.trans g0)), fun g0 => (z6 ((set_other (by decide)).symm.trans g0)), fun g0 => (z7 ((set_other (by decide)).symm.trans g0)), fun g0 => (z8 ((set_other (by decide)).symm.trans g0)), fun g0 => (z9 ((set_other (by decide)).symm.trans g0)), fun g0 => (z10 ((set_other (by decide)).symm.trans g0)), fun g0 => (z11 ((set_other (by decide)).symm.trans g0)), fun g0 => (z12 ((set_other (by decide)).symm.trans g0)), fun g0 => (z13 ((set_other (by decide)).symm.trans g0)), fun g0 => (z14 ((set_other (by decide)).symm.trans g0)), fun g0 => (z15 ((set_other (by decide)).symm.trans g0)), fun g0 g1 => (z16 ((set_other (by decide)).symm.trans g0) ((set_other (by decide)).symm.trans g1)), fun g0 g1 => (z17 ((set_other (by decide)).symm.trans g0) ((set_other (by decide)).symm.trans g1)), fun g0 g1 => (z18 ((set_other (by decide)).symm.trans g0) ((set_other (by decide)).symm.trans g1)), fun g0 g1 => (z19 ((set_other (by decide)).symm.trans g0) ((set_other (by decide)).symm.trans g1)), fun g0 g1 => (z20 ((set_other (by decide)).symm.trans g0) ((set_other (by decide)).symm.trans g1)), fun g0 g1 => (z21 ((set_other (by decide)).symm.trans g0) ((set_other (by decide)).symm.trans g1)), fun g0 => (z22 ((set_other (by decide)).symm.trans g0)), fun g0 => (z23 ((set_other (by decide)).symm.trans g0)), fun g0 => (z24 ((set_other (by decide)).symm.trans g0)), fun g0 => (z25 ((set_other (by decide)).symm.trans g0)), fun g0 => ⟨set_keep (z26 ((set_other (by decide)).symm.trans g0)).1, set_keep (z26 ((set_other (by decide)).symm.trans g0)).2⟩, fun g0 => ⟨set_keep (z27 ((set_other (by decide)).symm.trans g0)).1, set_keep (z27 ((set_other (by decide)).symm.trans g0)).2⟩, fun g0 => ⟨set_keep (z28 ((set_other (by decide)).symm.trans g0)).1, set_keep (z28 ((set_other (by decide)).symm.trans g0)).2⟩, fun g0 => ⟨set_keep (z29 ((set_other (by decide)).symm.trans g0)).1, set_keep (z29 ((set_other (by decide)).symm.trans g0)).2⟩⟩⟩
      · as_aux_lemma =>
        obtain rfl := Option.some.inj ho
        have e0 := z0 (dep (by simp [Region.binds] at hdeps ⊢; simp [hdeps]))
        subst e0
        obtain ⟨_, b0, b1, _, _, _, _, _, _, _, _, _, _⟩ := HS.out wz hbel
        have Z := hinv
        clear hinv ho hbel hN hdeps z0 z1 z2 z3 z4 z5 z6 z7 z8 z9 z10 z11 z12 z13 z14 z15 z16 z17 z18 z19 z20 z21 z22 z23 z24 z25 z26 z27 z28 z29
        go_simp
        obtain ⟨hN, hbel, z0, z1, z2, z3, z4, z5, z6, z7, z8, z9, z10, z11, z12, z13, z14, z15, z16, z17, z18, z19, z20, z21, z22, z23, z24, z25, z26, z27, z28, z29⟩ := Z.out
        exact hK _ _ ⟨_, _, _, _, _, _, _, _, _, _, _, _, _, _, _, _, rfl, Lib.hid ⟨by simpa using hN, hbel, fun g0 => (z0 ((set_other (by decide)).symm.trans g0)), fun _ => rfl, fun g0 => (z2 ((set_other (by decide)).symm.trans g0)), fun g0 => (z3 ((set_other (by decide)).symm.trans g0)), fun g0 => (z4 ((set_other (by decide)).symm.trans g0)), fun g0 => (z5 ((set_other (by decide)).symm.trans g0)), fun g0 => (z6 ((set_other (by decide)).symm.trans g0)), fun g0 => (z7 ((set_other (by decide)).symm.trans g0)), fun g0 => (z8 ((set_other (by decide)).symm.trans g0)), fun g0 => (z9 ((set_other (by decide)).symm.trans g0)), fun g0 => (z10 ((set_other (by decide)).symm.trans g0)), fun g0 => (z11 ((set_other (by decide)).symm.trans g0)), fun g0 => (z12 ((set_other (by decide)).symm.trans g0)), fun g0 => (z13 ((set_other (by decide)).symm.trans g0)), fun g0 => (z14 ((set_other (by decide)).symm.trans g0)), fun g0 => (z15 ((set_other (by decide)).symm.trans g0)), fun g0 g1 => (z16 ((set_other (by decide)).symm.trans g0) ((set_other (by decide)).symm.trans g1)), fun g0 g1 => (z17 ((set_other (by decide)).symm.trans g0) ((set_other (by decide)).symm.trans g1)), fun g0 g1 => (z18 ((set_other (by decide)).symm.trans g0) ((set_other (by decide)).symm.trans g1)), fun g0 g1 => (z19 ((set_other (by decide)).symm.trans g0) ((set_other (by decide)).symm.trans g1)), fun g0 g1 => (z20 ((set_other (by decide)).symm.trans g0) ((set_other (by decide)).symm.trans g1)), fun g0 g1 => (z21 ((set_other (by decide)).symm.trans g0) ((set_other (by decide)).symm.trans g1)), fun g0 => (z22 ((set_other (by decide)).symm.trans g0)), fun g0 => (z23 ((set_other (by decide)).symm.trans g0)), fun g0 => (z24 ((set_other (by decide)).symm.trans g0)), fun g0 => (z25 ((set_other (by decide)).symm.trans g0)), fun g0 => ⟨set_keep (z26 ((set_other (by decide)).symm.trans g0)).1, set_keep (z26 ((set_other (by decide)).symm.trans g0)).2⟩, fun g0 => ⟨set_keep (z27 ((set_other (by decide)).symm.trans g0)).1, set_keep (z27 ((set_other (by decide)).symm.trans g0)).2⟩, fun g0 => ⟨set_keep (z28 ((set_other (by decide)).symm.trans g0)).1, set_keep (z28 ((set_other (by decide)).symm.trans g0)).2⟩, fun g0 => ⟨set_keep (z29 ((set_other (by decide)).symm.trans g0)).1, set_keep (z29 ((set_other (by decide)).symm.trans g0)).2⟩⟩⟩
      · as_aux_lemma =>
        obtain rfl := Option.some.inj ho
        have e0 := z1 (dep (by simp [Region.binds] at hdeps ⊢; simp [hdeps]))
        subst e0
        have CC := Lib.hid (KS0.out wz hbel)
        have Z := hinv
        clear hinv ho hbel hN hdeps z0 z1 z2 z3 z4 z5 z6 z7 z8 z9 z10 z11 z12 z13 z14 z15 z16 z17 z18 z19 z20 z21 z22 z23 z24 z25 z26 z27 z28 z29
        go_simp
        refine CC.out.mono ?_
        rintro e wq ⟨a, n, c, rfl, how, hb'⟩
        obtain ⟨hN, hbel, z0, z1, z2, z3, z4, z5, z6, z7, z8, z9, z10, z11, z12, z13, z14, z15, z16, z17, z18, z19, z20, z21, z22, z23, z24, z25, z26, z27, z28, z29⟩ := Z.out
        exact hK _ _ ⟨_, _, _, _, _, _, _, _, _, _, _, _, _, _, _, _, rfl, Lib.hid ⟨by simpa using hN, hbel.trans (hb'.mono hbel.size), fun g0 => (z0 ((set_other (by decide)).symm.trans g0)), fun g0 => (z1 ((set_other (by decide)).symm.trans g0)), fun _ => ⟨a, n, c, rfl, how.base hbel.size⟩, fun g0 => (z3 ((set_other (by decide)).symm.trans g0)), fun g0 => (z4 ((set_other (by decide)).symm.trans g0)), fun g0 => (z5 ((set_other (by decide)).symm.trans g0)).below hb', fun g0 => (z6 ((set_other (by decide)).symm.trans g0)), fun g0 => (z7 ((set_other (by decide)).symm.trans g0)), fun g0 => (z8 ((set_other (by decide)).symm.trans g0)).below hb', fun g0 => (z9 ((set_other (by decide)).symm.trans g0)), fun g0 => (z10 ((set_other (by decide)).symm.trans g0)), fun g0 => (z11 ((set_other (by decide)).symm.trans g0)).below hb', fun g0 => (z12 ((set_other (by decide)).symm.trans g0)).below hb', fun g0 => (z13 ((set_other (by decide)).symm.trans g0)).below hb', fun g0 => (z14 ((set_other (by decide)).symm.trans g0)).below hb', fun g0 => (z15 ((set_other (by decide)).symm.trans g0)).below hb', fun g0 g1 => (z16 ((set_other (by decide)).symm.trans g0) ((set_other (by decide)).symm.trans g1)), fun g0 g1 => (z17 ((set_other (by decide)).symm.trans g0) ((set_other (by decide)).symm.trans g1)), fun g0 g1 => (z18 ((set_other (by decide)).symm.trans g0) ((set_other (by decide)).symm.trans g1)), fun g0 g1 => (z19 ((set_other (by decide)).symm.trans g0) ((set_other (by decide)).symm.trans g1)), fun g0 g1 => (z20 ((set_other (by decide)).symm.trans g0) ((set_other (by decide)).symm.trans g1)), fun g0 g1 => (z21 ((set_other (by decide)).symm.trans g0) ((set_other (by decide)).symm.trans g1)), fun g0 => not_done hL (z26 (((set_other (by decide)).symm.trans g0))).2, fun g0 => (z23 ((set_other (by decide)).symm.trans g0)).below hb', fun g0 => (z24 ((set_other (by decide)).symm.trans g0)).below hb', fun g0 => (z25 ((set_other (by decide)).symm.trans g0)).below hb', fun g0 => not_done hL (z26 (((set_other (by decide)).symm.trans g0))).2, fun g0 => ⟨set_keep (z27 ((set_other (by decide)).symm.trans g0)).1, set_keep (z27 ((set_other (by decide)).symm.trans g0)).2⟩, fun g0 => ⟨set_keep (z28 ((set_other (by decide)).symm.trans g0)).1, set_keep (z28 ((set_other (by decide)).symm.trans g0)).2⟩, fun g0 => ⟨set_keep (z29 ((set_other (by decide)).symm.trans g0)).1, set_keep (z29 ((set_other (by decide)).symm.trans g0)).2⟩⟩⟩
      · as_aux_lemma =>
        obtain rfl := Option.some.inj ho
        have Z := hinv
        clear hinv ho hbel hN hdeps z0 z1 z2 z3 z4 z5 z6 z7 z8 z9 z10 z11 z12 z13 z14 z15 z16 z17 z18 z19 z20 z21 z22 z23 z24 z25 z26 z27 z28 z29
        go_simp
        obtain ⟨hN, hbel, z0, z1, z2, z3, z4, z5, z6, z7, z8, z9, z10, z11, z12, z13, z14, z15, z16, z17, z18, z19, z20, z21, z22, z23, z24, z25, z26, z27, z28, z29⟩ := Z.out
        exact hK _ _ ⟨_, _, _, _, _, _, _, _, _, _, _, _, _, _, _, _, rfl, Lib.hid ⟨by simpa using hN, hbel, fun g0 => (z0 ((set_other (by decide)).symm.trans g0)), fun g0 => (z1 ((set_other (by decide)).symm.trans g0)), fun g0 => (z2 ((set_other (by decide)).symm.trans g0)), fun _ => rfl, fun g0 => (z4 ((set_other (by decide)).symm.trans g0)), fun g0 => (z5 ((set_other (by decide)).symm.trans g0)), fun g0 => (z6 ((set_other (by decide)).symm.trans g0)), fun g0 => (z7 ((set_other (by decide)).symm.trans g0)), fun g0 => (z8 ((set_other (by decide)).symm.trans g0)), fun g0 => (z9 ((set_other (by decide)).symm.trans g0)), fun g0 => (z10 ((set_other (by decide)).symm.trans g0)), fun g0 => (z11 ((set_other (by decide)).symm.trans g0)), fun g0 => (z12 ((set_other (by decide)).symm.trans g0)), fun g0 => (z13 ((set_other (by decide)).symm.trans g0)), fun g0 => (z14 ((set_other (by decide)).symm.trans g0)), fun g0 => (z15 ((set_other (by decide)).symm.trans g0)), fun g0 g1 => (z16 ((set_other (by decide)).symm.trans g0) ((set_other (by decide)).symm.trans g1)), fun g0 g1 => (z17 ((set_other (by decide)).symm.trans g0) ((set_other (by decide)).symm.trans g1)), fun g0 g1 => (z18 ((set_other (by decide)).symm.trans g0) ((set_other (by decide)).symm.trans g1)), fun g0 g1 => (z19 ((set_other (by decide)).symm.trans g0) ((set_other (by decide)).symm.trans g1)), fun g0 g1 => (z20 ((set_other (by decide)).symm.trans g0) ((set_other (by decide)).symm.trans g1)), fun g0 g1 => (z21 ((set_other (by decide)).symm.trans g0) ((set_other (by decide)).symm.trans g1)), fun g0 => (z22 ((set_other (by decide)).symm.trans g0)), fun g0 => (z23 ((set_other (by decide)).symm.trans g0)), fun g0 => (z24 ((set_other (by decide)).symm.trans g0)), fun g0 => (z25 ((set_other (by decide)).symm.trans g0)), fun g0 => ⟨set_keep (z26 ((set_other (by decide)).symm.trans g0)).1, set_keep (z26 ((set_other (by decide)).symm.trans g0)).2⟩, fun g0 => ⟨set_keep (z27 ((set_other (by decide)).symm.trans g0)).1, set_keep (z27 ((set_other (by decide)).symm.trans g0)).2⟩, fun g0 => ⟨set_keep (z28 ((set_other (by decide)).symm.trans g0)).1, set_keep (z28 ((set_other (by decide)).symm.trans g0)).2⟩, fun g0 => ⟨set_keep (z29 ((set_other (by decide)).symm.trans g0)).1, set_keep (z29 ((set_other (by decide)).symm.trans g0)).2⟩⟩⟩
      · as_aux_lemma =>
        obtain rfl := Option.some.inj ho
        have e0 := z3 (dep (by simp [Region.binds] at hdeps ⊢; simp [hdeps]))
        subst e0
        obtain ⟨_, _, _, b0, b1, _, _, _, _, _, _, _, _⟩ := HS.out wz hbel
        have Z := hinv
        clear hinv ho hbel hN hdeps z0 z1 z2 z3 z4 z5 z6 z7 z8 z9 z10 z11 z12 z13 z14 z15 z16 z17 z18 z19 z20 z21 z22 z23 z24 z25 z26 z27 z28 z29
        go_simp
        obtain ⟨hN, hbel, z0, z1, z2, z3, z4, z5, z6, z7, z8, z9, z10, z11, z12, z13, z14, z15, z16, z17, z18, z19, z20, z21, z22, z23, z24, z25, z26, z27, z28, z29⟩ := Z.out
        exact hK _ _ ⟨_, _, _, _, _, _, _, _, _, _, _, _, _, _, _, _, rfl, Lib.hid ⟨by simpa using hN, hbel, fun g0 => (z0 ((set_other (by decide)).symm.trans g0)), fun g0 => (z1 ((set_other (by decide)).symm.trans g0)), fun g0 => (z2 ((set_other (by decide)).symm.trans g0)), fun g0 => (z3 ((set_other (by decide)).symm.trans g0)), fun _ => rfl, fun g0 => (z5 ((set_other (by decide)).symm.trans g0)), fun g0 => (z6 ((set_other (by decide)).symm.trans g0)), fun g0 => (z7 ((set_other (by decide)).symm.trans g0)), fun g0 => (z8 ((set_other (by decide)).symm.trans g0)), fun g0 => (z9 ((set_other (by decide)).symm.trans g0)), fun g0 => (z10 ((set_other (by decide)).symm.trans g0)), fun g0 => (z11 ((set_other (by decide)).symm.trans g0)), fun g0 => (z12 ((set_other (by decide)).symm.trans g0)), fun g0 => (z13 ((set_other (by decide)).symm.trans g0)), fun g0 => (z14 ((set_other (by decide)).symm.trans g0)), fun g0 => (z15 ((set_other (by decide)).symm.trans g0)), fun g0 g1 => (z16 ((set_other (by decide)).symm.trans g0) ((set_other (by decide)).symm.trans g1)), fun g0 g1 => (z17 ((set_other (by decide)).symm.trans g0) ((set_other (by decide)).symm.trans g1)), fun g0 g1 => (z18 ((set_other (by decide)).symm.trans g0) ((set_other (by decide)).symm.trans g1)), fun g0 g1 => (z19 ((set_other (by decide)).symm.trans g0) ((set_other (by decide)).symm.trans g1)), fun g0 g1 => (z20 ((set_other (by decide)).symm.trans g0) ((set_other (by decide)).symm.trans g1)), fun g0 g1 => (z21 ((set_other (by decide)).symm.trans g0) ((set_other (by decide)).symm.trans g1)), fun g0 => (z22 ((set_other (by decide)).symm.trans g0)), fun g0 => (z23 ((set_other (by decide)).symm.trans g0)), fun g0 => (z24 ((set_other (by decide)).symm.trans g0)), fun g0 => (z25 ((set_other (by decide)).symm.trans g0)), fun g0 => ⟨set_keep (z26 ((set_other (by decide)).symm.trans g0)).1, set_keep (z26 ((set_other (by decide)).symm.trans g0)).2⟩, fun g0 => ⟨set_keep (z27 ((set_other (by decide)).symm.trans g0)).1, set_keep (z27 ((set_other (by decide)).symm.trans g0)).2⟩, fun g0 => ⟨set_keep (z28 ((set_other (by decide)).symm.trans g0)).1, set_keep (z28 ((set_other (by decide)).symm.trans g0)).2⟩, fun g0 => ⟨set_keep (z29 ((set_other (by decide)).symm.trans g0)).1, set_keep (z29 ((set_other (by decide)).symm.trans g0)).2⟩⟩⟩
      · as_aux_lemma =>
        obtain rfl := Option.some.inj ho
        have e0 := z4 (dep (by simp [Region.binds] at hdeps ⊢; simp [hdeps]))
        subst e0
        have CC := Lib.hid (KS1.out wz hbel)
        have Z := hinv
        clear hinv ho hbel hN hdeps z0 z1 z2 z3 z4 z5 z6 z7 z8 z9 z10 z11 z12 z13 z14 z15 z16 z17 z18 z19 z20 z21 z22 z23 z24 z25 z26 z27 z28 z29
        go_simp
        refine CC.out.mono ?_
        rintro e wq ⟨a, n, c, rfl, how, hb'⟩
        obtain ⟨hN, hbel, z0, z1, z2, z3, z4, z5, z6, z7, z8, z9, z10, z11, z12, z13, z14, z15, z16, z17, z18, z19, z20, z21, z22, z23, z24, z25, z26, z27, z28, z29⟩ := Z.out
        exact hK _ _ ⟨_, _, _, _, _, _, _, _, _, _, _, _, _, _, _, _, rfl, Lib.hid ⟨by simpa using hN, hbel.trans (hb'.mono hbel.size), fun g0 => (z0 ((set_other (by decide)).symm.trans g0)), fun g0 => (z1 ((set_other (by decide)).symm.trans g0)), fun g0 => (z2 ((set_other (by decide)).symm.trans g0)).below hb', fun g0 => (z3 ((set_other (by decide)).symm.trans g0)), fun g0 => (z4 ((set_other (by decide)).symm.trans g0)), fun _ => ⟨a, n, c, rfl, how.base hbel.size⟩, fun g0 => (z6 ((set_other (by decide)).symm.trans g0)), fun g0 => (z7 ((set_other (by decide)).symm.trans g0)), fun g0 => (z8 ((set_other (by decide)).symm.trans g0)).below hb', fun g0 => (z9 ((set_other (by decide)).symm.trans g0)), fun g0 => (z10 ((set_other (by decide)).symm.trans g0)), fun g0 => (z11 ((set_other (by decide)).symm.trans g0)).below hb', fun g0 => (z12 ((set_other (by decide)).symm.trans g0)).below hb', fun g0 => (z13 ((set_other (by decide)).symm.trans g0)).below hb', fun g0 => (z14 ((set_other (by decide)).symm.trans g0)).below hb', fun g0 => (z15 ((set_other (by decide)).symm.trans g0)).below hb', fun g0 g1 => (z16 ((set_other (by decide)).symm.trans g0) ((set_other (by decide)).symm.trans g1)), fun g0 g1 => (z17 ((set_other (by decide)).symm.trans g0) ((set_other (by decide)).symm.trans g1)), fun g0 g1 => (z18 ((set_other (by decide)).symm.trans g0) ((set_other (by decide)).symm.trans g1)), fun g0 g1 => (z19 ((set_other (by decide)).symm.trans g0) ((set_other (by decide)).symm.trans g1)), fun g0 g1 => (z20 ((set_other (by decide)).symm.trans g0) ((set_other (by decide)).symm.trans g1)), fun g0 g1 => (z21 ((set_other (by decide)).symm.trans g0) ((set_other (by decide)).symm.trans g1)), fun g0 => (z22 ((set_other (by decide)).symm.trans g0)).below hb', fun g0 => not_done hL (z27 (((set_other (by decide)).symm.trans g0))).2, fun g0 => (z24 ((set_other (by decide)).symm.trans g0)).below hb', fun g0 => (z25 ((set_other (by decide)).symm.trans g0)).below hb', fun g0 => ⟨set_keep (z26 ((set_other (by decide)).symm.trans g0)).1, set_keep (z26 ((set_other (by decide)).symm.trans g0)).2⟩, fun g0 => not_done hL (z27 (((set_other (by decide)).symm.trans g0))).2, fun g0 => ⟨set_keep (z28 ((set_other (by decide)).symm.trans g0)).1, set_keep (z28 ((set_other (by decide)).symm.trans g0)).2⟩, fun g0 => ⟨set_keep (z29 ((set_other (by decide)).symm.trans g0)).1, set_keep (z29 ((set_other (by decide)).symm.trans g0)).2⟩⟩⟩
      · as_aux_lemma =>
        obtain rfl := Option.some.inj ho
        have Z := hinv
        clear hinv ho hbel hN hdeps z0 z1 z2 z3 z4 z5 z6 z7 z8 z9 z10 z11 z12 z13 z14 z15 z16 z17 z18 z19 z20 z21 z22 z23 z24 z25 z26 z27 z28 z29
        go_simp
        obtain ⟨hN, hbel, z0, z1, z2, z3, z4, z5, z6, z7, z8, z9, z10, z11, z12, z13, z14, z15, z16, z17, z18, z19, z20, z21, z22, z23, z24, z25, z26, z27, z28, z29⟩ := Z.out
        exact hK _ _ ⟨_, _, _, _, _, _, _, _, _, _, _, _, _, _, _, _, rfl, Lib.hid ⟨by simpa using hN, hbel, fun g0 => (z0 ((set_other (by decide)).symm.trans g0)), fun g0 => (z1 ((set_other (by decide)).symm.trans g0)), fun g0 => (z2 ((set_other (by decide)).symm.trans g0)), fun g0 => (z3 ((set_other (by decide)).symm.trans g0)), fun g0 => (z4 ((set_other (by decide)).symm.trans g0)), fun g0 => (z5 ((set_other (by decide)).symm.trans g0)), fun _ => rfl, fun g0 => (z7 ((set_other (by decide)).symm.trans g0)), fun g0 => (z8 ((set_other (by decide)).symm.trans g0)), fun g0 => (z9 ((set_other (by decide)).symm.trans g0)), fun g0 => (z10 ((set_other (by decide)).symm.trans g0)), fun g0 => (z11 ((set_other (by decide)).symm.trans g0)), fun g0 => (z12 ((set_other (by decide)).symm.trans g0)), fun g0 => (z13 ((set_other (by decide)).symm.trans g0)), fun g0 => (z14 ((set_other (by decide)).symm.trans g0)), fun g0 => (z15 ((set_other (by decide)).symm.trans g0)), fun g0 g1 => (z16 ((set_other (by decide)).symm.trans g0) ((set_other (by decide)).symm.trans g1)), fun g0 g1 => (z17 ((set_other (by decide)).symm.trans g0) ((set_other (by decide)).symm.trans g1)), fun g0 g1 => (z18 ((set_other (by decide)).symm.trans g0) ((set_other (by decide)).symm.trans g1)), fun g0 g1 => (z19 ((set_other (by decide)).symm.trans g0) ((set_other (by decide)).symm.trans g1)), fun g0 g1 => (z20 ((set_other (by decide)).symm.trans g0) ((set_other (by decide)).symm.trans g1)), fun g0 g1 => (z21 ((set_other (by decide)).symm.trans g0) ((set_other (by decide)).symm.trans g1)), fun g0 => (z22 ((set_other (by decide)).symm.trans g0)), fun g0 => (z23 ((set_other (by decide)).symm.trans g0)), fun g0 => (z24 ((set_other (by decide)).symm.trans g0)), fun g0 => (z25 ((set_other (by decide)).symm.trans g0)), fun g0 => ⟨set_keep (z26 ((set_other (by decide)).symm.trans g0)).1, set_keep (z26 ((set_other (by decide)).symm.trans g0)).2⟩, fun g0 => ⟨set_keep (z27 ((set_other (by decide)).symm.trans g0)).1, set_keep (z27 ((set_other (by decide)).symm.trans g0)).2⟩, fun g0 => ⟨set_keep (z28 ((set_other (by decide)).symm.trans g0)).1, set_keep (z28 ((set_other (by decide)).symm.trans g0)).2⟩, fun g0 => ⟨set_keep (z29 ((set_other (by decide)).symm.trans g0)).1, set_keep (z29 ((set_other (by decide)).symm.trans g0)).2⟩⟩⟩
      · as_aux_lemma =>
        obtain rfl := Option.some.inj ho
        have e0 := z6 (dep (by simp [Region.binds] at hdeps ⊢; simp [hdeps]))
        subst e0
        obtain ⟨_, _, _, _, _, b0, b1, _, _, _, _, _, _⟩ := HS.out wz hbel
        have Z := hinv
        clear hinv ho hbel hN hdeps z0 z1 z2 z3 z4 z5 z6 z7 z8 z9 z10 z11 z12 z13 z14 z15 z16 z17 z18 z19 z20 z21 z22 z23 z24 z25 z26 z27 z28 z29
        go_simp
        obtain ⟨hN, hbel, z0, z1, z2, z3, z4, z5, z6, z7, z8, z9, z10, z11, z12, z13, z14, z15, z16, z17, z18, z19, z20, z21, z22, z23, z24, z25, z26, z27, z28, z29⟩ := Z.out
        exact hK _ _ ⟨_, _, _, _, _, _, _, _, _, _, _, _, _, _, _, _, rfl, Lib.hid ⟨by simpa using hN, hbel, fun g0 => (z0 ((set_other (by decide)).symm.trans g0)), fun g0 => (z1 ((set_other (by decide)).symm.trans g0)), fun g0 => (z2 ((set_other (by decide)).symm.trans g0)), fun g0 => (z3 ((set_other (by decide)).symm.trans g0)), fun g0 => (z4 ((set_other (by decide)).symm.trans g0)), fun g0 => (z5 ((set_other (by decide)).symm.trans g0)), fun g0 => (z6 ((set_other (by decide)).symm.trans g0)), fun _ => rfl, fun g0 => (z8 ((set_other (by decide)).symm.trans g0)), fun g0 => (z9 ((set_other (by decide)).symm.trans g0)), fun g0 => (z10 ((set_other (by decide)).symm.trans g0)), fun g0 => (z11 ((set_other (by decide)).symm.trans g0)), fun g0 => (z12 ((set_other (by decide)).symm.trans g0)), fun g0 => (z13 ((set_other (by decide)).symm.trans g0)), fun g0 => (z14 ((set_other (by decide)).symm.trans g0)), fun g0 => (z15 ((set_other (by decide)).symm.trans g0)), fun g0 g1 => (z16 ((set_other (by decide)).symm.trans g0) ((set_other (by decide)).symm.trans g1)), fun g0 g1 => (z17 ((set_other (by decide)).symm.trans g0) ((set_other (by decide)).symm.trans g1)), fun g0 g1 => (z18 ((set_other (by decide)).symm.trans g0) ((set_other (by decide)).symm.trans g1)), fun g0 g1 => (z19 ((set_other (by decide)).symm.trans g0) ((set_other (by decide)).symm.trans g1)), fun g0 g1 => (z20 ((set_other (by decide)).symm.trans g0) ((set_other (by decide)).symm.trans g1)), fun g0 g1 => (z21 ((set_other (by decide)).symm.trans g0) ((set_other (by decide)).symm.trans g1)), fun g0 => (z22 ((set_other (by decide)).symm.trans g0)), fun g0 => (z23 ((set_other (by decide)).symm.trans g0)), fun g0 => (z24 ((set_other (by decide)).symm.trans g0)), fun g0 => (z25 ((set_other (by decide)).symm.trans g0)), fun g0 => ⟨set_keep (z26 ((set_other (by decide)).symm.trans g0)).1, set_keep (z26 ((set_other (by decide)).symm.trans g0)).2⟩, fun g0 => ⟨set_keep (z27 ((set_other (by decide)).symm.trans g0)).1, set_keep (z27 ((set_other (by decide)).symm.trans g0)).2⟩, fun g0 => ⟨set_keep (z28 ((set_other (by decide)).symm.trans g0)).1, set_keep (z28 ((set_other (by decide)).symm.trans g0)).2⟩, fun g0 => ⟨set_keep (z29 ((set_other (by decide)).symm.trans g0)).1, set_keep (z29 ((set_other (by decide)).symm.trans g0)).2⟩⟩⟩
      · as_aux_lemma =>
        obtain rfl := Option.some.inj ho
        have e0 := z7 (dep (by simp [Region.binds] at hdeps ⊢; simp [hdeps]))
        subst e0
        have CC := Lib.hid (KS2.out wz hbel)
        have Z := hinv
        clear hinv ho hbel hN hdeps z0 z1 z2 z3 z4 z5 z6 z7 z8 z9 z10 z11 z12 z13 z14 z15 z16 z17 z18 z19 z20 z21 z22 z23 z24 z25 z26 z27 z28 z29
        go_simp
        refine CC.out.mono ?_
        rintro e wq ⟨a, n, c, rfl, how, hb'⟩
        obtain ⟨hN, hbel, z0, z1, z2, z3, z4, z5, z6, z7, z8, z9, z10, z11, z12, z13, z14, z15, z16, z17, z18, z19, z20, z21, z22, z23, z24, z25, z26, z27, z28, z29⟩ := Z.out
        exact hK _ _ ⟨_, _, _, _, _, _, _, _, _, _, _, _, _, _, _, _, rfl, Lib.hid ⟨by simpa using hN, hbel.trans (hb'.mono hbel.size), fun g0 => (z0 ((set_other (by decide)).symm.trans g0)), fun g0 => (z1 ((set_other (by decide)).symm.trans g0)), fun g0 => (z2 ((set_other (by decide)).symm.trans g0)).below hb', fun g0 => (z3 ((set_other (by decide)).symm.trans g0)), fun g0 => (z4 ((set_other (by decide)).symm.trans g0)), fun g0 => (z5 ((set_other (by decide)).symm.trans g0)).below hb', fun g0 => (z6 ((set_other (by decide)).symm.trans g0)), fun g0 => (z7 ((set_other (by decide)).symm.trans g0)), fun _ => ⟨a, n, c, rfl, how.base hbel.size⟩, fun g0 => (z9 ((set_other (by decide)).symm.trans g0)), fun g0 => (z10 ((set_other (by decide)).symm.trans g0)), fun g0 => (z11 ((set_other (by decide)).symm.trans g0)).below hb', fun g0 => (z12 ((set_other (by decide)).symm.trans g0)).below hb', fun g0 => (z13 ((set_other (by decide)).symm.trans g0)).below hb', fun g0 => (z14 ((set_other (by decide)).symm.trans g0)).below hb', fun g0 => (z15 ((set_other (by decide)).symm.trans g0)).below hb', fun g0 g1 => (z16 ((set_other (by decide)).symm.trans g0) ((set_other (by decide)).symm.trans g1)), fun g0 g1 => (z17 ((set_other (by decide)).symm.trans g0) ((set_other (by decide)).symm.trans g1)), fun g0 g1 => (z18 ((set_other (by decide)).symm.trans g0) ((set_other (by decide)).symm.trans g1)), fun g0 g1 => (z19 ((set_other (by decide)).symm.trans g0) ((set_other (by decide)).symm.trans g1)), fun g0 g1 => (z20 ((set_other (by decide)).symm.trans g0) ((set_other (by decide)).symm.trans g1)), fun g0 g1 => (z21 ((set_other (by decide)).symm.trans g0) ((set_other (by decide)).symm.trans g1)), fun g0 => (z22 ((set_other (by decide)).symm.trans g0)).below hb', fun g0 => (z23 ((set_other (by decide)).symm.trans g0)).below hb', fun g0 => not_done hL (z28 (((set_other (by decide)).symm.trans g0))).2, fun g0 => (z25 ((set_other (by decide)).symm.trans g0)).below hb', fun g0 => ⟨set_keep (z26 ((set_other (by decide)).symm.trans g0)).1, set_keep (z26 ((set_other (by decide)).symm.trans g0)).2⟩, fun g0 => ⟨set_keep (z27 ((set_other (by decide)).symm.trans g0)).1, set_keep (z27 ((set_other (by decide)).symm.trans g0)).2⟩, fun g0 => not_done hL (z28 (((set_other (by decide)).symm.trans g0))).2, fun g0 => ⟨set_keep (z29 ((set_other (by decide)).symm.trans g0)).1, set_keep (z29 ((set_other (by decide)).symm.trans g0)).2⟩⟩⟩
      · as_aux_lemma =>
        obtain rfl := Option.some.inj ho
        have Z := hinv
        clear hinv ho hbel hN hdeps z0 z1 z2 z3 z4 z5 z6 z7 z8 z9 z10 z11 z12 z13 z14 z15 z16 z17 z18 z19 z20 z21 z22 z23 z24 z25 z26 z27 z28 z29
        go_simp
        obtain ⟨hN, hbel, z0, z1, z2, z3, z4, z5, z6, z7, z8, z9, z10, z11, z12, z13, z14, z15, z16, z17, z18, z19, z20, z21, z22, z23, z24, z25, z26, z27, z28, z29⟩ := Z.out
        exact hK _ _ ⟨_, _, _, _, _, _, _, _, _, _, _, _, _, _, _, _, rfl, Lib.hid ⟨by simpa using hN, hbel, fun g0 => (z0 ((set_other (by decide)).symm.trans g0)), fun g0 => (z1 ((set_other (by decide)).symm.trans g0)), fun g0 => (z2 ((set_other (by decide)).symm.trans g0)), fun g0 => (z3 ((set_other (by decide)).symm.trans g0)), fun g0 => (z4 ((set_other (by decide)).symm.trans g0)), fun g0 => (z5 ((set_other (by decide)).symm.trans g0)), fun g0 => (z6 ((set_other (by decide)).symm.trans g0)), fun g0 => (z7 ((set_other (by decide)).symm.trans g0)), fun g0 => (z8 ((set_other (by decide)).symm.trans g0)), fun _ => rfl, fun g0 => (z10 ((set_other (by decide)).symm.trans g0)), fun g0 => (z11 ((set_other (by decide)).symm.trans g0)), fun g0 => (z12 ((set_other (by decide)).symm.trans g0)), fun g0 => (z13 ((set_other (by decide)).symm.trans g0)), fun g0 => (z14 ((set_other (by decide)).symm.trans g0)), fun g0 => (z15 ((set_other (by decide)).symm.trans g0)), fun g0 g1 => (z16 ((set_other (by decide)).symm.trans g0) ((set_other (by decide)).symm.trans g1)), fun g0 g1 => (z17 ((set_other (by decide)).symm.trans g0) ((set_other (by decide)).symm.trans g1)), fun g0 g1 => (z18 ((set_other (by decide)).symm.trans g0) ((set_other (by decide)).symm.trans g1)), fun g0 g1 => (z19 ((set_other (by decide)).symm.trans g0) ((set_other (by decide)).symm.trans g1)), fun g0 g1 => (z20 ((set_other (by decide)).symm.trans g0) ((set_other (by decide)).symm.trans g1)), fun g0 g1 => (z21 ((set_other (by decide)).symm.trans g0) ((set_other (by decide)).symm.trans g1)), fun g0 => (z22 ((set_other (by decide)).symm.trans g0)), fun g0 => (z23 ((set_other (by decide)).symm.trans g0)), fun g0 => (z24 ((set_other (by decide)).symm.trans g0)), fun g0 => (z25 ((set_other (by decide)).symm.trans g0)), fun g0 => ⟨set_keep (z26 ((set_other (by decide)).symm.trans g0)).1, set_keep (z26 ((set_other (by decide)).symm.trans g0)).2⟩, fun g0 => ⟨set_keep (z27 ((set_other (by decide)).symm.trans g0)).1, set_keep (z27 ((set_other (by decide)).symm.trans g0)).2⟩, fun g0 => ⟨set_keep (z28 ((set_other (by decide)).symm.trans g0)).1, set_keep (z28 ((set_other (by decide)).symm.trans g0)).2⟩, fun g0 => ⟨set_keep (z29 ((set_other (by decide)).symm.trans g0)).1, set_keep (z29 ((set_other (by decide)).symm.trans g0)).2⟩⟩⟩
      · as_aux_lemma =>
        obtain rfl := Option.some.inj ho
        have e0 := z9 (dep (by simp [Region.binds] at hdeps ⊢; simp [hdeps]))
        subst e0
        obtain ⟨_, _, _, _, _, _, _, b0, b1, _, _, _, _⟩ := HS.out wz hbel
        have Z := hinv
        clear hinv ho hbel hN hdeps z0 z1 z2 z3 z4 z5 z6 z7 z8 z9 z10 z11 z12 z13 z14 z15 z16 z17 z18 z19 z20 z21 z22 z23 z24 z25 z26 z27 z28 z29
        go_simp
        obtain ⟨hN, hbel, z0, z1, z2, z3, z4, z5, z6, z7, z8, z9, z10, z11, z12, z13, z14, z15, z16, z17, z18, z19, z20, z21, z22, z23, z24, z25, z26, z27, z28, z29⟩ := Z.out
        exact hK _ _ ⟨_, _, _, _, _, _, _, _, _, _, _, _, _, _, _, _, rfl, Lib.hid ⟨by simpa using hN, hbel, fun g0 => (z0 ((set_other (by decide)).symm.trans g0)), fun g0 => (z1 ((set_other (by decide)).symm.trans g0)), fun g0 => (z2 ((set_other (by decide)).symm.trans g0)), fun g0 => (z3 ((set_other (by decide)).symm.trans g0)), fun g0 => (z4 ((set_other (by decide)).symm.trans g0)), fun g0 => (z5 ((set_other (by decide)).symm.trans g0)), fun g0 => (z6 ((set_other (by decide)).symm.trans g0)), fun g0 => (z7 ((set_other (by decide)).symm.trans g0)), fun g0 => (z8 ((set_other (by decide)).symm.trans g0)), fun g0 => (z9 ((set_other (by decide)).symm.trans g0)), fun _ => rfl, fun g0 => (z11 ((set_other (by decide)).symm.trans g0)), fun g0 => (z12 ((set_other (by decide)).symm.trans g0)), fun g0 => (z13 ((set_other (by decide)).symm.trans g0)), fun g0 => (z14 ((set_other (by decide)).symm.trans g0)), fun g0 => (z15 ((set_other (by decide)).symm.trans g0)), fun g0 g1 => (z16 ((set_other (by decide)).symm.trans g0) ((set_other (by decide)).symm.trans g1)), fun g0 g1 => (z17 ((set_other (by decide)).symm.trans g0) ((set_other (by decide)).symm.trans g1)), fun g0 g1 => (z18 ((set_other (by decide)).symm.trans g0) ((set_other (by decide)).symm.trans g1)), fun g0 g1 => (z19 ((set_other (by decide)).symm.trans g0) ((set_other (by decide)).symm.trans g1)), fun g0 g1 => (z20 ((set_other (by decide)).symm.trans g0) ((set_other (by decide)).symm.trans g1)), fun g0 g1 => (z21 ((set_other (by decide)).symm.trans g0) ((set_other (by decide)).symm.trans g1)), fun g0 => (z22 ((set_other (by decide)).symm.trans g0)), fun g0 => (z23 ((set_other (by decide)).symm.trans g0)), fun g0 => (z24 ((set_other (by decide)).symm.trans g0)), fun g0 => (z25 ((set_other (by decide)).symm.trans g0)), fun g0 => ⟨set_keep (z26 ((set_other (by decide)).symm.trans g0)).1, set_keep (z26 ((set_other (by decide)).symm.trans g0)).2⟩, fun g0 => ⟨set_keep (z27 ((set_other (by decide)).symm.trans g0)).1, set_keep (z27 ((set_other (by decide)).symm.trans g0)).2⟩, fun g0 => ⟨set_keep (z28 ((set_other (by decide)).symm.trans g0)).1, set_keep (z28 ((set_other (by decide)).symm.trans g0)).2⟩, fun g0 => ⟨set_keep (z29 ((set_other (by decide)).symm.trans g0)).1, set_keep (z29 ((set_other (by decide)).symm.trans g0)).2⟩⟩⟩
      · as_aux_lemma =>
        obtain rfl := Option.some.inj ho
        have e0 := z10 (dep (by simp [Region.binds] at hdeps ⊢; simp [hdeps]))
        subst e0
        have CC := Lib.hid (KS3.out wz hbel)
        have Z := hinv
        clear hinv ho hbel hN hdeps z0 z1 z2 z3 z4 z5 z6 z7 z8 z9 z10 z11 z12 z13 z14 z15 z16 z17 z18 z19 z20 z21 z22 z23 z24 z25 z26 z27 z28 z29
        go_simp
        refine CC.out.mono ?_
        rintro e wq ⟨a, n, c, rfl, how, hb'⟩
        obtain ⟨hN, hbel, z0, z1, z2, z3, z4, z5, z6, z7, z8, z9, z10, z11, z12, z13, z14, z15, z16, z17, z18, z19, z20, z21, z22, z23, z24, z25, z26, z27, z28, z29⟩ := Z.out
        exact hK _ _ ⟨_, _, _, _, _, _, _, _, _, _, _, _, _, _, _, _, rfl, Lib.hid ⟨by simpa using hN, hbel.trans (hb'.mono hbel.size), fun g0 => (z0 ((set_other (by decide)).symm.trans g0)), fun g0 => (z1 ((set_other (by decide)).symm.trans g0)), fun g0 => (z2 ((set_other (by decide)).symm.trans g0)).below hb', fun g0 => (z3 ((set_other (by decide)).symm.trans g0)), fun g0 => (z4 ((set_other (by decide)).symm.trans g0)), fun g0 => (z5 ((set_other (by decide)).symm.trans g0)).below hb', fun g0 => (z6 ((set_other (by decide)).symm.trans g0)), fun g0 => (z7 ((set_other (by decide)).symm.trans g0)), fun g0 => (z8 ((set_other (by decide)).symm.trans g0)).below hb', fun g0 => (z9 ((set_other (by decide)).symm.trans g0)), fun g0 => (z10 ((set_other (by decide)).symm.trans g0)), fun _ => ⟨a, n, c, rfl, how.base hbel.size⟩, fun g0 => (z12 ((set_other (by decide)).symm.trans g0)).below hb', fun g0 => (z13 ((set_other (by decide)).symm.trans g0)).below hb', fun g0 => (z14 ((set_other (by decide)).symm.trans g0)).below hb', fun g0 => (z15 ((set_other (by decide)).symm.trans g0)).below hb', fun g0 g1 => (z16 ((set_other (by decide)).symm.trans g0) ((set_other (by decide)).symm.trans g1)), fun g0 g1 => (z17 ((set_other (by decide)).symm.trans g0) ((set_other (by decide)).symm.trans g1)), fun g0 g1 => (z18 ((set_other (by decide)).symm.trans g0) ((set_other (by decide)).symm.trans g1)), fun g0 g1 => (z19 ((set_other (by decide)).symm.trans g0) ((set_other (by decide)).symm.trans g1)), fun g0 g1 => (z20 ((set_other (by decide)).symm.trans g0) ((set_other (by decide)).symm.trans g1)), fun g0 g1 => (z21 ((set_other (by decide)).symm.trans g0) ((set_other (by decide)).symm.trans g1)), fun g0 => (z22 ((set_other (by decide)).symm.trans g0)).below hb', fun g0 => (z23 ((set_other (by decide)).symm.trans g0)).below hb', fun g0 => (z24 ((set_other (by decide)).symm.trans g0)).below hb', fun g0 => not_done hL (z29 (((set_other (by decide)).symm.trans g0))).2, fun g0 => ⟨set_keep (z26 ((set_other (by decide)).symm.trans g0)).1, set_keep (z26 ((set_other (by decide)).symm.trans g0)).2⟩, fun g0 => ⟨set_keep (z27 ((set_other (by decide)).symm.trans g0)).1, set_keep (z27 ((set_other (by decide)).symm.trans g0)).2⟩, fun g0 => ⟨set_keep (z28 ((set_other (by decide)).symm.trans g0)).1, set_keep (z28 ((set_other (by decide)).symm.trans g0)).2⟩, fun g0 => not_done hL (z29 (((set_other (by decide)).symm.trans g0))).2⟩⟩
      · as_aux_lemma =>
        obtain rfl := Option.some.inj ho
        have Z := hinv
        clear hinv ho hbel hN hdeps z0 z1 z2 z3 z4 z5 z6 z7 z8 z9 z10 z11 z12 z13 z14 z15 z16 z17 z18 z19 z20 z21 z22 z23 z24 z25 z26 z27 z28 z29
        go_simp
        obtain ⟨hN, hbel, z0, z1, z2, z3, z4, z5, z6, z7, z8, z9, z10, z11, z12, z13, z14, z15, z16, z17, z18, z19, z20, z21, z22, z23, z24, z25, z26, z27, z28, z29⟩ := Z.out
        have hb' := below_alloc1 wz (Obj.cells #[.int .i64 0, .slice none 0 0] 29)
        exact hK _ _ ⟨_, _, _, _, _, _, _, _, _, _, _, _, _, _, _, _, rfl, Lib.hid ⟨by simpa using hN, hbel.trans (hb'.mono hbel.size), fun g0 => (z0 ((set_other (by decide)).symm.trans g0)), fun g0 => (z1 ((set_other (by decide)).symm.trans g0)), fun g0 => (z2 ((set_other (by decide)).symm.trans g0)).below hb', fun g0 => (z3 ((set_other (by decide)).symm.trans g0)), fun g0 => (z4 ((set_other (by decide)).symm.trans g0)), fun g0 => (z5 ((set_other (by decide)).symm.trans g0)).below hb', fun g0 => (z6 ((set_other (by decide)).symm.trans g0)), fun g0 => (z7 ((set_other (by decide)).symm.trans g0)), fun g0 => (z8 ((set_other (by decide)).symm.trans g0)).below hb', fun g0 => (z9 ((set_other (by decide)).symm.trans g0)), fun g0 => (z10 ((set_other (by decide)).symm.trans g0)), fun g0 => (z11 ((set_other (by decide)).symm.trans g0)).below hb', fun _ => N2.new _ _ _ _ hbel.size, fun g0 => (z13 ((set_other (by decide)).symm.trans g0)).below hb', fun g0 => (z14 ((set_other (by decide)).symm.trans g0)).below hb', fun g0 => (z15 ((set_other (by decide)).symm.trans g0)).below hb', fun g0 g1 => ((z13 ((set_other (by decide)).symm.trans g1)).lt).symm, fun g0 g1 => ((z14 ((set_other (by decide)).symm.trans g1)).lt).symm, fun g0 g1 => ((z15 ((set_other (by decide)).symm.trans g1)).lt).symm, fun g0 g1 => (z19 ((set_other (by decide)).symm.trans g0) ((set_other (by decide)).symm.trans g1)), fun g0 g1 => (z20 ((set_other (by decide)).symm.trans g0) ((set_other (by decide)).symm.trans g1)), fun g0 g1 => (z21 ((set_other (by decide)).symm.trans g0) ((set_other (by decide)).symm.trans g1)), fun g0 => not_done hL (z26 (((set_other (by decide)).symm.trans g0))).1, fun g0 => (z23 ((set_other (by decide)).symm.trans g0)).below hb', fun g0 => (z24 ((set_other (by decide)).symm.trans g0)).below hb', fun g0 => (z25 ((set_other (by decide)).symm.trans g0)).below hb', fun g0 => not_done hL (z26 (((set_other (by decide)).symm.trans g0))).1, fun g0 => ⟨set_keep (z27 ((set_other (by decide)).symm.trans g0)).1, set_keep (z27 ((set_other (by decide)).symm.trans g0)).2⟩, fun g0 => ⟨set_keep (z28 ((set_other (by decide)).symm.trans g0)).1, set_keep (z28 ((set_other (by decide)).symm.trans g0)).2⟩, fun g0 => ⟨set_keep (z29 ((set_other (by decide)).symm.trans g0)).1, set_keep (z29 ((set_other (by decide)).symm.trans g0)).2⟩⟩⟩
      · as_aux_lemma =>
        obtain rfl := Option.some.inj ho
        have Z := hinv
        clear hinv ho hbel hN hdeps z0 z1 z2 z3 z4 z5 z6 z7 z8 z9 z10 z11 z12 z13 z14 z15 z16 z17 z18 z19 z20 z21 z22 z23 z24 z25 z26 z27 z28 z29
        go_simp
        obtain ⟨hN, hbel, z0, z1, z2, z3, z4, z5, z6, z7, z8, z9, z10, z11, z12, z13, z14, z15, z16, z17, z18, z19, z20, z21, z22, z23, z24, z25, z26, z27, z28, z29⟩ := Z.out
        have hb' := below_alloc1 wz (Obj.cells #[.int .i64 0, .slice none 0 0] 29)
        exact hK _ _ ⟨_, _, _, _, _, _, _, _, _, _, _, _, _, _, _, _, rfl, Lib.hid ⟨by simpa using hN, hbel.trans (hb'.mono hbel.size), fun g0 => (z0 ((set_other (by decide)).symm.trans g0)), fun g0 => (z1 ((set_other (by decide)).symm.trans g0)), fun g0 => (z2 ((set_other (by decide)).symm.trans g0)).below hb', fun g0 => (z3 ((set_other (by decide)).symm.trans g0)), fun g0 => (z4 ((set_other (by decide)).symm.trans g0)), fun g0 => (z5 ((set_other (by decide)).symm.trans g0)).below hb', fun g0 => (z6 ((set_other (by decide)).symm.trans g0)), fun g0 => (z7 ((set_other (by decide)).symm.trans g0)), fun g0 => (z8 ((set_other (by decide)).symm.trans g0)).below hb', fun g0 => (z9 ((set_other (by decide)).symm.trans g0)), fun g0 => (z10 ((set_other (by decide)).symm.trans g0)), fun g0 => (z11 ((set_other (by decide)).symm.trans g0)).below hb', fun g0 => (z12 ((set_other (by decide)).symm.trans g0)).below hb', fun _ => N2.new _ _ _ _ hbel.size, fun g0 => (z14 ((set_other (by decide)).symm.trans g0)).below hb', fun g0 => (z15 ((set_other (by decide)).symm.trans g0)).below hb', fun g0 g1 => (z12 ((set_other (by decide)).symm.trans g0)).lt, fun g0 g1 => (z17 ((set_other (by decide)).symm.trans g0) ((set_other (by decide)).symm.trans g1)), fun g0 g1 => (z18 ((set_other (by decide)).symm.trans g0) ((set_other (by decide)).symm.trans g1)), fun g0 g1 => ((z14 ((set_other (by decide)).symm.trans g1)).lt).symm, fun g0 g1 => ((z15 ((set_other (by decide)).symm.trans g1)).lt).symm, fun g0 g1 => (z21 ((set_other (by decide)).symm.trans g0) ((set_other (by decide)).symm.trans g1)), fun g0 => (z22 ((set_other (by decide)).symm.trans g0)).below hb', fun g0 => not_done hL (z27 (((set_other (by decide)).symm.trans g0))).1, fun g0 => (z24 ((set_other (by decide)).symm.trans g0)).below hb', fun g0 => (z25 ((set_other (by decide)).symm.trans g0)).below hb', fun g0 => ⟨set_keep (z26 ((set_other (by decide)).symm.trans g0)).1, set_keep (z26 ((set_other (by decide)).symm.trans g0)).2⟩, fun g0 => not_done hL (z27 (((set_other (by decide)).symm.trans g0))).1, fun g0 => ⟨set_keep (z28 ((set_other (by decide)).symm.trans g0)).1, set_keep (z28 ((set_other (by decide)).symm.trans g0)).2⟩, fun g0 => ⟨set_keep (z29 ((set_other (by decide)).symm.trans g0)).1, set_keep (z29 ((set_other (by decide)).symm.trans g0)).2⟩⟩⟩
      · as_aux_lemma =>
        obtain rfl := Option.some.inj ho
        have Z := hinv
        clear hinv ho hbel hN hdeps z0 z1 z2 z3 z4 z5 z6 z7 z8 z9 z10 z11 z12 z13 z14 z15 z16 z17 z18 z19 z20 z21 z22 z23 z24 z25 z26 z27 z28 z29
        go_simp
        obtain ⟨hN, hbel, z0, z1, z2, z3, z4, z5, z6, z7, z8, z9, z10, z11, z12, z13, z14, z15, z16, z17, z18, z19, z20, z21, z22, z23, z24, z25, z26, z27, z28, z29⟩ := Z.out
        have hb' := below_alloc1 wz (Obj.cells #[.int .i64 0, .slice none 0 0] 29)
        exact hK _ _ ⟨_, _, _, _, _, _, _, _, _, _, _, _, _, _, _, _, rfl, Lib.hid ⟨by simpa using hN, hbel.trans (hb'.mono hbel.size), fun g0 => (z0 ((set_other (by decide)).symm.trans g0)), fun g0 => (z1 ((set_other (by decide)).symm.trans g0)), fun g0 => (z2 ((set_other (by decide)).symm.trans g0)).below hb', fun g0 => (z3 ((set_other (by decide)).symm.trans g0)), fun g0 => (z4 ((set_other (by decide)).symm.trans g0)), fun g0 => (z5 ((set_other (by decide)).symm.trans g0)).below hb', fun g0 => (z6 ((set_other (by decide)).symm.trans g0)), fun g0 => (z7 ((set_other (by decide)).symm.trans g0)), fun g0 => (z8 ((set_other (by decide)).symm.trans g0)).below hb', fun g0 => (z9 ((set_other (by decide)).symm.trans g0)), fun g0 => (z10 ((set_other (by decide)).symm.trans g0)), fun g0 => (z11 ((set_other (by decide)).symm.trans g0)).below hb', fun g0 => (z12 ((set_other (by decide)).symm.trans g0)).below hb', fun g0 => (z13 ((set_other (by decide)).symm.trans g0)).below hb', fun _ => N2.new _ _ _ _ hbel.size, fun g0 => (z15 ((set_other (by decide)).symm.trans g0)).below hb', fun g0 g1 => (z16 ((set_other (by decide)).symm.trans g0) ((set_other (by decide)).symm.trans g1)), fun g0 g1 => (z12 ((set_other (by decide)).symm.trans g0)).lt, fun g0 g1 => (z18 ((set_other (by decide)).symm.trans g0) ((set_other (by decide)).symm.trans g1)), fun g0 g1 => (z13 ((set_other (by decide)).symm.trans g0)).lt, fun g0 g1 => (z20 ((set_other (by decide)).symm.trans g0) ((set_other (by decide)).symm.trans g1)), fun g0 g1 => ((z15 ((set_other (by decide)).symm.trans g1)).lt).symm, fun g0 => (z22 ((set_other (by decide)).symm.trans g0)).below hb', fun g0 => (z23 ((set_other (by decide)).symm.trans g0)).below hb', fun g0 => not_done hL (z28 (((set_other (by decide)).symm.trans g0))).1, fun g0 => (z25 ((set_other (by decide)).symm.trans g0)).below hb', fun g0 => ⟨set_keep (z26 ((set_other (by decide)).symm.trans g0)).1, set_keep (z26 ((set_other (by decide)).symm.trans g0)).2⟩, fun g0 => ⟨set_keep (z27 ((set_other (by decide)).symm.trans g0)).1, set_keep (z27 ((set_other (by decide)).symm.trans g0)).2⟩, fun g0 => not_done hL (z28 (((set_other (by decide)).symm.trans g0))).1, fun g0 => ⟨set_keep (z29 ((set_other (by decide)).symm.trans g0)).1, set_keep (z29 ((set_other (by decide)).symm.trans g0)).2⟩⟩⟩
      · as_aux_lemma =>
        obtain rfl := Option.some.inj ho
        have Z := hinv
        clear hinv ho hbel hN hdeps z0 z1 z2 z3 z4 z5 z6 z7 z8 z9 z10 z11 z12 z13 z14 z15 z16 z17 z18 z19 z20 z21 z22 z23 z24 z25 z26 z27 z28 z29
        go_simp
        obtain ⟨hN, hbel, z0, z1, z2, z3, z4, z5, z6, z7, z8, z9, z10, z11, z12, z13, z14, z15, z16, z17, z18, z19, z20, z21, z22, z23, z24, z25, z26, z27, z28, z29⟩ := Z.out
        have hb' := below_alloc1 wz (Obj.cells #[.int .i64 0, .slice none 0 0] 29)
        exact hK _ _ ⟨_, _, _, _, _, _, _, _, _, _, _, _, _, _, _, _, rfl, Lib.hid ⟨by simpa using hN, hbel.trans (hb'.mono hbel.size), fun g0 => (z0 ((set_other (by decide)).symm.trans g0)), fun g0 => (z1 ((set_other (by decide)).symm.trans g0)), fun g0 => (z2 ((set_other (by decide)).symm.trans g0)).below hb', fun g0 => (z3 ((set_other (by decide)).symm.trans g0)), fun g0 => (z4 ((set_other (by decide)).symm.trans g0)), fun g0 => (z5 ((set_other (by decide)).symm.trans g0)).below hb', fun g0 => (z6 ((set_other (by decide)).symm.trans g0)), fun g0 => (z7 ((set_other (by decide)).symm.trans g0)), fun g0 => (z8 ((set_other (by decide)).symm.trans g0)).below hb', fun g0 => (z9 ((set_other (by decide)).symm.trans g0)), fun g0 => (z10 ((set_other (by decide)).symm.trans g0)), fun g0 => (z11 ((set_other (by decide)).symm.trans g0)).below hb', fun g0 => (z12 ((set_other (by decide)).symm.trans g0)).below hb', fun g0 => (z13 ((set_other (by decide)).symm.trans g0)).below hb', fun g0 => (z14 ((set_other (by decide)).symm.trans g0)).below hb', fun _ => N2.new _ _ _ _ hbel.size, fun g0 g1 => (z16 ((set_other (by decide)).symm.trans g0) ((set_other (by decide)).symm.trans g1)), fun g0 g1 => (z17 ((set_other (by decide)).symm.trans g0) ((set_other (by decide)).symm.trans g1)), fun g0 g1 => (z12 ((set_other (by decide)).symm.trans g0)).lt, fun g0 g1 => (z19 ((set_other (by decide)).symm.trans g0) ((set_other (by decide)).symm.trans g1)), fun g0 g1 => (z13 ((set_other (by decide)).symm.trans g0)).lt, fun g0 g1 => (z14 ((set_other (by decide)).symm.trans g0)).lt, fun g0 => (z22 ((set_other (by decide)).symm.trans g0)).below hb', fun g0 => (z23 ((set_other (by decide)).symm.trans g0)).below hb', fun g0 => (z24 ((set_other (by decide)).symm.trans g0)).below hb', fun g0 => not_done hL (z29 (((set_other (by decide)).symm.trans g0))).1, fun g0 => ⟨set_keep (z26 ((set_other (by decide)).symm.trans g0)).1, set_keep (z26 ((set_other (by decide)).symm.trans g0)).2⟩, fun g0 => ⟨set_keep (z27 ((set_other (by decide)).symm.trans g0)).1, set_keep (z27 ((set_other (by decide)).symm.trans g0)).2⟩, fun g0 => ⟨set_keep (z28 ((set_other (by decide)).symm.trans g0)).1, set_keep (z28 ((set_other (by decide)).symm.trans g0)).2⟩, fun g0 => not_done hL (z29 (((set_other (by decide)).symm.trans g0))).1⟩⟩
      · as_aux_lemma =>
        obtain rfl := Option.some.inj ho
        have hds : L[12]? = some true ∧ L[13]? = some true ∧ L[14]? = some true ∧ L[15]? = some true ∧ L[2]? = some true := by
          simp [Region.binds] at hdeps
          refine ⟨?_, ?_, ?_, ?_, ?_⟩ <;> (refine dep ?_; simp [hdeps])
        obtain ⟨d12, d13, d14, d15, d2⟩ := hds
        obtain ⟨A0, hA1, hA2, x0, u0, hA3⟩ := z12 d12
        obtain ⟨a, n, c, hc1, hc2⟩ := z2 d2
        subst hA1 hc1
        obtain ⟨s0, s1, s2, s3, s4, _⟩ := old2 wz A0 29 _ _ (.int .i64 D0) (.slice a n c) hA3
        have S4 := Lib.hid s4
        have HA3 := Lib.hid hA3
        have HA2 := Lib.hid hA2
        clear s4 hA2 hA3 hc2
        have Z := hinv
        clear hinv ho hbel hN hdeps z0 z1 z2 z3 z4 z5 z6 z7 z8 z9 z10 z11 z12 z13 z14 z15 z16 z17 z18 z19 z20 z21 z22 z23 z24 z25 z26 z27 z28 z29
        go_simp
        clear s0 s1 s2 s3
        obtain ⟨hN, hbel, z0, z1, z2, z3, z4, z5, z6, z7, z8, z9, z10, z11, z12, z13, z14, z15, z16, z17, z18, z19, z20, z21, z22, z23, z24, z25, z26, z27, z28, z29⟩ := Z.out
        have hbut := but_set2 wz A0 (.int .i64 D0) (.slice a n c)
        exact hK _ _ ⟨_, _, _, _, _, _, _, _, _, _, _, _, _, _, _, _, rfl, Lib.hid ⟨by simpa using hN, below_set2 hbel HA2.out (.int .i64 D0) (.slice a n c), fun g0 => (z0 ((set_other (by decide)).symm.trans g0)), fun g0 => (z1 ((set_other (by decide)).symm.trans g0)), fun g0 => (z2 ((set_other (by decide)).symm.trans g0)).set2 HA3.out (by decide) (.int .i64 D0) (.slice a n c), fun g0 => (z3 ((set_other (by decide)).symm.trans g0)), fun g0 => (z4 ((set_other (by decide)).symm.trans g0)), fun g0 => (z5 ((set_other (by decide)).symm.trans g0)).set2 HA3.out (by decide) (.int .i64 D0) (.slice a n c), fun g0 => (z6 ((set_other (by decide)).symm.trans g0)), fun g0 => (z7 ((set_other (by decide)).symm.trans g0)), fun g0 => (z8 ((set_other (by decide)).symm.trans g0)).set2 HA3.out (by decide) (.int .i64 D0) (.slice a n c), fun g0 => (z9 ((set_other (by decide)).symm.trans g0)), fun g0 => (z10 ((set_other (by decide)).symm.trans g0)), fun g0 => (z11 ((set_other (by decide)).symm.trans g0)).set2 HA3.out (by decide) (.int .i64 D0) (.slice a n c), fun g0 => ⟨A0, rfl, HA2.out, _, _, S4.out⟩, fun g0 => (z13 ((set_other (by decide)).symm.trans g0)).but hbut ((z16 d12 d13)).symm, fun g0 => (z14 ((set_other (by decide)).symm.trans g0)).but hbut ((z17 d12 d14)).symm, fun g0 => (z15 ((set_other (by decide)).symm.trans g0)).but hbut ((z18 d12 d15)).symm, fun g0 g1 => (z16 ((set_other (by decide)).symm.trans g0) ((set_other (by decide)).symm.trans g1)), fun g0 g1 => (z17 ((set_other (by decide)).symm.trans g0) ((set_other (by decide)).symm.trans g1)), fun g0 g1 => (z18 ((set_other (by decide)).symm.trans g0) ((set_other (by decide)).symm.trans g1)), fun g0 g1 => (z19 ((set_other (by decide)).symm.trans g0) ((set_other (by decide)).symm.trans g1)), fun g0 g1 => (z20 ((set_other (by decide)).symm.trans g0) ((set_other (by decide)).symm.trans g1)), fun g0 g1 => (z21 ((set_other (by decide)).symm.trans g0) ((set_other (by decide)).symm.trans g1)), fun _ => ⟨A0, _, rfl, rfl, S4.out⟩, fun g0 => (z23 ((set_other (by decide)).symm.trans g0)).but hbut ((z16 d12 d13)).symm, fun g0 => (z24 ((set_other (by decide)).symm.trans g0)).but hbut ((z17 d12 d14)).symm, fun g0 => (z25 ((set_other (by decide)).symm.trans g0)).but hbut ((z18 d12 d15)).symm, fun _ => ⟨set_keep d12, set_keep d2⟩, fun g0 => ⟨set_keep (z27 ((set_other (by decide)).symm.trans g0)).1, set_keep (z27 ((set_other (by decide)).symm.trans g0)).2⟩, fun g0 => ⟨set_keep (z28 ((set_other (by decide)).symm.trans g0)).1, set_keep (z28 ((set_other (by decide)).symm.trans g0)).2⟩, fun g0 => ⟨set_keep (z29 ((set_other (by decide)).symm.trans g0)).1, set_keep (z29 ((set_other (by decide)).symm.trans g0)).2⟩⟩⟩
      · as_aux_lemma =>
        obtain rfl := Option.some.inj ho
        have hds : L[13]? = some true ∧ L[12]? = some true ∧ L[14]? = some true ∧ L[15]? = some true ∧ L[5]? = some true := by
          simp [Region.binds] at hdeps
          refine ⟨?_, ?_, ?_, ?_, ?_⟩ <;> (refine dep ?_; simp [hdeps])
        obtain ⟨d13, d12, d14, d15, d5⟩ := hds
        obtain ⟨A0, hA1, hA2, x0, u0, hA3⟩ := z13 d13
        obtain ⟨a, n, c, hc1, hc2⟩ := z5 d5
        subst hA1 hc1
        obtain ⟨s0, s1, s2, s3, s4, _⟩ := old2 wz A0 29 _ _ (.int .i64 D1) (.slice a n c) hA3
        have S4 := Lib.hid s4
        have HA3 := Lib.hid hA3
        have HA2 := Lib.hid hA2
        clear s4 hA2 hA3 hc2
        have Z := hinv
        clear hinv ho hbel hN hdeps z0 z1 z2 z3 z4 z5 z6 z7 z8 z9 z10 z11 z12 z13 z14 z15 z16 z17 z18 z19 z20 z21 z22 z23 z24 z25 z26 z27 z28 z29
        go_simp
        clear s0 s1 s2 s3
        obtain ⟨hN, hbel, z0, z1, z2, z3, z4, z5, z6, z7, z8, z9, z10, z11, z12, z13, z14, z15, z16, z17, z18, z19, z20, z21, z22, z23, z24, z25, z26, z27, z28, z29⟩ := Z.out
        have hbut := but_set2 wz A0 (.int .i64 D1) (.slice a n c)
        exact hK _ _ ⟨_, _, _, _, _, _, _, _, _, _, _, _, _, _, _, _, rfl, Lib.hid ⟨by simpa using hN, below_set2 hbel HA2.out (.int .i64 D1) (.slice a n c), fun g0 => (z0 ((set_other (by decide)).symm.trans g0)), fun g0 => (z1 ((set_other (by decide)).symm.trans g0)), fun g0 => (z2 ((set_other (by decide)).symm.trans g0)).set2 HA3.out (by decide) (.int .i64 D1) (.slice a n c), fun g0 => (z3 ((set_other (by decide)).symm.trans g0)), fun g0 => (z4 ((set_other (by decide)).symm.trans g0)), fun g0 => (z5 ((set_other (by decide)).symm.trans g0)).set2 HA3.out (by decide) (.int .i64 D1) (.slice a n c), fun g0 => (z6 ((set_other (by decide)).symm.trans g0)), fun g0 => (z7 ((set_other (by decide)).symm.trans g0)), fun g0 => (z8 ((set_other (by decide)).symm.trans g0)).set2 HA3.out (by decide) (.int .i64 D1) (.slice a n c), fun g0 => (z9 ((set_other (by decide)).symm.trans g0)), fun g0 => (z10 ((set_other (by decide)).symm.trans g0)), fun g0 => (z11 ((set_other (by decide)).symm.trans g0)).set2 HA3.out (by decide) (.int .i64 D1) (.slice a n c), fun g0 => (z12 ((set_other (by decide)).symm.trans g0)).but hbut (z16 d12 d13), fun g0 => ⟨A0, rfl, HA2.out, _, _, S4.out⟩, fun g0 => (z14 ((set_other (by decide)).symm.trans g0)).but hbut ((z19 d13 d14)).symm, fun g0 => (z15 ((set_other (by decide)).symm.trans g0)).but hbut ((z20 d13 d15)).symm, fun g0 g1 => (z16 ((set_other (by decide)).symm.trans g0) ((set_other (by decide)).symm.trans g1)), fun g0 g1 => (z17 ((set_other (by decide)).symm.trans g0) ((set_other (by decide)).symm.trans g1)), fun g0 g1 => (z18 ((set_other (by decide)).symm.trans g0) ((set_other (by decide)).symm.trans g1)), fun g0 g1 => (z19 ((set_other (by decide)).symm.trans g0) ((set_other (by decide)).symm.trans g1)), fun g0 g1 => (z20 ((set_other (by decide)).symm.trans g0) ((set_other (by decide)).symm.trans g1)), fun g0 g1 => (z21 ((set_other (by decide)).symm.trans g0) ((set_other (by decide)).symm.trans g1)), fun g0 => (z22 ((set_other (by decide)).symm.trans g0)).but hbut (z16 d12 d13), fun _ => ⟨A0, _, rfl, rfl, S4.out⟩, fun g0 => (z24 ((set_other (by decide)).symm.trans g0)).but hbut ((z19 d13 d14)).symm, fun g0 => (z25 ((set_other (by decide)).symm.trans g0)).but hbut ((z20 d13 d15)).symm, fun g0 => ⟨set_keep (z26 ((set_other (by decide)).symm.trans g0)).1, set_keep (z26 ((set_other (by decide)).symm.trans g0)).2⟩, fun _ => ⟨set_keep d13, set_keep d5⟩, fun g0 => ⟨set_keep (z28 ((set_other (by decide)).symm.trans g0)).1, set_keep (z28 ((set_other (by decide)).symm.trans g0)).2⟩, fun g0 => ⟨set_keep (z29 ((set_other (by decide)).symm.trans g0)).1, set_keep (z29 ((set_other (by decide)).symm.trans g0)).2⟩⟩⟩
      · as_aux_lemma =>
        obtain rfl := Option.some.inj ho
        have hds : L[14]? = some true ∧ L[12]? = some true ∧ L[13]? = some true ∧ L[15]? = some true ∧ L[8]? = some true := by
          simp [Region.binds] at hdeps
          refine ⟨?_, ?_, ?_, ?_, ?_⟩ <;> (refine dep ?_; simp [hdeps])
        obtain ⟨d14, d12, d13, d15, d8⟩ := hds
        obtain ⟨A0, hA1, hA2, x0, u0, hA3⟩ := z14 d14
        obtain ⟨a, n, c, hc1, hc2⟩ := z8 d8
        subst hA1 hc1
        obtain ⟨s0, s1, s2, s3, s4, _⟩ := old2 wz A0 29 _ _ (.int .i64 D2) (.slice a n c) hA3
        have S4 := Lib.hid s4
        have HA3 := Lib.hid hA3
        have HA2 := Lib.hid hA2
        clear s4 hA2 hA3 hc2
        have Z := hinv
        clear hinv ho hbel hN hdeps z0 z1 z2 z3 z4 z5 z6 z7 z8 z9 z10 z11 z12 z13 z14 z15 z16 z17 z18 z19 z20 z21 z22 z23 z24 z25 z26 z27 z28 z29
        go_simp
        clear s0 s1 s2 s3
        obtain ⟨hN, hbel, z0, z1, z2, z3, z4, z5, z6, z7, z8, z9, z10, z11, z12, z13, z14, z15, z16, z17, z18, z19, z20, z21, z22, z23, z24, z25, z26, z27, z28, z29⟩ := Z.out
        have hbut := but_set2 wz A0 (.int .i64 D2) (.slice a n c)
        exact hK _ _ ⟨_, _, _, _, _, _, _, _, _, _, _, _, _, _, _, _, rfl, Lib.hid ⟨by simpa using hN, below_set2 hbel HA2.out (.int .i64 D2) (.slice a n c), fun g0 => (z0 ((set_other (by decide)).symm.trans g0)), fun g0 => (z1 ((set_other (by decide)).symm.trans g0)), fun g0 => (z2 ((set_other (by decide)).symm.trans g0)).set2 HA3.out (by decide) (.int .i64 D2) (.slice a n c), fun g0 => (z3 ((set_other (by decide)).symm.trans g0)), fun g0 => (z4 ((set_other (by decide)).symm.trans g0)), fun g0 => (z5 ((set_other (by decide)).symm.trans g0)).set2 HA3.out (by decide) (.int .i64 D2) (.slice a n c), fun g0 => (z6 ((set_other (by decide)).symm.trans g0)), fun g0 => (z7 ((set_other (by decide)).symm.trans g0)), fun g0 => (z8 ((set_other (by decide)).symm.trans g0)).set2 HA3.out (by decide) (.int .i64 D2) (.slice a n c), fun g0 => (z9 ((set_other (by decide)).symm.trans g0)), fun g0 => (z10 ((set_other (by decide)).symm.trans g0)), fun g0 => (z11 ((set_other (by decide)).symm.trans g0)).set2 HA3.out (by decide) (.int .i64 D2) (.slice a n c), fun g0 => (z12 ((set_other (by decide)).symm.trans g0)).but hbut (z17 d12 d14), fun g0 => (z13 ((set_other (by decide)).symm.trans g0)).but hbut (z19 d13 d14), fun g0 => ⟨A0, rfl, HA2.out, _, _, S4.out⟩, fun g0 => (z15 ((set_other (by decide)).symm.trans g0)).but hbut ((z21 d14 d15)).symm, fun g0 g1 => (z16 ((set_other (by decide)).symm.trans g0) ((set_other (by decide)).symm.trans g1)), fun g0 g1 => (z17 ((set_other (by decide)).symm.trans g0) ((set_other (by decide)).symm.trans g1)), fun g0 g1 => (z18 ((set_other (by decide)).symm.trans g0) ((set_other (by decide)).symm.trans g1)), fun g0 g1 => (z19 ((set_other (by decide)).symm.trans g0) ((set_other (by decide)).symm.trans g1)), fun g0 g1 => (z20 ((set_other (by decide)).symm.trans g0) ((set_other (by decide)).symm.trans g1)), fun g0 g1 => (z21 ((set_other (by decide)).symm.trans g0) ((set_other (by decide)).symm.trans g1)), fun g0 => (z22 ((set_other (by decide)).symm.trans g0)).but hbut (z17 d12 d14), fun g0 => (z23 ((set_other (by decide)).symm.trans g0)).but hbut (z19 d13 d14), fun _ => ⟨A0, _, rfl, rfl, S4.out⟩, fun g0 => (z25 ((set_other (by decide)).symm.trans g0)).but hbut ((z21 d14 d15)).symm, fun g0 => ⟨set_keep (z26 ((set_other (by decide)).symm.trans g0)).1, set_keep (z26 ((set_other (by decide)).symm.trans g0)).2⟩, fun g0 => ⟨set_keep (z27 ((set_other (by decide)).symm.trans g0)).1, set_keep (z27 ((set_other (by decide)).symm.trans g0)).2⟩, fun _ => ⟨set_keep d14, set_keep d8⟩, fun g0 => ⟨set_keep (z29 ((set_other (by decide)).symm.trans g0)).1, set_keep (z29 ((set_other (by decide)).symm.trans g0)).2⟩⟩⟩
      · as_aux_lemma =>
        obtain rfl := Option.some.inj ho
        have hds : L[15]? = some true ∧ L[12]? = some true ∧ L[13]? = some true ∧ L[14]? = some true ∧ L[11]? = some true := by
          simp [Region.binds] at hdeps
          refine ⟨?_, ?_, ?_, ?_, ?_⟩ <;> (refine dep ?_; simp [hdeps])
        obtain ⟨d15, d12, d13, d14, d11⟩ := hds
        obtain ⟨A0, hA1, hA2, x0, u0, hA3⟩ := z15 d15
        obtain ⟨a, n, c, hc1, hc2⟩ := z11 d11
        subst hA1 hc1
        obtain ⟨s0, s1, s2, s3, s4, _⟩ := old2 wz A0 29 _ _ (.int .i64 D3) (.slice a n c) hA3
        have S4 := Lib.hid s4
        have HA3 := Lib.hid hA3
        have HA2 := Lib.hid hA2
        clear s4 hA2 hA3 hc2
        have Z := hinv
        clear hinv ho hbel hN hdeps z0 z1 z2 z3 z4 z5 z6 z7 z8 z9 z10 z11 z12 z13 z14 z15 z16 z17 z18 z19 z20 z21 z22 z23 z24 z25 z26 z27 z28 z29
        go_simp
        clear s0 s1 s2 s3
        obtain ⟨hN, hbel, z0, z1, z2, z3, z4, z5, z6, z7, z8, z9, z10, z11, z12, z13, z14, z15, z16, z17, z18, z19, z20, z21, z22, z23, z24, z25, z26, z27, z28, z29⟩ := Z.out
        have hbut := but_set2 wz A0 (.int .i64 D3) (.slice a n c)
        exact hK _ _ ⟨_, _, _, _, _, _, _, _, _, _, _, _, _, _, _, _, rfl, Lib.hid ⟨by simpa using hN, below_set2 hbel HA2.out (.int .i64 D3) (.slice a n c), fun g0 => (z0 ((set_other (by decide)).symm.trans g0)), fun g0 => (z1 ((set_other (by decide)).symm.trans g0)), fun g0 => (z2 ((set_other (by decide)).symm.trans g0)).set2 HA3.out (by decide) (.int .i64 D3) (.slice a n c), fun g0 => (z3 ((set_other (by decide)).symm.trans g0)), fun g0 => (z4 ((set_other (by decide)).symm.trans g0)), fun g0 => (z5 ((set_other (by decide)).symm.trans g0)).set2 HA3.out (by decide) (.int .i64 D3) (.slice a n c), fun g0 => (z6 ((set_other (by decide)).symm.trans g0)), fun g0 => (z7 ((set_other (by decide)).symm.trans g0)), fun g0 => (z8 ((set_other (by decide)).symm.trans g0)).set2 HA3.out (by decide) (.int .i64 D3) (.slice a n c), fun g0 => (z9 ((set_other (by decide)).symm.trans g0)), fun g0 => (z10 ((set_other (by decide)).symm.trans g0)), fun g0 => (z11 ((set_other (by decide)).symm.trans g0)).set2 HA3.out (by decide) (.int .i64 D3) (.slice a n c), fun g0 => (z12 ((set_other (by decide)).symm.trans g0)).but hbut (z18 d12 d15), fun g0 => (z13 ((set_other (by decide)).symm.trans g0)).but hbut (z20 d13 d15), fun g0 => (z14 ((set_other (by decide)).symm.trans g0)).but hbut (z21 d14 d15), fun g0 => ⟨A0, rfl, HA2.out, _, _, S4.out⟩, fun g0 g1 => (z16 ((set_other (by decide)).symm.trans g0) ((set_other (by decide)).symm.trans g1)), fun g0 g1 => (z17 ((set_other (by decide)).symm.trans g0) ((set_other (by decide)).symm.trans g1)), fun g0 g1 => (z18 ((set_other (by decide)).symm.trans g0) ((set_other (by decide)).symm.trans g1)), fun g0 g1 => (z19 ((set_other (by decide)).symm.trans g0) ((set_other (by decide)).symm.trans g1)), fun g0 g1 => (z20 ((set_other (by decide)).symm.trans g0) ((set_other (by decide)).symm.trans g1)), fun g0 g1 => (z21 ((set_other (by decide)).symm.trans g0) ((set_other (by decide)).symm.trans g1)), fun g0 => (z22 ((set_other (by decide)).symm.trans g0)).but hbut (z18 d12 d15), fun g0 => (z23 ((set_other (by decide)).symm.trans g0)).but hbut (z20 d13 d15), fun g0 => (z24 ((set_other (by decide)).symm.trans g0)).but hbut (z21 d14 d15), fun _ => ⟨A0, _, rfl, rfl, S4.out⟩, fun g0 => ⟨set_keep (z26 ((set_other (by decide)).symm.trans g0)).1, set_keep (z26 ((set_other (by decide)).symm.trans g0)).2⟩, fun g0 => ⟨set_keep (z27 ((set_other (by decide)).symm.trans g0)).1, set_keep (z27 ((set_other (by decide)).symm.trans g0)).2⟩, fun g0 => ⟨set_keep (z28 ((set_other (by decide)).symm.trans g0)).1, set_keep (z28 ((set_other (by decide)).symm.trans g0)).2⟩, fun _ => ⟨set_keep d15, set_keep d11⟩⟩⟩
    case fin1 =>
      intro L a wz hI hr
      obtain ⟨y3, y4, y5, y6, y11, y12, y13, y14, y15, y16, y17, y18, y19, y20, y21, y22, rfl, hinv⟩ := hI
      obtain ⟨hN, hbel, z0, z1, z2, z3, z4, z5, z6, z7, z8, z9, z10, z11, z12, z13, z14, z15, z16, z17, z18, z19, z20, z21, z22, z23, z24, z25, z26, z27, z28, z29⟩ := hinv.out
      have f0 : L[0]? = some true := by
        cases hb : L[0]? with
        | none => have := (Array.getElem?_eq_none_iff.1 hb); omega
        | some b =>
          cases b with
          | true => rfl
          | false => exact (ready_nil hr hb (by rfl) (by simp [Region.binds])).elim
      have f1 : L[1]? = some true := by
        cases hb : L[1]? with
        | none => have := (Array.getElem?_eq_none_iff.1 hb); omega
        | some b =>
          cases b with
          | true => rfl
          | false => exact (ready_nil hr hb (by rfl) (by simp [Region.binds, f0])).elim
      have f2 : L[2]? = some true := by
        cases hb : L[2]? with
        | none => have := (Array.getElem?_eq_none_iff.1 hb); omega
        | some b =>
          cases b with
          | true => rfl
          | false => exact (ready_nil hr hb (by rfl) (by simp [Region.binds, f0, f1])).elim
      have f3 : L[3]? = some true := by
        cases hb : L[3]? with
        | none => have := (Array.getElem?_eq_none_iff.1 hb); omega
        | some b =>
          cases b with
          | true => rfl
          | false => exact (ready_nil hr hb (by rfl) (by simp [Region.binds, f0, f1, f2])).elim
      have f4 : L[4]? = some true := by
        cases hb : L[4]? with
        | none => have := (Array.getElem?_eq_none_iff.1 hb); omega
        | some b =>
          cases b with
          | true => rfl
          | false => exact (ready_nil hr hb (by rfl) (by simp [Region.binds, f0, f1, f2, f3])).elim
      have f5 : L[5]? = some true := by
        cases hb : L[5]? with
        | none => have := (Array.getElem?_eq_none_iff.1 hb); omega
        | some b =>
          cases b with
          | true => rfl
          | false => exact (ready_nil hr hb (by rfl) (by simp [Region.binds, f0, f1, f2, f3, f4])).elim
      have f6 : L[6]? = some true := by
        cases hb : L[6]? with
        | none => have := (Array.getElem?_eq_none_iff.1 hb); omega
        | some b =>
          cases b with
          | true => rfl
          | false => exact (ready_nil hr hb (by rfl) (by simp [Region.binds, f0, f1, f2, f3, f4, f5])).elim
      have f7 : L[7]? = some true := by
        cases hb : L[7]? with
        | none => have := (Array.getElem?_eq_none_iff.1 hb); omega
        | some b =>
          cases b with
          | true => rfl
          | false => exact (ready_nil hr hb (by rfl) (by simp [Region.binds, f0, f1, f2, f3, f4, f5, f6])).elim
      have f8 : L[8]? = some true := by
        cases hb : L[8]? with
        | none => have := (Array.getElem?_eq_none_iff.1 hb); omega
        | some b =>
          cases b with
          | true => rfl
          | false => exact (ready_nil hr hb (by rfl) (by simp [Region.binds, f0, f1, f2, f3, f4, f5, f6, f7])).elim
      have f9 : L[9]? = some true := by
        cases hb : L[9]? with
        | none => have := (Array.getElem?_eq_none_iff.1 hb); omega
        | some b =>
          cases b with
          | true => rfl
          | false => exact (ready_nil hr hb (by rfl) (by simp [Region.binds, f0, f1, f2, f3, f4, f5, f6, f7, f8])).elim
      have f10 : L[10]? = some true := by
        cases hb : L[10]? with
        | none => have := (Array.getElem?_eq_none_iff.1 hb); omega
        | some b =>
          cases b with
          | true => rfl
          | false => exact (ready_nil hr hb (by rfl) (by simp [Region.binds, f0, f1, f2, f3, f4, f5, f6, f7, f8, f9])).elim
      have f11 : L[11]? = some true := by
        cases hb : L[11]? with
        | none => have := (Array.getElem?_eq_none_iff.1 hb); omega
        | some b =>
          cases b with
          | true => rfl
          | false => exact (ready_nil hr hb (by rfl) (by simp [Region.binds, f0, f1, f2, f3, f4, f5, f6, f7, f8, f9, f10])).elim
      have f12 : L[12]? = some true := by
        cases hb : L[12]? with
        | none => have := (Array.getElem?_eq_none_iff.1 hb); omega
        | some b =>
          cases b with
          | true => rfl
          | false => exact (ready_nil hr hb (by rfl) (by simp [Region.binds, f0, f1, f2, f3, f4, f5, f6, f7, f8, f9, f10, f11])).elim
      have f13 : L[13]? = some true := by
        cases hb : L[13]? with
        | none => have := (Array.getElem?_eq_none_iff.1 hb); omega
        | some b =>
          cases b with
          | true => rfl
          | false => exact (ready_nil hr hb (by rfl) (by simp [Region.binds, f0, f1, f2, f3, f4, f5, f6, f7, f8, f9, f10, f11, f12])).elim
      have f14 : L[14]? = some true := by
        cases hb : L[14]? with
        | none => have := (Array.getElem?_eq_none_iff.1 hb); omega
        | some b =>
          cases b with
          | true => rfl
          | false => exact (ready_nil hr hb (by rfl) (by simp [Region.binds, f0, f1, f2, f3, f4, f5, f6, f7, f8, f9, f10, f11, f12, f13])).elim
      have f15 : L[15]? = some true := by
        cases hb : L[15]? with
        | none => have := (Array.getElem?_eq_none_iff.1 hb); omega
        | some b =>
          cases b with
          | true => rfl
          | false => exact (ready_nil hr hb (by rfl) (by simp [Region.binds, f0, f1, f2, f3, f4, f5, f6, f7, f8, f9, f10, f11, f12, f13, f14])).elim
      have f16 : L[16]? = some true := by
        cases hb : L[16]? with
        | none => have := (Array.getElem?_eq_none_iff.1 hb); omega
        | some b =>
          cases b with
          | true => rfl
          | false => exact (ready_nil hr hb (by rfl) (by simp [Region.binds, f0, f1, f2, f3, f4, f5, f6, f7, f8, f9, f10, f11, f12, f13, f14, f15])).elim
      have f17 : L[17]? = some true := by
        cases hb : L[17]? with
        | none => have := (Array.getElem?_eq_none_iff.1 hb); omega
        | some b =>
          cases b with
          | true => rfl
          | false => exact (ready_nil hr hb (by rfl) (by simp [Region.binds, f0, f1, f2, f3, f4, f5, f6, f7, f8, f9, f10, f11, f12, f13, f14, f15, f16])).elim
      have f18 : L[18]? = some true := by
        cases hb : L[18]? with
        | none => have := (Array.getElem?_eq_none_iff.1 hb); omega
        | some b =>
          cases b with
          | true => rfl
          | false => exact (ready_nil hr hb (by rfl) (by simp [Region.binds, f0, f1, f2, f3, f4, f5, f6, f7, f8, f9, f10, f11, f12, f13, f14, f15, f16, f17])).elim
      have f19 : L[19]? = some true := by
        cases hb : L[19]? with
        | none => have := (Array.getElem?_eq_none_iff.1 hb); omega
        | some b =>
          cases b with
          | true => rfl
          | false => exact (ready_nil hr hb (by rfl) (by simp [Region.binds, f0, f1, f2, f3, f4, f5, f6, f7, f8, f9, f10, f11, f12, f13, f14, f15, f16, f17, f18])).elim
      obtain ⟨B0, cs, hp0, hy0, hh0⟩ := z22 f16
      obtain ⟨a0, n0, c0, hz, hl0⟩ := z2 f2
      rw [hz] at hy0
      obtain rfl := (Value.agg.inj hy0).symm
      subst hp0
      obtain ⟨B1, cs, hp1, hy1, hh1⟩ := z23 f17
      obtain ⟨a1, n1, c1, hz, hl1⟩ := z5 f5
      rw [hz] at hy1
      obtain rfl := (Value.agg.inj hy1).symm
      subst hp1
      obtain ⟨B2, cs, hp2, hy2, hh2⟩ := z24 f18
      obtain ⟨a2, n2, c2, hz, hl2⟩ := z8 f8
      rw [hz] at hy2
      obtain rfl := (Value.agg.inj hy2).symm
      subst hp2
      obtain ⟨B3, cs, hp3, hy3, hh3⟩ := z25 f19
      obtain ⟨a3, n3, c3, hz, hl3⟩ := z11 f11
      rw [hz] at hy3
      obtain rfl := (Value.agg.inj hy3).symm
      subst hp3
      have HF := Lib.hid (show VL wz B0 D0 a0 n0 c0 P0 ∧ VL wz B1 D1 a1 n1 c1 P1 ∧ VL wz B2 D2 a2 n2 c2 P2 ∧ VL wz B3 D3 a3 n3 c3 P3 ∧ Below w1.heap.size w1 wz from ⟨⟨hh0, hl0.la.mono (by omega)⟩, ⟨hh1, hl1.la.mono (by omega)⟩, ⟨hh2, hl2.la.mono (by omega)⟩, ⟨hh3, hl3.la.mono (by omega)⟩, hbel⟩)
      go_wp2_with fail
      go_meet
      exact ⟨_, _, _, _, _, _, _, _, _, _, _, _, _, _, _, _, rfl, rfl, rfl, rfl, HF⟩
  case rest =>
    obtain ⟨V3, a20, n20, c20, V4, a21, n21, c21, V5, a22, n22, c22, V6, a23, n23, c23, rfl, rfl, rfl, rfl, HF⟩ := hcut
    obtain ⟨X1, rfl⟩ : ∃ X, X = wc := ⟨_, rfl⟩
    obtain ⟨hv3, hv4, hv5, hv6, hX⟩ := HF.out
    have HX := Lib.hid hX
    have hB := (HS.out X1 hX).1
    have HS := Lib.hid (fun (wx : World) (hx : Below X1.heap.size X1 wx) => (by
        have hw : Below w.heap.size w wx := hB.trans (hx.mono hB.size)
        have hold := HS.out wx (HX.out.trans (hx.mono HX.out.size))
        have r0 := block_below hv3.1 hx
        have r1 := block_below hv4.1 hx
        have r2 := block_below hv5.1 hx
        have r3 := block_below hv6.1 hx
        exact ⟨hw, hold.2.1, hold.2.2.1, hold.2.2.2.1, hold.2.2.2.2.1, hold.2.2.2.2.2.1, hold.2.2.2.2.2.2.1, hold.2.2.2.2.2.2.2.1, hold.2.2.2.2.2.2.2.2.1, by rw [cell_of_row _ _ 0 _ 29 (0, 0) r0]; rfl, by rw [cell_of_row _ _ 1 _ 29 (0, 0) r0]; rfl, by rw [cell_of_row _ _ 0 _ 29 (0, 0) r1]; rfl, by rw [cell_of_row _ _ 1 _ 29 (0, 0) r1]; rfl, by rw [cell_of_row _ _ 0 _ 29 (0, 0) r2]; rfl, by rw [cell_of_row _ _ 1 _ 29 (0, 0) r2]; rfl, by rw [cell_of_row _ _ 0 _ 29 (0, 0) r3]; rfl, by rw [cell_of_row _ _ 1 _ 29 (0, 0) r3]; rfl, hold.2.2.2.2.2.2.2.2.2.1, hold.2.2.2.2.2.2.2.2.2.2.1, hold.2.2.2.2.2.2.2.2.2.2.2.1, hold.2.2.2.2.2.2.2.2.2.2.2.2, hv3.2.below hx, hv4.2.below hx, hv5.2.below hx, hv6.2.below hx⟩ : Below w.heap.size w wx ∧ wx.cell? ⟨w.heap.size, 0, none⟩ = some (.int .i64 S0) ∧ wx.cell? ⟨w.heap.size, 1, none⟩ = some (.slice sa0 sn0 sc0) ∧ wx.cell? ⟨w.heap.size, 2, none⟩ = some (.int .i64 S1) ∧ wx.cell? ⟨w.heap.size, 3, none⟩ = some (.slice sa1 sn1 sc1) ∧ wx.cell? ⟨w.heap.size, 4, none⟩ = some (.int .i64 S2) ∧ wx.cell? ⟨w.heap.size, 5, none⟩ = some (.slice sa2 sn2 sc2) ∧ wx.cell? ⟨w.heap.size, 6, none⟩ = some (.int .i64 S3) ∧ wx.cell? ⟨w.heap.size, 7, none⟩ = some (.slice sa3 sn3 sc3) ∧ wx.cell? ⟨V3, 0, none⟩ = some (.int .i64 D0) ∧ wx.cell? ⟨V3, 1, none⟩ = some (.slice a20 n20 c20) ∧ wx.cell? ⟨V4, 0, none⟩ = some (.int .i64 D1) ∧ wx.cell? ⟨V4, 1, none⟩ = some (.slice a21 n21 c21) ∧ wx.cell? ⟨V5, 0, none⟩ = some (.int .i64 D2) ∧ wx.cell? ⟨V5, 1, none⟩ = some (.slice a22 n22 c22) ∧ wx.cell? ⟨V6, 0, none⟩ = some (.int .i64 D3) ∧ wx.cell? ⟨V6, 1, none⟩ = some (.slice a23 n23 c23) ∧ IntsL wx (.slice sa0 sn0 sc0) ls0 ∧ IntsL wx (.slice sa1 sn1 sc1) ls1 ∧ IntsL wx (.slice sa2 sn2 sc2) ls2 ∧ IntsL wx (.slice sa3 sn3 sc3) ls3 ∧ LA 12 wx D0 a20 n20 c20 P0 ∧ LA 12 wx D1 a21 n21 c21 P1 ∧ LA 12 wx D2 a22 n22 c22 P2 ∧ LA 12 wx D3 a23 n23 c23 P3))
    clear hv3 hv4 hv5 hv6 hX hB HF KS0 KS1 KS2 KS3
    clear HX
    have hHeld := Below.refl X1.heap.size X1
    go_upto_region 4 with fail
    go_cut [7, 8, 23, 24, 25, 26, 27, 28] (fun s7 s8 s23 s24 s25 s26 s27 s28 wx => ∃ V7 V8, s7 = .pointer (some ⟨V7, 0, none⟩) ∧ s8 = .pointer (some ⟨V8, 0, none⟩) ∧ Hid (wx.heap[V7]? = some (Obj.cells #[.int .i64 D0, .slice a20 n20 c20, .int .i64 D1, .slice a21 n21 c21] 32) ∧ wx.heap[V8]? = some (Obj.cells #[.int .i64 D0, .slice a20 n20 c20, .int .i64 D1, .slice a21 n21 c21] 33) ∧ Below X1.heap.size X1 wx))
    case first =>
      refine region_AU (Z := fun j => false) (S := fun w' => Below X1.heap.size X1 w') (by kernel_rfl) (hHeld.drew) (fun hHeld => ?_)
      obtain ⟨wd4, ewd⟩ : ∃ wd, wd = X1.drew := ⟨_, rfl⟩
      rw [← ewd] at hHeld ⊢
      clear ewd
      refine AUS_take (by kernel_rfl) rfl (i := 0) (oi := _) (v := ?vw1) rfl (by kernel_rfl) (by kernel_rfl) (by kernel_rfl) (fun _ _ _ h => h) (Or.inl ⟨by rfl, ?hz1⟩) hHeld ?rst1
      case hz1 => (intro wS hSw; obtain ⟨_, f0, f1, f2, f3, f4, f5, f6, f7, f8, f9, f10, f11, f12, f13, f14, f15, _, _, _, _, _, _, _, _⟩ := HS.out wS hSw; clear hSw; go_simp; try with_reducible rfl)
      simp only [Act.put, List.getElem_toArray, List.getElem_cons_zero, List.getElem_cons_succ, List.setIfInBounds_toArray, List.set_cons_zero, List.set_cons_succ]
      refine AUS_take (by kernel_rfl) rfl (i := 1) (oi := _) (v := ?vw2) rfl (by kernel_rfl) (by kernel_rfl) (by kernel_rfl) (fun _ _ _ h => h) (Or.inl ⟨by rfl, ?hz2⟩) hHeld ?rst2
      case hz2 => (intro wS hSw; obtain ⟨_, f0, f1, f2, f3, f4, f5, f6, f7, f8, f9, f10, f11, f12, f13, f14, f15, _, _, _, _, _, _, _, _⟩ := HS.out wS hSw; clear hSw; go_simp; try with_reducible rfl)
      simp only [Act.put, List.getElem_toArray, List.getElem_cons_zero, List.getElem_cons_succ, List.setIfInBounds_toArray, List.set_cons_zero, List.set_cons_succ]
      refine AUS_take (by kernel_rfl) rfl (i := 2) (oi := _) (v := ?vw3) rfl (by kernel_rfl) (by kernel_rfl) (by kernel_rfl) (fun _ _ _ h => h) (Or.inl ⟨by rfl, ?hz3⟩) hHeld ?rst3
      case hz3 => (intro wS hSw; obtain ⟨_, f0, f1, f2, f3, f4, f5, f6, f7, f8, f9, f10, f11, f12, f13, f14, f15, _, _, _, _, _, _, _, _⟩ := HS.out wS hSw; clear hSw; go_simp; try with_reducible rfl)
      simp only [Act.put, List.getElem_toArray, List.getElem_cons_zero, List.getElem_cons_succ, List.setIfInBounds_toArray, List.set_cons_zero, List.set_cons_succ]
      refine AUS_take (by kernel_rfl) rfl (i := 3) (oi := _) (v := ?vw4) rfl (by kernel_rfl) (by kernel_rfl) (by kernel_rfl) (fun _ _ _ h => h) (Or.inl ⟨by rfl, ?hz4⟩) hHeld ?rst4
      case hz4 => (intro wS hSw; obtain ⟨_, f0, f1, f2, f3, f4, f5, f6, f7, f8, f9, f10, f11, f12, f13, f14, f15, _, _, _, _, _, _, _, _⟩ := HS.out wS hSw; clear hSw; go_simp; try with_reducible rfl)
      simp only [Act.put, List.getElem_toArray, List.getElem_cons_zero, List.getElem_cons_succ, List.setIfInBounds_toArray, List.set_cons_zero, List.set_cons_succ]
      refine AUS_take (by kernel_rfl) rfl (i := 4) (oi := _) (v := ?vw5) rfl (by kernel_rfl) (by kernel_rfl) (by kernel_rfl) (fun _ _ _ h => h) (Or.inl ⟨by rfl, ?hz5⟩) hHeld ?rst5
      case hz5 => (intro wS hSw; obtain ⟨_, f0, f1, f2, f3, f4, f5, f6, f7, f8, f9, f10, f11, f12, f13, f14, f15, _, _, _, _, _, _, _, _⟩ := HS.out wS hSw; clear hSw; go_simp; try with_reducible rfl)
      simp only [Act.put, List.getElem_toArray, List.getElem_cons_zero, List.getElem_cons_succ, List.setIfInBounds_toArray, List.set_cons_zero, List.set_cons_succ]
      refine AUS_take (by kernel_rfl) rfl (i := 5) (oi := _) (v := ?vw6) rfl (by kernel_rfl) (by kernel_rfl) (by kernel_rfl) (fun _ _ _ h => h) (Or.inl ⟨by rfl, ?hz6⟩) hHeld ?rst6
      case hz6 => (intro wS hSw; obtain ⟨_, f0, f1, f2, f3, f4, f5, f6, f7, f8, f9, f10, f11, f12, f13, f14, f15, _, _, _, _, _, _, _, _⟩ := HS.out wS hSw; clear hSw; go_simp; try with_reducible rfl)
      simp only [Act.put, List.getElem_toArray, List.getElem_cons_zero, List.getElem_cons_succ, List.setIfInBounds_toArray, List.set_cons_zero, List.set_cons_succ]
      refine AU_two (i := 6) (j := 7) (oi := _) (oj := _) (by kernel_rfl) rfl rfl (fun K hK => ?_) (fun K hK => ?_)
      · skip
        have HH := Lib.hid hHeld
        have hn1 := heap_alloc_new wd4 (Obj.cells #[.int .i64 0, .slice none 0 0, .int .i64 0, .slice none 0 0] 32)
        have hb := below_alloc1 wd4 (Obj.cells #[.int .i64 0, .slice none 0 0, .int .i64 0, .slice none 0 0] 32)
        clear hHeld
        go_simp
        have hHeld := HH.out.trans (hb.mono HH.out.size)
        have hge1 := HH.out.size
        clear hb HH
        obtain ⟨wa1, ewa⟩ : ∃ wa, wa = wd4.alloc (Obj.cells #[.int .i64 0, .slice none 0 0, .int .i64 0, .slice none 0 0] 32) := ⟨_, rfl⟩
        rw [← ewa] at hn1 hHeld ⊢
        obtain ⟨A1, eA⟩ : ∃ A, A = wd4.heap.size := ⟨_, rfl⟩
        rw [← eA] at hn1 hge1 ⊢
        clear ewa eA
        refine hK.out _ _ (fun _ => hHeld) ?_
        clear hK K
        try simp only [Act.put, List.getElem_toArray, List.getElem_cons_zero, List.getElem_cons_succ, List.setIfInBounds_toArray, List.set_cons_zero, List.set_cons_succ]
        have HH := Lib.hid hHeld
        have hn2 := heap_alloc_new wa1 (Obj.cells #[.int .i64 0, .slice none 0 0, .int .i64 0, .slice none 0 0] 33)
        have hb := below_alloc1 wa1 (Obj.cells #[.int .i64 0, .slice none 0 0, .int .i64 0, .slice none 0 0] 33)
        have hne1_2 : A1 ≠ wa1.heap.size := fun e => by have := (Array.getElem?_eq_some_iff.1 hn1).1; omega
        refine AU_one (i := 7) (o := _) (by kernel_rfl) rfl (fun K hK => ?_)
        clear hHeld
        go_simp
        have hHeld := HH.out.trans (hb.mono HH.out.size)
        replace hn1 := block_below hn1 hb
        have hge2 := HH.out.size
        clear hb HH
        obtain ⟨wa2, ewa⟩ : ∃ wa, wa = wa1.alloc (Obj.cells #[.int .i64 0, .slice none 0 0, .int .i64 0, .slice none 0 0] 33) := ⟨_, rfl⟩
        rw [← ewa] at hn2 hHeld hn1 ⊢
        obtain ⟨A2, eA⟩ : ∃ A, A = wa1.heap.size := ⟨_, rfl⟩
        rw [← eA] at hn2 hge2 hne1_2 ⊢
        clear ewa eA
        refine hK.out _ _ (fun _ => hHeld) ?_
        clear hK K
        try simp only [Act.put, List.getElem_toArray, List.getElem_cons_zero, List.getElem_cons_succ, List.setIfInBounds_toArray, List.set_cons_zero, List.set_cons_succ]
        have HH := Lib.hid hHeld
        obtain ⟨⟨s0, s1, s2, s3⟩, ⟨s5, s6, s7, s8⟩, s4⟩ := old4 wa2 A1 32 _ _ _ _ (.int .i64 (D0)) (.slice a20 n20 c20) (.int .i64 (D1)) (.slice a21 n21 c21) hn1
        replace hn2 := (but_set4 wa2 A1 (.int .i64 (D0)) (.slice a20 n20 c20) (.int .i64 (D1)) (.slice a21 n21 c21) A2 (Ne.symm hne1_2)).trans hn2
        have hHeld2 := below_set4 HH.out hge1 (.int .i64 (D0)) (.slice a20 n20 c20) (.int .i64 (D1)) (.slice a21 n21 c21)
        have S4 := Lib.hid s4
        refine AU_one (i := 8) (o := _) (by kernel_rfl) rfl (fun K hK => ?_)
        clear hHeld s4 hn1
        go_simp
        obtain ⟨ws1, ews⟩ : ∃ ws, set4 wa2 A1 (.int .i64 (D0)) (.slice a20 n20 c20) (.int .i64 (D1)) (.slice a21 n21 c21) = ws := ⟨_, rfl⟩
        have ews2 : ((((wa2.setCell ⟨A1, 0, none⟩ (.int .i64 (D0))).setCell ⟨A1, 1, none⟩ (.slice a20 n20 c20)).setCell ⟨A1, 2, none⟩ (.int .i64 (D1))).setCell ⟨A1, 3, none⟩ (.slice a21 n21 c21)) = ws1 := ews
        have hn1 : (set4 wa2 A1 (.int .i64 (D0)) (.slice a20 n20 c20) (.int .i64 (D1)) (.slice a21 n21 c21)).heap[A1]? = some (Obj.cells #[.int .i64 (D0), .slice a20 n20 c20, .int .i64 (D1), .slice a21 n21 c21] 32) := S4.out
        rw [ews] at hHeld2 hn1 hn2
        rw [ews2]
        have hHeld := hHeld2
        clear hHeld2 S4 HH ews ews2 s0 s1 s2 s3 s5 s6 s7 s8
        refine hK.out _ _ (fun _ => hHeld) ?_
        clear hK K
        try simp only [Act.put, List.getElem_toArray, List.getElem_cons_zero, List.getElem_cons_succ, List.setIfInBounds_toArray, List.set_cons_zero, List.set_cons_succ]
        have HH := Lib.hid hHeld
        obtain ⟨⟨s0, s1, s2, s3⟩, ⟨s5, s6, s7, s8⟩, s4⟩ := old4 ws1 A2 33 _ _ _ _ (.int .i64 (D0)) (.slice a20 n20 c20) (.int .i64 (D1)) (.slice a21 n21 c21) hn2
        replace hn1 := (but_set4 ws1 A2 (.int .i64 (D0)) (.slice a20 n20 c20) (.int .i64 (D1)) (.slice a21 n21 c21) A1 hne1_2).trans hn1
        have hHeld2 := below_set4 HH.out hge2 (.int .i64 (D0)) (.slice a20 n20 c20) (.int .i64 (D1)) (.slice a21 n21 c21)
        have S4 := Lib.hid s4
        refine AU_one (i := 9) (o := _) (by kernel_rfl) rfl (fun K hK => ?_)
        clear hHeld s4 hn2
        go_simp
        obtain ⟨ws2, ews⟩ : ∃ ws, set4 ws1 A2 (.int .i64 (D0)) (.slice a20 n20 c20) (.int .i64 (D1)) (.slice a21 n21 c21) = ws := ⟨_, rfl⟩
        have ews2 : ((((ws1.setCell ⟨A2, 0, none⟩ (.int .i64 (D0))).setCell ⟨A2, 1, none⟩ (.slice a20 n20 c20)).setCell ⟨A2, 2, none⟩ (.int .i64 (D1))).setCell ⟨A2, 3, none⟩ (.slice a21 n21 c21)) = ws2 := ews
        have hn2 : (set4 ws1 A2 (.int .i64 (D0)) (.slice a20 n20 c20) (.int .i64 (D1)) (.slice a21 n21 c21)).heap[A2]? = some (Obj.cells #[.int .i64 (D0), .slice a20 n20 c20, .int .i64 (D1), .slice a21 n21 c21] 33) := S4.out
        rw [ews] at hHeld2 hn2 hn1
        rw [ews2]
        have hHeld := hHeld2
        clear hHeld2 S4 HH ews ews2 s0 s1 s2 s3 s5 s6 s7 s8
        refine hK.out _ _ (fun _ => hHeld) ?_
        clear hK K
        try simp only [Act.put, List.getElem_toArray, List.getElem_cons_zero, List.getElem_cons_succ, List.setIfInBounds_toArray, List.set_cons_zero, List.set_cons_succ]
        have HE := Lib.hid hHeld
        clear hHeld
        refine AU_done (by kernel_rfl) ?_ _
        simp only [OnlyN]
        have hHeld := HE.out
        clear HE
        have HF := Lib.hid (And.intro hn1 (And.intro hn2 hHeld))
        clear hHeld hn1 hn2
        go_wp2_with fail
        go_meet
        exact ⟨_, _, rfl, rfl, HF⟩
      · skip
        have HH := Lib.hid hHeld
        have hn3 := heap_alloc_new wd4 (Obj.cells #[.int .i64 0, .slice none 0 0, .int .i64 0, .slice none 0 0] 33)
        have hb := below_alloc1 wd4 (Obj.cells #[.int .i64 0, .slice none 0 0, .int .i64 0, .slice none 0 0] 33)
        clear hHeld
        go_simp
        have hHeld := HH.out.trans (hb.mono HH.out.size)
        have hge3 := HH.out.size
        clear hb HH
        obtain ⟨wa3, ewa⟩ : ∃ wa, wa = wd4.alloc (Obj.cells #[.int .i64 0, .slice none 0 0, .int .i64 0, .slice none 0 0] 33) := ⟨_, rfl⟩
        rw [← ewa] at hn3 hHeld ⊢
        obtain ⟨A3, eA⟩ : ∃ A, A = wd4.heap.size := ⟨_, rfl⟩
        rw [← eA] at hn3 hge3 ⊢
        clear ewa eA
        refine hK.out _ _ (fun _ => hHeld) ?_
        clear hK K
        try simp only [Act.put, List.getElem_toArray, List.getElem_cons_zero, List.getElem_cons_succ, List.setIfInBounds_toArray, List.set_cons_zero, List.set_cons_succ]
        have HH := Lib.hid hHeld
        have hn4 := heap_alloc_new wa3 (Obj.cells #[.int .i64 0, .slice none 0 0, .int .i64 0, .slice none 0 0] 32)
        have hb := below_alloc1 wa3 (Obj.cells #[.int .i64 0, .slice none 0 0, .int .i64 0, .slice none 0 0] 32)
        have hne3_4 : A3 ≠ wa3.heap.size := fun e => by have := (Array.getElem?_eq_some_iff.1 hn3).1; omega
        refine AU_one (i := 6) (o := _) (by kernel_rfl) rfl (fun K hK => ?_)
        clear hHeld
        go_simp
        have hHeld := HH.out.trans (hb.mono HH.out.size)
        replace hn3 := block_below hn3 hb
        have hge4 := HH.out.size
        clear hb HH
        obtain ⟨wa4, ewa⟩ : ∃ wa, wa = wa3.alloc (Obj.cells #[.int .i64 0, .slice none 0 0, .int .i64 0, .slice none 0 0] 32) := ⟨_, rfl⟩
        rw [← ewa] at hn4 hHeld hn3 ⊢
        obtain ⟨A4, eA⟩ : ∃ A, A = wa3.heap.size := ⟨_, rfl⟩
        rw [← eA] at hn4 hge4 hne3_4 ⊢
        clear ewa eA
        refine hK.out _ _ (fun _ => hHeld) ?_
        clear hK K
        try simp only [Act.put, List.getElem_toArray, List.getElem_cons_zero, List.getElem_cons_succ, List.setIfInBounds_toArray, List.set_cons_zero, List.set_cons_succ]
        have HH := Lib.hid hHeld
        obtain ⟨⟨s0, s1, s2, s3⟩, ⟨s5, s6, s7, s8⟩, s4⟩ := old4 wa4 A4 32 _ _ _ _ (.int .i64 (D0)) (.slice a20 n20 c20) (.int .i64 (D1)) (.slice a21 n21 c21) hn4
        replace hn3 := (but_set4 wa4 A4 (.int .i64 (D0)) (.slice a20 n20 c20) (.int .i64 (D1)) (.slice a21 n21 c21) A3 hne3_4).trans hn3
        have hHeld2 := below_set4 HH.out hge4 (.int .i64 (D0)) (.slice a20 n20 c20) (.int .i64 (D1)) (.slice a21 n21 c21)
        have S4 := Lib.hid s4
        refine AU_one (i := 8) (o := _) (by kernel_rfl) rfl (fun K hK => ?_)
        clear hHeld s4 hn4
        go_simp
        obtain ⟨ws4, ews⟩ : ∃ ws, set4 wa4 A4 (.int .i64 (D0)) (.slice a20 n20 c20) (.int .i64 (D1)) (.slice a21 n21 c21) = ws := ⟨_, rfl⟩
        have ews2 : ((((wa4.setCell ⟨A4, 0, none⟩ (.int .i64 (D0))).setCell ⟨A4, 1, none⟩ (.slice a20 n20 c20)).setCell ⟨A4, 2, none⟩ (.int .i64 (D1))).setCell ⟨A4, 3, none⟩ (.slice a21 n21 c21)) = ws4 := ews
        have hn4 : (set4 wa4 A4 (.int .i64 (D0)) (.slice a20 n20 c20) (.int .i64 (D1)) (.slice a21 n21 c21)).heap[A4]? = some (Obj.cells #[.int .i64 (D0), .slice a20 n20 c20, .int .i64 (D1), .slice a21 n21 c21] 32) := S4.out
        rw [ews] at hHeld2 hn4 hn3
        rw [ews2]
        have hHeld := hHeld2
        clear hHeld2 S4 HH ews ews2 s0 s1 s2 s3 s5 s6 s7 s8
        refine hK.out _ _ (fun _ => hHeld) ?_
        clear hK K
        try simp only [Act.put, List.getElem_toArray, List.getElem_cons_zero, List.getElem_cons_succ, List.setIfInBounds_toArray, List.set_cons_zero, List.set_cons_succ]
        have HH := Lib.hid hHeld
        obtain ⟨⟨s0, s1, s2, s3⟩, ⟨s5, s6, s7, s8⟩, s4⟩ := old4 ws4 A3 33 _ _ _ _ (.int .i64 (D0)) (.slice a20 n20 c20) (.int .i64 (D1)) (.slice a21 n21 c21) hn3
        replace hn4 := (but_set4 ws4 A3 (.int .i64 (D0)) (.slice a20 n20 c20) (.int .i64 (D1)) (.slice a21 n21 c21) A4 (Ne.symm hne3_4)).trans hn4
        have hHeld2 := below_set4 HH.out hge3 (.int .i64 (D0)) (.slice a20 n20 c20) (.int .i64 (D1)) (.slice a21 n21 c21)
        have S4 := Lib.hid s4
        refine AU_one (i := 9) (o := _) (by kernel_rfl) rfl (fun K hK => ?_)
        clear hHeld s4 hn3
        go_simp
        obtain ⟨ws3, ews⟩ : ∃ ws, set4 ws4 A3 (.int .i64 (D0)) (.slice a20 n20 c20) (.int .i64 (D1)) (.slice a21 n21 c21) = ws := ⟨_, rfl⟩
        have ews2 : ((((ws4.setCell ⟨A3, 0, none⟩ (.int .i64 (D0))).setCell ⟨A3, 1, none⟩ (.slice a20 n20 c20)).setCell ⟨A3, 2, none⟩ (.int .i64 (D1))).setCell ⟨A3, 3, none⟩ (.slice a21 n21 c21)) = ws3 := ews
        have hn3 : (set4 ws4 A3 (.int .i64 (D0)) (.slice a20 n20 c20) (.int .i64 (D1)) (.slice a21 n21 c21)).heap[A3]? = some (Obj.cells #[.int .i64 (D0), .slice a20 n20 c20, .int .i64 (D1), .slice a21 n21 c21] 33) := S4.out
        rw [ews] at hHeld2 hn3 hn4
        rw [ews2]
        have hHeld := hHeld2
        clear hHeld2 S4 HH ews ews2 s0 s1 s2 s3 s5 s6 s7 s8
        refine hK.out _ _ (fun _ => hHeld) ?_
        clear hK K
        try simp only [Act.put, List.getElem_toArray, List.getElem_cons_zero, List.getElem_cons_succ, List.setIfInBounds_toArray, List.set_cons_zero, List.set_cons_succ]
        have HE := Lib.hid hHeld
        clear hHeld
        refine AU_done (by kernel_rfl) ?_ _
        simp only [OnlyN]
        have hHeld := HE.out
        clear HE
        have HF := Lib.hid (And.intro hn4 (And.intro hn3 hHeld))
        clear hHeld hn4 hn3
        go_wp2_with fail
        go_meet
        exact ⟨_, _, rfl, rfl, HF⟩
    case rest =>
      obtain ⟨V7, V8, rfl, rfl, HF⟩ := hcut
      obtain ⟨Y, rfl⟩ : ∃ X, X = wc := ⟨_, rfl⟩
      obtain ⟨hv7, hv8, hX⟩ := HF.out
      have HX := Lib.hid hX
      have hB := (HS.out Y hX).1
      have HS := Lib.hid (fun (wx : World) (hx : Below Y.heap.size Y wx) => (by
          have hw : Below w.heap.size w wx := hB.trans (hx.mono hB.size)
          have hold := HS.out wx (HX.out.trans (hx.mono HX.out.size))
          have r0 := block_below hv7 hx
          have r1 := block_below hv8 hx
          exact ⟨hw, hold.2.1, hold.2.2.1, hold.2.2.2.1, hold.2.2.2.2.1, hold.2.2.2.2.2.1, hold.2.2.2.2.2.2.1, hold.2.2.2.2.2.2.2.1, hold.2.2.2.2.2.2.2.2.1, hold.2.2.2.2.2.2.2.2.2.1, hold.2.2.2.2.2.2.2.2.2.2.1, hold.2.2.2.2.2.2.2.2.2.2.2.1, hold.2.2.2.2.2.2.2.2.2.2.2.2.1, hold.2.2.2.2.2.2.2.2.2.2.2.2.2.1, hold.2.2.2.2.2.2.2.2.2.2.2.2.2.2.1, hold.2.2.2.2.2.2.2.2.2.2.2.2.2.2.2.1, hold.2.2.2.2.2.2.2.2.2.2.2.2.2.2.2.2.1, by rw [cell_of_row _ _ 0 _ 32 (0, 0) r0]; rfl, by rw [cell_of_row _ _ 1 _ 32 (0, 0) r0]; rfl, by rw [cell_of_row _ _ 2 _ 32 (0, 0) r0]; rfl, by rw [cell_of_row _ _ 3 _ 32 (0, 0) r0]; rfl, by rw [cell_of_row _ _ 0 _ 33 (0, 0) r1]; rfl, by rw [cell_of_row _ _ 1 _ 33 (0, 0) r1]; rfl, by rw [cell_of_row _ _ 2 _ 33 (0, 0) r1]; rfl, by rw [cell_of_row _ _ 3 _ 33 (0, 0) r1]; rfl, hold.2.2.2.2.2.2.2.2.2.2.2.2.2.2.2.2.2.1, hold.2.2.2.2.2.2.2.2.2.2.2.2.2.2.2.2.2.2.1, hold.2.2.2.2.2.2.2.2.2.2.2.2.2.2.2.2.2.2.2.1, hold.2.2.2.2.2.2.2.2.2.2.2.2.2.2.2.2.2.2.2.2.1, hold.2.2.2.2.2.2.2.2.2.2.2.2.2.2.2.2.2.2.2.2.2.1, hold.2.2.2.2.2.2.2.2.2.2.2.2.2.2.2.2.2.2.2.2.2.2.1, hold.2.2.2.2.2.2.2.2.2.2.2.2.2.2.2.2.2.2.2.2.2.2.2.1, hold.2.2.2.2.2.2.2.2.2.2.2.2.2.2.2.2.2.2.2.2.2.2.2.2⟩ : Below w.heap.size w wx ∧ wx.cell? ⟨w.heap.size, 0, none⟩ = some (.int .i64 S0) ∧ wx.cell? ⟨w.heap.size, 1, none⟩ = some (.slice sa0 sn0 sc0) ∧ wx.cell? ⟨w.heap.size, 2, none⟩ = some (.int .i64 S1) ∧ wx.cell? ⟨w.heap.size, 3, none⟩ = some (.slice sa1 sn1 sc1) ∧ wx.cell? ⟨w.heap.size, 4, none⟩ = some (.int .i64 S2) ∧ wx.cell? ⟨w.heap.size, 5, none⟩ = some (.slice sa2 sn2 sc2) ∧ wx.cell? ⟨w.heap.size, 6, none⟩ = some (.int .i64 S3) ∧ wx.cell? ⟨w.heap.size, 7, none⟩ = some (.slice sa3 sn3 sc3) ∧ wx.cell? ⟨V3, 0, none⟩ = some (.int .i64 D0) ∧ wx.cell? ⟨V3, 1, none⟩ = some (.slice a20 n20 c20) ∧ wx.cell? ⟨V4, 0, none⟩ = some (.int .i64 D1) ∧ wx.cell? ⟨V4, 1, none⟩ = some (.slice a21 n21 c21) ∧ wx.cell? ⟨V5, 0, none⟩ = some (.int .i64 D2) ∧ wx.cell? ⟨V5, 1, none⟩ = some (.slice a22 n22 c22) ∧ wx.cell? ⟨V6, 0, none⟩ = some (.int .i64 D3) ∧ wx.cell? ⟨V6, 1, none⟩ = some (.slice a23 n23 c23) ∧ wx.cell? ⟨V7, 0, none⟩ = some (.int .i64 D0) ∧ wx.cell? ⟨V7, 1, none⟩ = some (.slice a20 n20 c20) ∧ wx.cell? ⟨V7, 2, none⟩ = some (.int .i64 D1) ∧ wx.cell? ⟨V7, 3, none⟩ = some (.slice a21 n21 c21) ∧ wx.cell? ⟨V8, 0, none⟩ = some (.int .i64 D0) ∧ wx.cell? ⟨V8, 1, none⟩ = some (.slice a20 n20 c20) ∧ wx.cell? ⟨V8, 2, none⟩ = some (.int .i64 D1) ∧ wx.cell? ⟨V8, 3, none⟩ = some (.slice a21 n21 c21) ∧ IntsL wx (.slice sa0 sn0 sc0) ls0 ∧ IntsL wx (.slice sa1 sn1 sc1) ls1 ∧ IntsL wx (.slice sa2 sn2 sc2) ls2 ∧ IntsL wx (.slice sa3 sn3 sc3) ls3 ∧ LA 12 wx D0 a20 n20 c20 P0 ∧ LA 12 wx D1 a21 n21 c21 P1 ∧ LA 12 wx D2 a22 n22 c22 P2 ∧ LA 12 wx D3 a23 n23 c23 P3))
      clear hv7 hv8 hX hB HF
      clear HX
      go_upto_region 5 with fail
      have hHeld := Below.refl Y.heap.size Y
      obtain ⟨hbw, f0, f1, f2, f3, f4, f5, f6, f7, f8, f9, f10, f11, f12, f13, f14, f15, f16, f17, f18, f19, f20, f21, f22, f23, _, _, _, _, _, _, _, _⟩ := HS.out _ hHeld
      obtain ⟨b0, E0⟩ : ∃ b, Hid (rd D0 P0 D1 P1 = b) := ⟨_, Lib.hid rfl⟩
      have QE0 : Hid (∀ d os, Calls Try.prog 13 #[.agg #[.int .i64 D0, .slice a20 n20 c20], .agg #[.int .i64 D1, .slice a21 n21 c21]] (Sort.grow (redrawn Y d) os) fun e w'' => e = .returned (.bool b0) ∧ ∃ p : Regrown, w'' = Sort.grow (redrawn Y p.d) p.os) := Lib.hid (fun d os => Calls.regrown_of (by
        have hz := below_regrown Y d os
        obtain ⟨_, _, _, _, _, _, _, _, _, _, _, _, _, _, _, _, _, _, _, _, _, _, _, _, _, gs0, gs1, gs2, gs3, g20, g21, g22, g23⟩ := HS.out _ hz
        have CC := read_m (g20.mono (by omega)) (g21.mono (by omega))
        rw [E0.out] at CC
        exact CC))
      have QE1 : Hid (∀ d os, Calls Try.prog 14 #[.agg #[.int .i64 D0, .slice a20 n20 c20], .agg #[.int .i64 D1, .slice a21 n21 c21]] (Sort.grow (redrawn Y d) os) fun e w'' => e = .returned (.bool b0) ∧ ∃ p : Regrown, w'' = Sort.grow (redrawn Y p.d) p.os) := Lib.hid (fun d os => Calls.regrown_of (by
        have hz := below_regrown Y d os
        obtain ⟨_, _, _, _, _, _, _, _, _, _, _, _, _, _, _, _, _, _, _, _, _, _, _, _, _, gs0, gs1, gs2, gs3, g20, g21, g22, g23⟩ := HS.out _ hz
        have CC := rread_m (g20.mono (by omega)) (g21.mono (by omega))
        rw [E0.out] at CC
        exact CC))
      obtain ⟨b1, E1⟩ : ∃ b, Hid (ch D0 P0 D1 P1 = b) := ⟨_, Lib.hid rfl⟩
      have QE2 : Hid (∀ d os, Calls Try.prog 15 #[.agg #[.int .i64 D0, .slice a20 n20 c20], .agg #[.int .i64 D1, .slice a21 n21 c21]] (Sort.grow (redrawn Y d) os) fun e w'' => e = .returned (.bool b1) ∧ ∃ p : Regrown, w'' = Sort.grow (redrawn Y p.d) p.os) := Lib.hid (fun d os => Calls.regrown_of (by
        have hz := below_regrown Y d os
        obtain ⟨_, _, _, _, _, _, _, _, _, _, _, _, _, _, _, _, _, _, _, _, _, _, _, _, _, gs0, gs1, gs2, gs3, g20, g21, g22, g23⟩ := HS.out _ hz
        have CC := change_m (g20.mono (by omega)) (g21.mono (by omega))
        rw [E1.out] at CC
        exact CC))
      have QE3 : Hid (∀ d os, Calls Try.prog 16 #[.agg #[.int .i64 D0, .slice a20 n20 c20], .agg #[.int .i64 D1, .slice a21 n21 c21]] (Sort.grow (redrawn Y d) os) fun e w'' => e = .returned (.bool b1) ∧ ∃ p : Regrown, w'' = Sort.grow (redrawn Y p.d) p.os) := Lib.hid (fun d os => Calls.regrown_of (by
        have hz := below_regrown Y d os
        obtain ⟨_, _, _, _, _, _, _, _, _, _, _, _, _, _, _, _, _, _, _, _, _, _, _, _, _, gs0, gs1, gs2, gs3, g20, g21, g22, g23⟩ := HS.out _ hz
        have CC := rchange_m (g20.mono (by omega)) (g21.mono (by omega))
        rw [E1.out] at CC
        exact CC))
      obtain ⟨b2, E2⟩ : ∃ b, Hid (pl P0 = b) := ⟨_, Lib.hid rfl⟩
      have QE4 : Hid (∀ d os, Calls Try.prog 17 #[.agg #[.int .i64 D0, .slice a20 n20 c20]] (Sort.grow (redrawn Y d) os) fun e w'' => e = .returned (.bool b2) ∧ ∃ p : Regrown, w'' = Sort.grow (redrawn Y p.d) p.os) := Lib.hid (fun d os => Calls.regrown_of (by
        have hz := below_regrown Y d os
        obtain ⟨_, _, _, _, _, _, _, _, _, _, _, _, _, _, _, _, _, _, _, _, _, _, _, _, _, gs0, gs1, gs2, gs3, g20, g21, g22, g23⟩ := HS.out _ hz
        have CC := plain_m (g20.mono (by omega))
        rw [E2.out] at CC
        exact CC))
      have QE5 : Hid (∀ d os, Calls Try.prog 18 #[.agg #[.int .i64 D0, .slice a20 n20 c20]] (Sort.grow (redrawn Y d) os) fun e w'' => e = .returned (.bool b2) ∧ ∃ p : Regrown, w'' = Sort.grow (redrawn Y p.d) p.os) := Lib.hid (fun d os => Calls.regrown_of (by
        have hz := below_regrown Y d os
        obtain ⟨_, _, _, _, _, _, _, _, _, _, _, _, _, _, _, _, _, _, _, _, _, _, _, _, _, gs0, gs1, gs2, gs3, g20, g21, g22, g23⟩ := HS.out _ hz
        have CC := rplain_m (g20.mono (by omega))
        rw [E2.out] at CC
        exact CC))
      obtain ⟨b3, E3⟩ : ∃ b, Hid (cr D0 P0 D1 P1 D2 P2 D3 P3 = b) := ⟨_, Lib.hid rfl⟩
      have QE6 : Hid (∀ d os, Calls Try.prog 19 #[.agg #[.int .i64 D0, .slice a20 n20 c20, .int .i64 D1, .slice a21 n21 c21], .agg #[.int .i64 D2, .slice a22 n22 c22], .agg #[.int .i64 D3, .slice a23 n23 c23]] (Sort.grow (redrawn Y d) os) fun e w'' => e = .returned (.bool b3) ∧ ∃ p : Regrown, w'' = Sort.grow (redrawn Y p.d) p.os) := Lib.hid (fun d os => Calls.regrown_of (by
        have hz := below_regrown Y d os
        obtain ⟨_, _, _, _, _, _, _, _, _, _, _, _, _, _, _, _, _, _, _, _, _, _, _, _, _, gs0, gs1, gs2, gs3, g20, g21, g22, g23⟩ := HS.out _ hz
        have CC := create_m (g20.mono (by omega)) (g21.mono (by omega)) (g22.mono (by omega)) (g23.mono (by omega))
        rw [E3.out] at CC
        exact CC))
      have QE7 : Hid (∀ d os, Calls Try.prog 20 #[.agg #[.int .i64 D0, .slice a20 n20 c20, .int .i64 D1, .slice a21 n21 c21], .agg #[.int .i64 D2, .slice a22 n22 c22], .agg #[.int .i64 D3, .slice a23 n23 c23]] (Sort.grow (redrawn Y d) os) fun e w'' => e = .returned (.bool b3) ∧ ∃ p : Regrown, w'' = Sort.grow (redrawn Y p.d) p.os) := Lib.hid (fun d os => Calls.regrown_of (by
        have hz := below_regrown Y d os
        obtain ⟨_, _, _, _, _, _, _, _, _, _, _, _, _, _, _, _, _, _, _, _, _, _, _, _, _, gs0, gs1, gs2, gs3, g20, g21, g22, g23⟩ := HS.out _ hz
        have CC := rcreate_m (g20.mono (by omega)) (g21.mono (by omega)) (g22.mono (by omega)) (g23.mono (by omega))
        rw [E3.out] at CC
        exact CC))
      obtain ⟨b4, E4⟩ : ∃ b, Hid (sf D0 P0 D1 P1 D2 P2 = b) := ⟨_, Lib.hid rfl⟩
      have QE8 : Hid (∀ d os, Calls Try.prog 21 #[.agg #[.int .i64 D0, .slice a20 n20 c20, .int .i64 D1, .slice a21 n21 c21], .agg #[.int .i64 D2, .slice a22 n22 c22]] (Sort.grow (redrawn Y d) os) fun e w'' => e = .returned (.bool b4) ∧ ∃ p : Regrown, w'' = Sort.grow (redrawn Y p.d) p.os) := Lib.hid (fun d os => Calls.regrown_of (by
        have hz := below_regrown Y d os
        obtain ⟨_, _, _, _, _, _, _, _, _, _, _, _, _, _, _, _, _, _, _, _, _, _, _, _, _, gs0, gs1, gs2, gs3, g20, g21, g22, g23⟩ := HS.out _ hz
        have CC := self_m (g20.mono (by omega)) (g21.mono (by omega)) (g22.mono (by omega))
        rw [E4.out] at CC
        exact CC))
      have QE9 : Hid (∀ d os, Calls Try.prog 22 #[.agg #[.int .i64 D0, .slice a20 n20 c20, .int .i64 D1, .slice a21 n21 c21], .agg #[.int .i64 D2, .slice a22 n22 c22]] (Sort.grow (redrawn Y d) os) fun e w'' => e = .returned (.bool b4) ∧ ∃ p : Regrown, w'' = Sort.grow (redrawn Y p.d) p.os) := Lib.hid (fun d os => Calls.regrown_of (by
        have hz := below_regrown Y d os
        obtain ⟨_, _, _, _, _, _, _, _, _, _, _, _, _, _, _, _, _, _, _, _, _, _, _, _, _, gs0, gs1, gs2, gs3, g20, g21, g22, g23⟩ := HS.out _ hz
        have CC := rself_m (g20.mono (by omega)) (g21.mono (by omega)) (g22.mono (by omega))
        rw [E4.out] at CC
        exact CC))
      obtain ⟨b5, E5⟩ : ∃ b, Hid (cl D0 P0 D1 P1 D2 P2 = b) := ⟨_, Lib.hid rfl⟩
      have QE10 : Hid (∀ d os, Calls Try.prog 23 #[.agg #[.int .i64 D0, .slice a20 n20 c20, .int .i64 D1, .slice a21 n21 c21], .agg #[.int .i64 D2, .slice a22 n22 c22]] (Sort.grow (redrawn Y d) os) fun e w'' => e = .returned (.bool b5) ∧ ∃ p : Regrown, w'' = Sort.grow (redrawn Y p.d) p.os) := Lib.hid (fun d os => Calls.regrown_of (by
        have hz := below_regrown Y d os
        obtain ⟨_, _, _, _, _, _, _, _, _, _, _, _, _, _, _, _, _, _, _, _, _, _, _, _, _, gs0, gs1, gs2, gs3, g20, g21, g22, g23⟩ := HS.out _ hz
        have CC := clear_m (g20.mono (by omega)) (g21.mono (by omega)) (g22.mono (by omega))
        rw [E5.out] at CC
        exact CC))
      have QE11 : Hid (∀ d os, Calls Try.prog 24 #[.agg #[.int .i64 D0, .slice a20 n20 c20, .int .i64 D1, .slice a21 n21 c21], .agg #[.int .i64 D2, .slice a22 n22 c22]] (Sort.grow (redrawn Y d) os) fun e w'' => e = .returned (.bool b5) ∧ ∃ p : Regrown, w'' = Sort.grow (redrawn Y p.d) p.os) := Lib.hid (fun d os => Calls.regrown_of (by
        have hz := below_regrown Y d os
        obtain ⟨_, _, _, _, _, _, _, _, _, _, _, _, _, _, _, _, _, _, _, _, _, _, _, _, _, gs0, gs1, gs2, gs3, g20, g21, g22, g23⟩ := HS.out _ hz
        have CC := rclear_m (g20.mono (by omega)) (g21.mono (by omega)) (g22.mono (by omega))
        rw [E5.out] at CC
        exact CC))
      have QE12 : Hid (∀ d os, Calls Try.prog 25 #[.agg #[.int .i64 D0, .slice a20 n20 c20], .agg #[.int .i64 D1, .slice a21 n21 c21]] (Sort.grow (redrawn Y d) os) fun e w'' => e = .returned (.bool b0) ∧ ∃ p : Regrown, w'' = Sort.grow (redrawn Y p.d) p.os) := Lib.hid (fun d os => Calls.regrown_of (by
        have hz := below_regrown Y d os
        obtain ⟨_, _, _, _, _, _, _, _, _, _, _, _, _, _, _, _, _, _, _, _, _, _, _, _, _, gs0, gs1, gs2, gs3, g20, g21, g22, g23⟩ := HS.out _ hz
        have CC := sees_m (g20.mono (by omega)) (g21.mono (by omega))
        rw [E0.out] at CC
        exact CC))
      have QE13 : Hid (∀ d os, Calls Try.prog 26 #[.agg #[.int .i64 D0, .slice a20 n20 c20], .agg #[.int .i64 D1, .slice a21 n21 c21]] (Sort.grow (redrawn Y d) os) fun e w'' => e = .returned (.bool b0) ∧ ∃ p : Regrown, w'' = Sort.grow (redrawn Y p.d) p.os) := Lib.hid (fun d os => Calls.regrown_of (by
        have hz := below_regrown Y d os
        obtain ⟨_, _, _, _, _, _, _, _, _, _, _, _, _, _, _, _, _, _, _, _, _, _, _, _, _, gs0, gs1, gs2, gs3, g20, g21, g22, g23⟩ := HS.out _ hz
        have CC := rsees_m (g20.mono (by omega)) (g21.mono (by omega))
        rw [E0.out] at CC
        exact CC))
      obtain ⟨b6, E6⟩ : ∃ b, Hid (tr D0 P0 P1 = b) := ⟨_, Lib.hid rfl⟩
      have QE14 : Hid (∀ d os, Calls Try.prog 27 #[.agg #[.int .i64 D0, .slice a20 n20 c20], .agg #[.int .i64 D1, .slice a21 n21 c21]] (Sort.grow (redrawn Y d) os) fun e w'' => e = .returned (.bool b6) ∧ ∃ p : Regrown, w'' = Sort.grow (redrawn Y p.d) p.os) := Lib.hid (fun d os => Calls.regrown_of (by
        have hz := below_regrown Y d os
        obtain ⟨_, _, _, _, _, _, _, _, _, _, _, _, _, _, _, _, _, _, _, _, _, _, _, _, _, gs0, gs1, gs2, gs3, g20, g21, g22, g23⟩ := HS.out _ hz
        have CC := trusted_m (g20.mono (by omega)) (g21.mono (by omega))
        rw [E6.out] at CC
        exact CC))
      have QE15 : Hid (∀ d os, Calls Try.prog 28 #[.agg #[.int .i64 D0, .slice a20 n20 c20], .agg #[.int .i64 D1, .slice a21 n21 c21]] (Sort.grow (redrawn Y d) os) fun e w'' => e = .returned (.bool b6) ∧ ∃ p : Regrown, w'' = Sort.grow (redrawn Y p.d) p.os) := Lib.hid (fun d os => Calls.regrown_of (by
        have hz := below_regrown Y d os
        obtain ⟨_, _, _, _, _, _, _, _, _, _, _, _, _, _, _, _, _, _, _, _, _, _, _, _, _, gs0, gs1, gs2, gs3, g20, g21, g22, g23⟩ := HS.out _ hz
        have CC := rtrusted_m (g20.mono (by omega)) (g21.mono (by omega))
        rw [E6.out] at CC
        exact CC))
      have k0 := cell_regrown f0
      have k1 := cell_regrown f1
      have k2 := cell_regrown f2
      have k3 := cell_regrown f3
      have k4 := cell_regrown f4
      have k5 := cell_regrown f5
      have k6 := cell_regrown f6
      have k7 := cell_regrown f7
      have k8 := cell_regrown f8
      have k9 := cell_regrown f9
      have k10 := cell_regrown f10
      have k11 := cell_regrown f11
      have k12 := cell_regrown f12
      have k13 := cell_regrown f13
      have k14 := cell_regrown f14
      have k15 := cell_regrown f15
      have k16 := cell_regrown f16
      have k17 := cell_regrown f17
      have k18 := cell_regrown f18
      have k19 := cell_regrown f19
      have k20 := cell_regrown f20
      have k21 := cell_regrown f21
      have k22 := cell_regrown f22
      have k23 := cell_regrown f23
      clear f0 f1 f2 f3 f4 f5 f6 f7 f8 f9 f10 f11 f12 f13 f14 f15 f16 f17 f18 f19 f20 f21 f22 f23 hbw
      clear hHeld
      refine wp_region_quiet_below (by kernel_rfl) (by kernel_rfl) ?_
      repeat (quiet_step (first | with_reducible exact QE0.out _ _ | with_reducible exact QE1.out _ _ | with_reducible exact QE2.out _ _ | with_reducible exact QE3.out _ _ | with_reducible exact QE4.out _ _ | with_reducible exact QE5.out _ _ | with_reducible exact QE6.out _ _ | with_reducible exact QE7.out _ _ | with_reducible exact QE8.out _ _ | with_reducible exact QE9.out _ _ | with_reducible exact QE10.out _ _ | with_reducible exact QE11.out _ _ | with_reducible exact QE12.out _ _ | with_reducible exact QE13.out _ _ | with_reducible exact QE14.out _ _ | with_reducible exact QE15.out _ _))
      refine wpQuiet_nil ?_
      intro _ hw'
      obtain ⟨⟨dq, osq⟩, hw''⟩ := hw'
      subst hw''
      have hHeld := below_regrown Y dq osq
      clear k0 k1 k2 k3 k4 k5 k6 k7 k8 k9 k10 k11 k12 k13 k14 k15 k16 k17 k18 k19 k20 k21 k22 k23 QE0 QE1 QE2 QE3 QE4 QE5 QE6 QE7 QE8 QE9 QE10 QE11 QE12 QE13 QE14 QE15
      have HE := Lib.hid (HS.out _ hHeld).1
      clear hHeld
      go_wp2_with fail
      go_ret
      exact ⟨rfl, HE.out⟩
end Go.Proofs.Ytmbdglhihakkjaa
