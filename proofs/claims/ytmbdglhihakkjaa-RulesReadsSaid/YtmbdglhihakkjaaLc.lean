/- RulesReads. -/
import Derived.Test.YtmbdglhihakkjaaQn
import Derived.Test.YtmbdglhihakkjaaQi
set_option linter.unusedVariables false
set_option linter.unusedSimpArgs false
namespace Go.Proofs.Ytmbdglhihakkjaa
open Go.RowKit
set_option linter.unusedVariables false
set_option linter.unusedSimpArgs false
set_option maxHeartbeats 40000000 in
set_option maxRecDepth 100000 in
theorem reads_all {w : World} (S0 : Int) {sa0 : Option Addr} {sn0 sc0 : Nat} {ls0 : List Int} (S1 : Int) {sa1 : Option Addr} {sn1 sc1 : Nat} {ls1 : List Int} (S2 : Int) {sa2 : Option Addr} {sn2 sc2 : Nat} {ls2 : List Int} (S3 : Int) {sa3 : Option Addr} {sn3 sc3 : Nat} {ls3 : List Int}   (h0 : IntsL w (.slice sa0 sn0 sc0) ls0) (h1 : IntsL w (.slice sa1 sn1 sc1) ls1) (h2 : IntsL w (.slice sa2 sn2 sc2) ls2) (h3 : IntsL w (.slice sa3 sn3 sc3) ls3) : Calls Try.prog 6 #[.agg #[.int .i64 S0, .slice sa0 sn0 sc0, .int .i64 S1, .slice sa1 sn1 sc1, .int .i64 S2, .slice sa2 sn2 sc2, .int .i64 S3, .slice sa3 sn3 sc3]] w (BB w true) := by
  obtain ⟨D0, eD0⟩ : ∃ D, Lab.seedD S0 = D := ⟨_, rfl⟩
  obtain ⟨P0, eP0⟩ : ∃ P, Lab.seedP S0 ls0 = P := ⟨_, rfl⟩
  have hfs0 := Lab.fine_seed S0 ls0
  rw [eD0, eP0] at hfs0
  have FS0 := Lib.hid hfs0
  have CS0 := Lib.hid (fun (W : World) (h : IntsL W (.slice sa0 sn0 sc0) ls0) => (by have := seed_m S0 sa0 sn0 sc0 ls0 W h; rwa [eD0, eP0] at this : Calls Try.prog 12 #[.agg #[.int .i64 S0, .slice sa0 sn0 sc0]] W (LM 12 W D0 P0)))
  clear hfs0 eD0 eP0
  obtain ⟨D1, eD1⟩ : ∃ D, Lab.seedD S1 = D := ⟨_, rfl⟩
  obtain ⟨P1, eP1⟩ : ∃ P, Lab.seedP S1 ls1 = P := ⟨_, rfl⟩
  have hfs1 := Lab.fine_seed S1 ls1
  rw [eD1, eP1] at hfs1
  have FS1 := Lib.hid hfs1
  have CS1 := Lib.hid (fun (W : World) (h : IntsL W (.slice sa1 sn1 sc1) ls1) => (by have := seed_m S1 sa1 sn1 sc1 ls1 W h; rwa [eD1, eP1] at this : Calls Try.prog 12 #[.agg #[.int .i64 S1, .slice sa1 sn1 sc1]] W (LM 12 W D1 P1)))
  clear hfs1 eD1 eP1
  obtain ⟨D2, eD2⟩ : ∃ D, Lab.seedD S2 = D := ⟨_, rfl⟩
  obtain ⟨P2, eP2⟩ : ∃ P, Lab.seedP S2 ls2 = P := ⟨_, rfl⟩
  have hfs2 := Lab.fine_seed S2 ls2
  rw [eD2, eP2] at hfs2
  have FS2 := Lib.hid hfs2
  have CS2 := Lib.hid (fun (W : World) (h : IntsL W (.slice sa2 sn2 sc2) ls2) => (by have := seed_m S2 sa2 sn2 sc2 ls2 W h; rwa [eD2, eP2] at this : Calls Try.prog 12 #[.agg #[.int .i64 S2, .slice sa2 sn2 sc2]] W (LM 12 W D2 P2)))
  clear hfs2 eD2 eP2
  obtain ⟨D3, eD3⟩ : ∃ D, Lab.seedD S3 = D := ⟨_, rfl⟩
  obtain ⟨P3, eP3⟩ : ∃ P, Lab.seedP S3 ls3 = P := ⟨_, rfl⟩
  have hfs3 := Lab.fine_seed S3 ls3
  rw [eD3, eP3] at hfs3
  have FS3 := Lib.hid hfs3
  have CS3 := Lib.hid (fun (W : World) (h : IntsL W (.slice sa3 sn3 sc3) ls3) => (by have := seed_m S3 sa3 sn3 sc3 ls3 W h; rwa [eD3, eP3] at this : Calls Try.prog 12 #[.agg #[.int .i64 S3, .slice sa3 sn3 sc3]] W (LM 12 W D3 P3)))
  clear hfs3 eD3 eP3
  obtain ⟨W0, e0⟩ : ∃ W0, W0 = (w.alloc (Obj.cells #[.int .i64 S0, .slice sa0 sn0 sc0, .int .i64 S1, .slice sa1 sn1 sc1, .int .i64 S2, .slice sa2 sn2 sc2, .int .i64 S3, .slice sa3 sn3 sc3] 25)) := ⟨_, rfl⟩
  have hB : Below w.heap.size w W0 := by rw [e0]; exact ((Below.refl w.heap.size w).alloc (by omega) _)
  have hk0 : W0.heap[w.heap.size]? = some (Obj.cells #[.int .i64 S0, .slice sa0 sn0 sc0, .int .i64 S1, .slice sa1 sn1 sc1, .int .i64 S2, .slice sa2 sn2 sc2, .int .i64 S3, .slice sa3 sn3 sc3] 25) := by
    rw [e0]
    have := heap_alloc_new w (Obj.cells #[.int .i64 S0, .slice sa0 sn0 sc0, .int .i64 S1, .slice sa1 sn1 sc1, .int .i64 S2, .slice sa2 sn2 sc2, .int .i64 S3, .slice sa3 sn3 sc3] 25); simpa using this
  have HS := Lib.hid (fun (wx : World) (hx : Below W0.heap.size W0 wx) => (by
      have hw : Below w.heap.size w wx := hB.trans (hx.mono hB.size)
      have r0 := block_below hk0 hx
      exact ⟨hw, by rw [cell_of_row _ _ 0 _ 25 (0, 0) r0]; rfl, by rw [cell_of_row _ _ 1 _ 25 (0, 0) r0]; rfl, by rw [cell_of_row _ _ 2 _ 25 (0, 0) r0]; rfl, by rw [cell_of_row _ _ 3 _ 25 (0, 0) r0]; rfl, by rw [cell_of_row _ _ 4 _ 25 (0, 0) r0]; rfl, by rw [cell_of_row _ _ 5 _ 25 (0, 0) r0]; rfl, by rw [cell_of_row _ _ 6 _ 25 (0, 0) r0]; rfl, by rw [cell_of_row _ _ 7 _ 25 (0, 0) r0]; rfl, h0.below hw, h1.below hw, h2.below hw, h3.below hw⟩ : Below w.heap.size w wx ∧ wx.cell? ⟨w.heap.size, 0, none⟩ = some (.int .i64 S0) ∧ wx.cell? ⟨w.heap.size, 1, none⟩ = some (.slice sa0 sn0 sc0) ∧ wx.cell? ⟨w.heap.size, 2, none⟩ = some (.int .i64 S1) ∧ wx.cell? ⟨w.heap.size, 3, none⟩ = some (.slice sa1 sn1 sc1) ∧ wx.cell? ⟨w.heap.size, 4, none⟩ = some (.int .i64 S2) ∧ wx.cell? ⟨w.heap.size, 5, none⟩ = some (.slice sa2 sn2 sc2) ∧ wx.cell? ⟨w.heap.size, 6, none⟩ = some (.int .i64 S3) ∧ wx.cell? ⟨w.heap.size, 7, none⟩ = some (.slice sa3 sn3 sc3) ∧ IntsL wx (.slice sa0 sn0 sc0) ls0 ∧ IntsL wx (.slice sa1 sn1 sc1) ls1 ∧ IntsL wx (.slice sa2 sn2 sc2) ls2 ∧ IntsL wx (.slice sa3 sn3 sc3) ls3))
  clear h0 h1 h2 h3 hB hk0
  go_enter Try.func6, Try.ntmps6
  go_wp2_with fail
  rw [← e0]
  clear e0
  refine (fit_m _).mono ?_
  rintro e w1 ⟨rfl, hb1⟩
  have HB1 := Lib.hid hb1
  have HS1 := Lib.hid (fun (wx : World) (hx : Below w1.heap.size w1 wx) => HS.out wx (HB1.out.trans (hx.mono HB1.out.size)))
  clear HS
  have HS := HS1
  clear HS1 HB1 hb1
  go_upto_region 3 with fail
  have KS0 := Lib.hid (fun (W : World) (h : Below w1.heap.size w1 W) => (by obtain ⟨_, _, _, _, _, _, _, _, _, hi, _, _, _⟩ := HS.out W h; exact CS0.out W hi : Calls Try.prog 12 #[.agg #[.int .i64 S0, .slice sa0 sn0 sc0]] W (LM 12 W D0 P0)))
  have KS1 := Lib.hid (fun (W : World) (h : Below w1.heap.size w1 W) => (by obtain ⟨_, _, _, _, _, _, _, _, _, _, hi, _, _⟩ := HS.out W h; exact CS1.out W hi : Calls Try.prog 12 #[.agg #[.int .i64 S1, .slice sa1 sn1 sc1]] W (LM 12 W D1 P1)))
  have KS2 := Lib.hid (fun (W : World) (h : Below w1.heap.size w1 W) => (by obtain ⟨_, _, _, _, _, _, _, _, _, _, _, hi, _⟩ := HS.out W h; exact CS2.out W hi : Calls Try.prog 12 #[.agg #[.int .i64 S2, .slice sa2 sn2 sc2]] W (LM 12 W D2 P2)))
  have KS3 := Lib.hid (fun (W : World) (h : Below w1.heap.size w1 W) => (by obtain ⟨_, _, _, _, _, _, _, _, _, _, _, _, hi⟩ := HS.out W h; exact CS3.out W hi : Calls Try.prog 12 #[.agg #[.int .i64 S3, .slice sa3 sn3 sc3]] W (LM 12 W D3 P3)))
  go_cut [3, 4, 5, 10, 11, 12, 13, 14, 15, 16, 17, 18] (fun s3 s4 s5 s10 s11 s12 s13 s14 s15 s16 s17 s18 wx => ∃ V3 a20 n20 c20 V4 a21 n21 c21 V5 a22 n22 c22, s3 = .pointer (some ⟨V3, 0, none⟩) ∧ s4 = .pointer (some ⟨V4, 0, none⟩) ∧ s5 = .pointer (some ⟨V5, 0, none⟩) ∧ Hid (VL wx V3 D0 a20 n20 c20 P0 ∧ VL wx V4 D1 a21 n21 c21 P1 ∧ VL wx V5 D2 a22 n22 c22 P2 ∧ Below w1.heap.size w1 wx))
  case first =>
    refine wp_region_any (by kernel_rfl) ?_
    refine wpAny_inv (I := fun L a wz => ∃ y3 y4 y5 y10 y11 y12 y13 y14 y15 y16 y17 y18 : Value, a = { tmps := #[.agg #[.int .i64 S0, .slice sa0 sn0 sc0, .int .i64 S1, .slice sa1 sn1 sc1, .int .i64 S2, .slice sa2 sn2 sc2, .int .i64 S3, .slice sa3 sn3 sc3], .pointer (some ⟨w.heap.size, 0, none⟩), .bool false, y3, y4, y5, undef, undef, .bool true, .bool false, y10, y11, y12, y13, y14, y15, y16, y17, y18, undef, undef, undef, undef, undef, undef, undef, undef, undef, undef, undef, undef, undef, undef, undef, undef, undef, undef, undef, undef, undef, undef, undef, undef, undef, undef, undef, undef, undef, undef, undef, undef, undef, undef, undef, undef, undef, undef], defers := [] } ∧ Hid (L.size = 15 ∧ Below w1.heap.size w1 wz ∧ (L[0]? = some true → y10 = .pointer (some ⟨w.heap.size, 0, none⟩)) ∧ (L[1]? = some true → y11 = .agg #[.int .i64 S0, .slice sa0 sn0 sc0]) ∧ (L[2]? = some true → CV w1 wz D0 P0 y12) ∧ (L[3]? = some true → y13 = .pointer (some ⟨w.heap.size, 2, none⟩)) ∧ (L[4]? = some true → y14 = .agg #[.int .i64 S1, .slice sa1 sn1 sc1]) ∧ (L[5]? = some true → CV w1 wz D1 P1 y15) ∧ (L[6]? = some true → y16 = .pointer (some ⟨w.heap.size, 4, none⟩)) ∧ (L[7]? = some true → y17 = .agg #[.int .i64 S2, .slice sa2 sn2 sc2]) ∧ (L[8]? = some true → CV w1 wz D2 P2 y18) ∧ (L[9]? = some true → N2 w1 wz 29 y3) ∧ (L[10]? = some true → N2 w1 wz 29 y4) ∧ (L[11]? = some true → N2 w1 wz 29 y5) ∧ (L[9]? = some true → L[10]? = some true → y3 ≠ y4) ∧ (L[9]? = some true → L[11]? = some true → y3 ≠ y5) ∧ (L[10]? = some true → L[11]? = some true → y4 ≠ y5) ∧ (L[12]? = some true → HV wz 29 y3 y12) ∧ (L[13]? = some true → HV wz 29 y4 y15) ∧ (L[14]? = some true → HV wz 29 y5 y18) ∧ (L[12]? = some true → (L[9]? = some true ∧ L[2]? = some true)) ∧ (L[13]? = some true → (L[10]? = some true ∧ L[5]? = some true)) ∧ (L[14]? = some true → (L[11]? = some true ∧ L[8]? = some true)))) ?step1 ?fin1 _ _ _ _ ⟨_, _, _, _, _, _, _, _, _, _, _, _, rfl, Lib.hid ⟨by rfl, Below.drew (Below.refl _ _), gone (by rfl), gone (by rfl), gone (by rfl), gone (by rfl), gone (by rfl), gone (by rfl), gone (by rfl), gone (by rfl), gone (by rfl), gone (by rfl), gone (by rfl), gone (by rfl), gone (by rfl), gone (by rfl), gone (by rfl), gone (by rfl), gone (by rfl), gone (by rfl), gone (by rfl), gone (by rfl), gone (by rfl)⟩⟩ (by decide)
    case step1 =>
      intro L a wz i o hI ho hL hdeps K hK
      obtain ⟨y3, y4, y5, y10, y11, y12, y13, y14, y15, y16, y17, y18, rfl, hinv⟩ := hI
      have hi : i < 15 := by have := (Array.getElem?_eq_some_iff.1 ho).1; exact this
      obtain ⟨hN, hbel, z0, z1, z2, z3, z4, z5, z6, z7, z8, z9, z10, z11, z12, z13, z14, z15, z16, z17, z18, z19, z20⟩ := hinv.out
      obtain rfl | rfl | rfl | rfl | rfl | rfl | rfl | rfl | rfl | rfl | rfl | rfl | rfl | rfl | rfl : i = 0 ∨ i = 1 ∨ i = 2 ∨ i = 3 ∨ i = 4 ∨ i = 5 ∨ i = 6 ∨ i = 7 ∨ i = 8 ∨ i = 9 ∨ i = 10 ∨ i = 11 ∨ i = 12 ∨ i = 13 ∨ i = 14 := by omega
      · as_aux_lemma =>
        obtain rfl := Option.some.inj ho
        have Z := hinv
        clear hinv ho hbel hN hdeps z0 z1 z2 z3 z4 z5 z6 z7 z8 z9 z10 z11 z12 z13 z14 z15 z16 z17 z18 z19 z20
        go_simp
        obtain ⟨hN, hbel, z0, z1, z2, z3, z4, z5, z6, z7, z8, z9, z10, z11, z12, z13, z14, z15, z16, z17, z18, z19, z20⟩ := Z.out
        exact hK _ _ ⟨_, _, _, _, _, _, _, _, _, _, _, _, rfl, Lib.hid ⟨by simpa using hN, hbel, fun _ => rfl, fun g0 => (z1 ((set_other (by decide)).symm.trans g0)), fun g0 => (z2 ((set_other (by decide)).symm.trans g0)), fun g0 => (z3 ((set_other (by decide)).symm.trans g0)), fun g0 => (z4 ((set_other (by decide)).symm.trans g0)), fun g0 => (z5 ((set_other (by decide)).symm.trans g0)), fun g0 => (z6 ((set_other (by decide)).symm.trans g0)), fun g0 => (z7 ((set_other (by decide)).symm.trans g0)), fun g0 => (z8 ((set_other (by decide)).symm.trans g0)), fun g0 => (z9 ((set_other (by decide)).symm.trans g0)), fun g0 => (z10 ((set_other (by decide)).symm.trans g0)), fun g0 => (z11 ((set_other (by decide)).symm.trans g0)), fun g0 g1 => (z12 ((set_other (by decide)).symm.trans g0) ((set_other (by decide)).symm.trans g1)), fun g0 g1 => (z13 ((set_other (by decide)).symm.trans g0) ((set_other (by decide)).symm.trans g1)), fun g0 g1 => (z14 ((set_other (by decide)).symm.trans g0) ((set_other (by decide)).symm.trans g1)), fun g0 => (z15 ((set_other (by decide)).symm.trans g0)), fun g0 => (z16 ((set_other (by decide)).symm.trans g0)), fun g0 => (z17 ((set_other (by decide)).symm.trans g0)), fun g0 => ⟨set_keep (z18 ((set_other (by decide)).symm.trans g0)).1, set_keep (z18 ((set_other (by decide)).symm.trans g0)).2⟩, fun g0 => ⟨set_keep (z19 ((set_other (by decide)).symm.trans g0)).1, set_keep (z19 ((set_other (by decide)).symm.trans g0)).2⟩, fun g0 => ⟨set_keep (z20 ((set_other (by decide)).symm.trans g0)).1, set_keep (z20 ((set_other (by decide)).symm.trans g0)).2⟩⟩⟩
      · as_aux_lemma =>
        obtain rfl := Option.some.inj ho
        have e0 := z0 (dep (by simp [Region.binds] at hdeps ⊢; simp [hdeps]))
        subst e0
        obtain ⟨_, b0, b1, _, _, _, _, _, _, _, _, _, _⟩ := HS.out wz hbel
        have Z := hinv
        clear hinv ho hbel hN hdeps z0 z1 z2 z3 z4 z5 z6 z7 z8 z9 z10 z11 z12 z13 z14 z15 z16 z17 z18 z19 z20
        go_simp
        obtain ⟨hN, hbel, z0, z1, z2, z3, z4, z5, z6, z7, z8, z9, z10, z11, z12, z13, z14, z15, z16, z17, z18, z19, z20⟩ := Z.out
        exact hK _ _ ⟨_, _, _, _, _, _, _, _, _, _, _, _, rfl, Lib.hid ⟨by simpa using hN, hbel, fun g0 => (z0 ((set_other (by decide)).symm.trans g0)), fun _ => rfl, fun g0 => (z2 ((set_other (by decide)).symm.trans g0)), fun g0 => (z3 ((set_other (by decide)).symm.trans g0)), fun g0 => (z4 ((set_other (by decide)).symm.trans g0)), fun g0 => (z5 ((set_other (by decide)).symm.trans g0)), fun g0 => (z6 ((set_other (by decide)).symm.trans g0)), fun g0 => (z7 ((set_other (by decide)).symm.trans g0)), fun g0 => (z8 ((set_other (by decide)).symm.trans g0)), fun g0 => (z9 ((set_other (by decide)).symm.trans g0)), fun g0 => (z10 ((set_other (by decide)).symm.trans g0)), fun g0 => (z11 ((set_other (by decide)).symm.trans g0)), fun g0 g1 => (z12 ((set_other (by decide)).symm.trans g0) ((set_other (by decide)).symm.trans g1)), fun g0 g1 => (z13 ((set_other (by decide)).symm.trans g0) ((set_other (by decide)).symm.trans g1)), fun g0 g1 => (z14 ((set_other (by decide)).symm.trans g0) ((set_other (by decide)).symm.trans g1)), fun g0 => (z15 ((set_other (by decide)).symm.trans g0)), fun g0 => (z16 ((set_other (by decide)).symm.trans g0)), fun g0 => (z17 ((set_other (by decide)).symm.trans g0)), fun g0 => ⟨set_keep (z18 ((set_other (by decide)).symm.trans g0)).1, set_keep (z18 ((set_other (by decide)).symm.trans g0)).2⟩, fun g0 => ⟨set_keep (z19 ((set_other (by decide)).symm.trans g0)).1, set_keep (z19 ((set_other (by decide)).symm.trans g0)).2⟩, fun g0 => ⟨set_keep (z20 ((set_other (by decide)).symm.trans g0)).1, set_keep (z20 ((set_other (by decide)).symm.trans g0)).2⟩⟩⟩
      · as_aux_lemma =>
        obtain rfl := Option.some.inj ho
        have e0 := z1 (dep (by simp [Region.binds] at hdeps ⊢; simp [hdeps]))
        subst e0
        have CC := Lib.hid (KS0.out wz hbel)
        have Z := hinv
        clear hinv ho hbel hN hdeps z0 z1 z2 z3 z4 z5 z6 z7 z8 z9 z10 z11 z12 z13 z14 z15 z16 z17 z18 z19 z20
        go_simp
        refine CC.out.mono ?_
        rintro e wq ⟨a, n, c, rfl, how, hb'⟩
        obtain ⟨hN, hbel, z0, z1, z2, z3, z4, z5, z6, z7, z8, z9, z10, z11, z12, z13, z14, z15, z16, z17, z18, z19, z20⟩ := Z.out
        exact hK _ _ ⟨_, _, _, _, _, _, _, _, _, _, _, _, rfl, Lib.hid ⟨by simpa using hN, hbel.trans (hb'.mono hbel.size), fun g0 => (z0 ((set_other (by decide)).symm.trans g0)), fun g0 => (z1 ((set_other (by decide)).symm.trans g0)), fun _ => ⟨a, n, c, rfl, how.base hbel.size⟩, fun g0 => (z3 ((set_other (by decide)).symm.trans g0)), fun g0 => (z4 ((set_other (by decide)).symm.trans g0)), fun g0 => (z5 ((set_other (by decide)).symm.trans g0)).below hb', fun g0 => (z6 ((set_other (by decide)).symm.trans g0)), fun g0 => (z7 ((set_other (by decide)).symm.trans g0)), fun g0 => (z8 ((set_other (by decide)).symm.trans g0)).below hb', fun g0 => (z9 ((set_other (by decide)).symm.trans g0)).below hb', fun g0 => (z10 ((set_other (by decide)).symm.trans g0)).below hb', fun g0 => (z11 ((set_other (by decide)).symm.trans g0)).below hb', fun g0 g1 => (z12 ((set_other (by decide)).symm.trans g0) ((set_other (by decide)).symm.trans g1)), fun g0 g1 => (z13 ((set_other (by decide)).symm.trans g0) ((set_other (by decide)).symm.trans g1)), fun g0 g1 => (z14 ((set_other (by decide)).symm.trans g0) ((set_other (by decide)).symm.trans g1)), fun g0 => not_done hL (z18 (((set_other (by decide)).symm.trans g0))).2, fun g0 => (z16 ((set_other (by decide)).symm.trans g0)).below hb', fun g0 => (z17 ((set_other (by decide)).symm.trans g0)).below hb', fun g0 => not_done hL (z18 (((set_other (by decide)).symm.trans g0))).2, fun g0 => ⟨set_keep (z19 ((set_other (by decide)).symm.trans g0)).1, set_keep (z19 ((set_other (by decide)).symm.trans g0)).2⟩, fun g0 => ⟨set_keep (z20 ((set_other (by decide)).symm.trans g0)).1, set_keep (z20 ((set_other (by decide)).symm.trans g0)).2⟩⟩⟩
      · as_aux_lemma =>
        obtain rfl := Option.some.inj ho
        have Z := hinv
        clear hinv ho hbel hN hdeps z0 z1 z2 z3 z4 z5 z6 z7 z8 z9 z10 z11 z12 z13 z14 z15 z16 z17 z18 z19 z20
        go_simp
        obtain ⟨hN, hbel, z0, z1, z2, z3, z4, z5, z6, z7, z8, z9, z10, z11, z12, z13, z14, z15, z16, z17, z18, z19, z20⟩ := Z.out
        exact hK _ _ ⟨_, _, _, _, _, _, _, _, _, _, _, _, rfl, Lib.hid ⟨by simpa using hN, hbel, fun g0 => (z0 ((set_other (by decide)).symm.trans g0)), fun g0 => (z1 ((set_other (by decide)).symm.trans g0)), fun g0 => (z2 ((set_other (by decide)).symm.trans g0)), fun _ => rfl, fun g0 => (z4 ((set_other (by decide)).symm.trans g0)), fun g0 => (z5 ((set_other (by decide)).symm.trans g0)), fun g0 => (z6 ((set_other (by decide)).symm.trans g0)), fun g0 => (z7 ((set_other (by decide)).symm.trans g0)), fun g0 => (z8 ((set_other (by decide)).symm.trans g0)), fun g0 => (z9 ((set_other (by decide)).symm.trans g0)), fun g0 => (z10 ((set_other (by decide)).symm.trans g0)), fun g0 => (z11 ((set_other (by decide)).symm.trans g0)), fun g0 g1 => (z12 ((set_other (by decide)).symm.trans g0) ((set_other (by decide)).symm.trans g1)), fun g0 g1 => (z13 ((set_other (by decide)).symm.trans g0) ((set_other (by decide)).symm.trans g1)), fun g0 g1 => (z14 ((set_other (by decide)).symm.trans g0) ((set_other (by decide)).symm.trans g1)), fun g0 => (z15 ((set_other (by decide)).symm.trans g0)), fun g0 => (z16 ((set_other (by decide)).symm.trans g0)), fun g0 => (z17 ((set_other (by decide)).symm.trans g0)), fun g0 => ⟨set_keep (z18 ((set_other (by decide)).symm.trans g0)).1, set_keep (z18 ((set_other (by decide)).symm.trans g0)).2⟩, fun g0 => ⟨set_keep (z19 ((set_other (by decide)).symm.trans g0)).1, set_keep (z19 ((set_other (by decide)).symm.trans g0)).2⟩, fun g0 => ⟨set_keep (z20 ((set_other (by decide)).symm.trans g0)).1, set_keep (z20 ((set_other (by decide)).symm.trans g0)).2⟩⟩⟩
      · as_aux_lemma =>
        obtain rfl := Option.some.inj ho
        have e0 := z3 (dep (by simp [Region.binds] at hdeps ⊢; simp [hdeps]))
        subst e0
        obtain ⟨_, _, _, b0, b1, _, _, _, _, _, _, _, _⟩ := HS.out wz hbel
        have Z := hinv
        clear hinv ho hbel hN hdeps z0 z1 z2 z3 z4 z5 z6 z7 z8 z9 z10 z11 z12 z13 z14 z15 z16 z17 z18 z19 z20
        go_simp
        obtain ⟨hN, hbel, z0, z1, z2, z3, z4, z5, z6, z7, z8, z9, z10, z11, z12, z13, z14, z15, z16, z17, z18, z19, z20⟩ := Z.out
        exact hK _ _ ⟨_, _, _, _, _, _, _, _, _, _, _, _, rfl, Lib.hid ⟨by simpa using hN, hbel, fun g0 => (z0 ((set_other (by decide)).symm.trans g0)), fun g0 => (z1 ((set_other (by decide)).symm.trans g0)), fun g0 => (z2 ((set_other (by decide)).symm.trans g0)), fun g0 => (z3 ((set_other (by decide)).symm.trans g0)), fun _ => rfl, fun g0 => (z5 ((set_other (by decide)).symm.trans g0)), fun g0 => (z6 ((set_other (by decide)).symm.trans g0)), fun g0 => (z7 ((set_other (by decide)).symm.trans g0)), fun g0 => (z8 ((set_other (by decide)).symm.trans g0)), fun g0 => (z9 ((set_other (by decide)).symm.trans g0)), fun g0 => (z10 ((set_other (by decide)).symm.trans g0)), fun g0 => (z11 ((set_other (by decide)).symm.trans g0)), fun g0 g1 => (z12 ((set_other (by decide)).symm.trans g0) ((set_other (by decide)).symm.trans g1)), fun g0 g1 => (z13 ((set_other (by decide)).symm.trans g0) ((set_other (by decide)).symm.trans g1)), fun g0 g1 => (z14 ((set_other (by decide)).symm.trans g0) ((set_other (by decide)).symm.trans g1)), fun g0 => (z15 ((set_other (by decide)).symm.trans g0)), fun g0 => (z16 ((set_other (by decide)).symm.trans g0)), fun g0 => (z17 ((set_other (by decide)).symm.trans g0)), fun g0 => ⟨set_keep (z18 ((set_other (by decide)).symm.trans g0)).1, set_keep (z18 ((set_other (by decide)).symm.trans g0)).2⟩, fun g0 => ⟨set_keep (z19 ((set_other (by decide)).symm.trans g0)).1, set_keep (z19 ((set_other (by decide)).symm.trans g0)).2⟩, fun g0 => ⟨set_keep (z20 ((set_other (by decide)).symm.trans g0)).1, set_keep (z20 ((set_other (by decide)).symm.trans g0)).2⟩⟩⟩
      · as_aux_lemma =>
        obtain rfl := Option.some.inj ho
        have e0 := z4 (dep (by simp [Region.binds] at hdeps ⊢; simp [hdeps]))
        subst e0
        have CC := Lib.hid (KS1.out wz hbel)
        have Z := hinv
        clear hinv ho hbel hN hdeps z0 z1 z2 z3 z4 z5 z6 z7 z8 z9 z10 z11 z12 z13 z14 z15 z16 z17 z18 z19 z20
        go_simp
        refine CC.out.mono ?_
        rintro e wq ⟨a, n, c, rfl, how, hb'⟩
        obtain ⟨hN, hbel, z0, z1, z2, z3, z4, z5, z6, z7, z8, z9, z10, z11, z12, z13, z14, z15, z16, z17, z18, z19, z20⟩ := Z.out
        exact hK _ _ ⟨_, _, _, _, _, _, _, _, _, _, _, _, rfl, Lib.hid ⟨by simpa using hN, hbel.trans (hb'.mono hbel.size), fun g0 => (z0 ((set_other (by decide)).symm.trans g0)), fun g0 => (z1 ((set_other (by decide)).symm.trans g0)), fun g0 => (z2 ((set_other (by decide)).symm.trans g0)).below hb', fun g0 => (z3 ((set_other (by decide)).symm.trans g0)), fun g0 => (z4 ((set_other (by decide)).symm.trans g0)), fun _ => ⟨a, n, c, rfl, how.base hbel.size⟩, fun g0 => (z6 ((set_other (by decide)).symm.trans g0)), fun g0 => (z7 ((set_other (by decide)).symm.trans g0)), fun g0 => (z8 ((set_other (by decide)).symm.trans g0)).below hb', fun g0 => (z9 ((set_other (by decide)).symm.trans g0)).below hb', fun g0 => (z10 ((set_other (by decide)).symm.trans g0)).below hb', fun g0 => (z11 ((set_other (by decide)).symm.trans g0)).below hb', fun g0 g1 => (z12 ((set_other (by decide)).symm.trans g0) ((set_other (by decide)).symm.trans g1)), fun g0 g1 => (z13 ((set_other (by decide)).symm.trans g0) ((set_other (by decide)).symm.trans g1)), fun g0 g1 => (z14 ((set_other (by decide)).symm.trans g0) ((set_other (by decide)).symm.trans g1)), fun g0 => (z15 ((set_other (by decide)).symm.trans g0)).below hb', fun g0 => not_done hL (z19 (((set_other (by decide)).symm.trans g0))).2, fun g0 => (z17 ((set_other (by decide)).symm.trans g0)).below hb', fun g0 => ⟨set_keep (z18 ((set_other (by decide)).symm.trans g0)).1, set_keep (z18 ((set_other (by decide)).symm.trans g0)).2⟩, fun g0 => not_done hL (z19 (((set_other (by decide)).symm.trans g0))).2, fun g0 => ⟨set_keep (z20 ((set_other (by decide)).symm.trans g0)).1, set_keep (z20 ((set_other (by decide)).symm.trans g0)).2⟩⟩⟩
      · as_aux_lemma =>
        obtain rfl := Option.some.inj ho
        have Z := hinv
        clear hinv ho hbel hN hdeps z0 z1 z2 z3 z4 z5 z6 z7 z8 z9 z10 z11 z12 z13 z14 z15 z16 z17 z18 z19 z20
        go_simp
        obtain ⟨hN, hbel, z0, z1, z2, z3, z4, z5, z6, z7, z8, z9, z10, z11, z12, z13, z14, z15, z16, z17, z18, z19, z20⟩ := Z.out
        exact hK _ _ ⟨_, _, _, _, _, _, _, _, _, _, _, _, rfl, Lib.hid ⟨by simpa using hN, hbel, fun g0 => (z0 ((set_other (by decide)).symm.trans g0)), fun g0 => (z1 ((set_other (by decide)).symm.trans g0)), fun g0 => (z2 ((set_other (by decide)).symm.trans g0)), fun g0 => (z3 ((set_other (by decide)).symm.trans g0)), fun g0 => (z4 ((set_other (by decide)).symm.trans g0)), fun g0 => (z5 ((set_other (by decide)).symm.trans g0)), fun _ => rfl, fun g0 => (z7 ((set_other (by decide)).symm.trans g0)), fun g0 => (z8 ((set_other (by decide)).symm.trans g0)), fun g0 => (z9 ((set_other (by decide)).symm.trans g0)), fun g0 => (z10 ((set_other (by decide)).symm.trans g0)), fun g0 => (z11 ((set_other (by decide)).symm.trans g0)), fun g0 g1 => (z12 ((set_other (by decide)).symm.trans g0) ((set_other (by decide)).symm.trans g1)), fun g0 g1 => (z13 ((set_other (by decide)).symm.trans g0) ((set_other (by decide)).symm.trans g1)), fun g0 g1 => (z14 ((set_other (by decide)).symm.trans g0) ((set_other (by decide)).symm.trans g1)), fun g0 => (z15 ((set_other (by decide)).symm.trans g0)), fun g0 => (z16 ((set_other (by decide)).symm.trans g0)), fun g0 => (z17 ((set_other (by decide)).symm.trans g0)), fun g0 => ⟨set_keep (z18 ((set_other (by decide)).symm.trans g0)).1, set_keep (z18 ((set_other (by decide)).symm.trans g0)).2⟩, fun g0 => ⟨set_keep (z19 ((set_other (by decide)).symm.trans g0)).1, set_keep (z19 ((set_other (by decide)).symm.trans g0)).2⟩, fun g0 => ⟨set_keep (z20 ((set_other (by decide)).symm.trans g0)).1, set_keep (z20 ((set_other (by decide)).symm.trans g0)).2⟩⟩⟩
      · as_aux_lemma =>
        obtain rfl := Option.some.inj ho
        have e0 := z6 (dep (by simp [Region.binds] at hdeps ⊢; simp [hdeps]))
        subst e0
        obtain ⟨_, _, _, _, _, b0, b1, _, _, _, _, _, _⟩ := HS.out wz hbel
        have Z := hinv
        clear hinv ho hbel hN hdeps z0 z1 z2 z3 z4 z5 z6 z7 z8 z9 z10 z11 z12 z13 z14 z15 z16 z17 z18 z19 z20
        go_simp
        obtain ⟨hN, hbel, z0, z1, z2, z3, z4, z5, z6, z7, z8, z9, z10, z11, z12, z13, z14, z15, z16, z17, z18, z19, z20⟩ := Z.out
        exact hK _ _ ⟨_, _, _, _, _, _, _, _, _, _, _, _, rfl, Lib.hid ⟨by simpa using hN, hbel, fun g0 => (z0 ((set_other (by decide)).symm.trans g0)), fun g0 => (z1 ((set_other (by decide)).symm.trans g0)), fun g0 => (z2 ((set_other (by decide)).symm.trans g0)), fun g0 => (z3 ((set_other (by decide)).symm.trans g0)), fun g0 => (z4 ((set_other (by decide)).symm.trans g0)), fun g0 => (z5 ((set_other (by decide)).symm.trans g0)), fun g0 => (z6 ((set_other (by decide)).symm.trans g0)), fun _ => rfl, fun g0 => (z8 ((set_other (by decide)).symm.trans g0)), fun g0 => (z9 ((set_other (by decide)).symm.trans g0)), fun g0 => (z10 ((set_other (by decide)).symm.trans g0)), fun g0 => (z11 ((set_other (by decide)).symm.trans g0)), fun g0 g1 => (z12 ((set_other (by decide)).symm.trans g0) ((set_other (by decide)).symm.trans g1)), fun g0 g1 => (z13 ((set_other (by decide)).symm.trans g0) ((set_other (by decide)).symm.trans g1)), fun g0 g1 => (z14 ((set_other (by decide)).symm.trans g0) ((set_other (by decide)).symm.trans g1)), fun g0 => (z15 ((set_other (by decide)).symm.trans g0)), fun g0 => (z16 ((set_other (by decide)).symm.trans g0)), fun g0 => (z17 ((set_other (by decide)).symm.trans g0)), fun g0 => ⟨set_keep (z18 ((set_other (by decide)).symm.trans g0)).1, set_keep (z18 ((set_other (by decide)).symm.trans g0)).2⟩, fun g0 => ⟨set_keep (z19 ((set_other (by decide)).symm.trans g0)).1, set_keep (z19 ((set_other (by decide)).symm.trans g0)).2⟩, fun g0 => ⟨set_keep (z20 ((set_other (by decide)).symm.trans g0)).1, set_keep (z20 ((set_other (by decide)).symm.trans g0)).2⟩⟩⟩
      · as_aux_lemma =>
        obtain rfl := Option.some.inj ho
        have e0 := z7 (dep (by simp [Region.binds] at hdeps ⊢; simp [hdeps]))
        subst e0
        have CC := Lib.hid (KS2.out wz hbel)
        have Z := hinv
        clear hinv ho hbel hN hdeps z0 z1 z2 z3 z4 z5 z6 z7 z8 z9 z10 z11 z12 z13 z14 z15 z16 z17 z18 z19 z20
        go_simp
        refine CC.out.mono ?_
        rintro e wq ⟨a, n, c, rfl, how, hb'⟩
        obtain ⟨hN, hbel, z0, z1, z2, z3, z4, z5, z6, z7, z8, z9, z10, z11, z12, z13, z14, z15, z16, z17, z18, z19, z20⟩ := Z.out
        exact hK _ _ ⟨_, _, _, _, _, _, _, _, _, _, _, _, rfl, Lib.hid ⟨by simpa using hN, hbel.trans (hb'.mono hbel.size), fun g0 => (z0 ((set_other (by decide)).symm.trans g0)), fun g0 => (z1 ((set_other (by decide)).symm.trans g0)), fun g0 => (z2 ((set_other (by decide)).symm.trans g0)).below hb', fun g0 => (z3 ((set_other (by decide)).symm.trans g0)), fun g0 => (z4 ((set_other (by decide)).symm.trans g0)), fun g0 => (z5 ((set_other (by decide)).symm.trans g0)).below hb', fun g0 => (z6 ((set_other (by decide)).symm.trans g0)), fun g0 => (z7 ((set_other (by decide)).symm.trans g0)), fun _ => ⟨a, n, c, rfl, how.base hbel.size⟩, fun g0 => (z9 ((set_other (by decide)).symm.trans g0)).below hb', fun g0 => (z10 ((set_other (by decide)).symm.trans g0)).below hb', fun g0 => (z11 ((set_other (by decide)).symm.trans g0)).below hb', fun g0 g1 => (z12 ((set_other (by decide)).symm.trans g0) ((set_other (by decide)).symm.trans g1)), fun g0 g1 => (z13 ((set_other (by decide)).symm.trans g0) ((set_other (by decide)).symm.trans g1)), fun g0 g1 => (z14 ((set_other (by decide)).symm.trans g0) ((set_other (by decide)).symm.trans g1)), fun g0 => (z15 ((set_other (by decide)).symm.trans g0)).below hb', fun g0 => (z16 ((set_other (by decide)).symm.trans g0)).below hb', fun g0 => not_done hL (z20 (((set_other (by decide)).symm.trans g0))).2, fun g0 => ⟨set_keep (z18 ((set_other (by decide)).symm.trans g0)).1, set_keep (z18 ((set_other (by decide)).symm.trans g0)).2⟩, fun g0 => ⟨set_keep (z19 ((set_other (by decide)).symm.trans g0)).1, set_keep (z19 ((set_other (by decide)).symm.trans g0)).2⟩, fun g0 => not_done hL (z20 (((set_other (by decide)).symm.trans g0))).2⟩⟩
      · as_aux_lemma =>
        obtain rfl := Option.some.inj ho
        have Z := hinv
        clear hinv ho hbel hN hdeps z0 z1 z2 z3 z4 z5 z6 z7 z8 z9 z10 z11 z12 z13 z14 z15 z16 z17 z18 z19 z20
        go_simp
        obtain ⟨hN, hbel, z0, z1, z2, z3, z4, z5, z6, z7, z8, z9, z10, z11, z12, z13, z14, z15, z16, z17, z18, z19, z20⟩ := Z.out
        have hb' := below_alloc1 wz (Obj.cells #[.int .i64 0, .slice none 0 0] 29)
        exact hK _ _ ⟨_, _, _, _, _, _, _, _, _, _, _, _, rfl, Lib.hid ⟨by simpa using hN, hbel.trans (hb'.mono hbel.size), fun g0 => (z0 ((set_other (by decide)).symm.trans g0)), fun g0 => (z1 ((set_other (by decide)).symm.trans g0)), fun g0 => (z2 ((set_other (by decide)).symm.trans g0)).below hb', fun g0 => (z3 ((set_other (by decide)).symm.trans g0)), fun g0 => (z4 ((set_other (by decide)).symm.trans g0)), fun g0 => (z5 ((set_other (by decide)).symm.trans g0)).below hb', fun g0 => (z6 ((set_other (by decide)).symm.trans g0)), fun g0 => (z7 ((set_other (by decide)).symm.trans g0)), fun g0 => (z8 ((set_other (by decide)).symm.trans g0)).below hb', fun _ => N2.new _ _ _ _ hbel.size, fun g0 => (z10 ((set_other (by decide)).symm.trans g0)).below hb', fun g0 => (z11 ((set_other (by decide)).symm.trans g0)).below hb', fun g0 g1 => ((z10 ((set_other (by decide)).symm.trans g1)).lt).symm, fun g0 g1 => ((z11 ((set_other (by decide)).symm.trans g1)).lt).symm, fun g0 g1 => (z14 ((set_other (by decide)).symm.trans g0) ((set_other (by decide)).symm.trans g1)), fun g0 => not_done hL (z18 (((set_other (by decide)).symm.trans g0))).1, fun g0 => (z16 ((set_other (by decide)).symm.trans g0)).below hb', fun g0 => (z17 ((set_other (by decide)).symm.trans g0)).below hb', fun g0 => not_done hL (z18 (((set_other (by decide)).symm.trans g0))).1, fun g0 => ⟨set_keep (z19 ((set_other (by decide)).symm.trans g0)).1, set_keep (z19 ((set_other (by decide)).symm.trans g0)).2⟩, fun g0 => ⟨set_keep (z20 ((set_other (by decide)).symm.trans g0)).1, set_keep (z20 ((set_other (by decide)).symm.trans g0)).2⟩⟩⟩
      · as_aux_lemma =>
        obtain rfl := Option.some.inj ho
        have Z := hinv
        clear hinv ho hbel hN hdeps z0 z1 z2 z3 z4 z5 z6 z7 z8 z9 z10 z11 z12 z13 z14 z15 z16 z17 z18 z19 z20
        go_simp
        obtain ⟨hN, hbel, z0, z1, z2, z3, z4, z5, z6, z7, z8, z9, z10, z11, z12, z13, z14, z15, z16, z17, z18, z19, z20⟩ := Z.out
        have hb' := below_alloc1 wz (Obj.cells #[.int .i64 0, .slice none 0 0] 29)
        exact hK _ _ ⟨_, _, _, _, _, _, _, _, _, _, _, _, rfl, Lib.hid ⟨by simpa using hN, hbel.trans (hb'.mono hbel.size), fun g0 => (z0 ((set_other (by decide)).symm.trans g0)), fun g0 => (z1 ((set_other (by decide)).symm.trans g0)), fun g0 => (z2 ((set_other (by decide)).symm.trans g0)).below hb', fun g0 => (z3 ((set_other (by decide)).symm.trans g0)), fun g0 => (z4 ((set_other (by decide)).symm.trans g0)), fun g0 => (z5 ((set_other (by decide)).symm.trans g0)).below hb', fun g0 => (z6 ((set_other (by decide)).symm.trans g0)), fun g0 => (z7 ((set_other (by decide)).symm.trans g0)), fun g0 => (z8 ((set_other (by decide)).symm.trans g0)).below hb', fun g0 => (z9 ((set_other (by decide)).symm.trans g0)).below hb', fun _ => N2.new _ _ _ _ hbel.size, fun g0 => (z11 ((set_other (by decide)).symm.trans g0)).below hb', fun g0 g1 => (z9 ((set_other (by decide)).symm.trans g0)).lt, fun g0 g1 => (z13 ((set_other (by decide)).symm.trans g0) ((set_other (by decide)).symm.trans g1)), fun g0 g1 => ((z11 ((set_other (by decide)).symm.trans g1)).lt).symm, fun g0 => (z15 ((set_other (by decide)).symm.trans g0)).below hb', fun g0 => not_done hL (z19 (((set_other (by decide)).symm.trans g0))).1, fun g0 => (z17 ((set_other (by decide)).symm.trans g0)).below hb', fun g0 => ⟨set_keep (z18 ((set_other (by decide)).symm.trans g0)).1, set_keep (z18 ((set_other (by decide)).symm.trans g0)).2⟩, fun g0 => not_done hL (z19 (((set_other (by decide)).symm.trans g0))).1, fun g0 => ⟨set_keep (z20 ((set_other (by decide)).symm.trans g0)).1, set_keep (z20 ((set_other (by decide)).symm.trans g0)).2⟩⟩⟩
      · as_aux_lemma =>
        obtain rfl := Option.some.inj ho
        have Z := hinv
        clear hinv ho hbel hN hdeps z0 z1 z2 z3 z4 z5 z6 z7 z8 z9 z10 z11 z12 z13 z14 z15 z16 z17 z18 z19 z20
        go_simp
        obtain ⟨hN, hbel, z0, z1, z2, z3, z4, z5, z6, z7, z8, z9, z10, z11, z12, z13, z14, z15, z16, z17, z18, z19, z20⟩ := Z.out
        have hb' := below_alloc1 wz (Obj.cells #[.int .i64 0, .slice none 0 0] 29)
        exact hK _ _ ⟨_, _, _, _, _, _, _, _, _, _, _, _, rfl, Lib.hid ⟨by simpa using hN, hbel.trans (hb'.mono hbel.size), fun g0 => (z0 ((set_other (by decide)).symm.trans g0)), fun g0 => (z1 ((set_other (by decide)).symm.trans g0)), fun g0 => (z2 ((set_other (by decide)).symm.trans g0)).below hb', fun g0 => (z3 ((set_other (by decide)).symm.trans g0)), fun g0 => (z4 ((set_other (by decide)).symm.trans g0)), fun g0 => (z5 ((set_other (by decide)).symm.trans g0)).below hb', fun g0 => (z6 ((set_other (by decide)).symm.trans g0)), fun g0 => (z7 ((set_other (by decide)).symm.trans g0)), fun g0 => (z8 ((set_other (by decide)).symm.trans g0)).below hb', fun g0 => (z9 ((set_other (by decide)).symm.trans g0)).below hb', fun g0 => (z10 ((set_other (by decide)).symm.trans g0)).below hb', fun _ => N2.new _ _ _ _ hbel.size, fun g0 g1 => (z12 ((set_other (by decide)).symm.trans g0) ((set_other (by decide)).symm.trans g1)), fun g0 g1 => (z9 ((set_other (by decide)).symm.trans g0)).lt, fun g0 g1 => (z10 ((set_other (by decide)).symm.trans g0)).lt, fun g0 => (z15 ((set_other (by decide)).symm.trans g0)).below hb', fun g0 => (z16 ((set_other (by decide)).symm.trans g0)).below hb', fun g0 => not_done hL (z20 (((set_other (by decide)).symm.trans g0))).1, fun g0 => ⟨set_keep (z18 ((set_other (by decide)).symm.trans g0)).1, set_keep (z18 ((set_other (by decide)).symm.trans g0)).2⟩, fun g0 => ⟨set_keep (z19 ((set_other (by decide)).symm.trans g0)).1, set_keep (z19 ((set_other (by decide)).symm.trans g0)).2⟩, fun g0 => not_done hL (z20 (((set_other (by decide)).symm.trans g0))).1⟩⟩
      · as_aux_lemma =>
        obtain rfl := Option.some.inj ho
        have hds : L[9]? = some true ∧ L[10]? = some true ∧ L[11]? = some true ∧ L[2]? = some true := by
          simp [Region.binds] at hdeps
          refine ⟨?_, ?_, ?_, ?_⟩ <;> (refine dep ?_; simp [hdeps])
        obtain ⟨d9, d10, d11, d2⟩ := hds
        obtain ⟨A0, hA1, hA2, x0, u0, hA3⟩ := z9 d9
        obtain ⟨a, n, c, hc1, hc2⟩ := z2 d2
        subst hA1 hc1
        obtain ⟨s0, s1, s2, s3, s4, _⟩ := old2 wz A0 29 _ _ (.int .i64 D0) (.slice a n c) hA3
        have S4 := Lib.hid s4
        have HA3 := Lib.hid hA3
        have HA2 := Lib.hid hA2
        clear s4 hA2 hA3 hc2
        have Z := hinv
        clear hinv ho hbel hN hdeps z0 z1 z2 z3 z4 z5 z6 z7 z8 z9 z10 z11 z12 z13 z14 z15 z16 z17 z18 z19 z20
        go_simp
        clear s0 s1 s2 s3
        obtain ⟨hN, hbel, z0, z1, z2, z3, z4, z5, z6, z7, z8, z9, z10, z11, z12, z13, z14, z15, z16, z17, z18, z19, z20⟩ := Z.out
        have hbut := but_set2 wz A0 (.int .i64 D0) (.slice a n c)
        exact hK _ _ ⟨_, _, _, _, _, _, _, _, _, _, _, _, rfl, Lib.hid ⟨by simpa using hN, below_set2 hbel HA2.out (.int .i64 D0) (.slice a n c), fun g0 => (z0 ((set_other (by decide)).symm.trans g0)), fun g0 => (z1 ((set_other (by decide)).symm.trans g0)), fun g0 => (z2 ((set_other (by decide)).symm.trans g0)).set2 HA3.out (by decide) (.int .i64 D0) (.slice a n c), fun g0 => (z3 ((set_other (by decide)).symm.trans g0)), fun g0 => (z4 ((set_other (by decide)).symm.trans g0)), fun g0 => (z5 ((set_other (by decide)).symm.trans g0)).set2 HA3.out (by decide) (.int .i64 D0) (.slice a n c), fun g0 => (z6 ((set_other (by decide)).symm.trans g0)), fun g0 => (z7 ((set_other (by decide)).symm.trans g0)), fun g0 => (z8 ((set_other (by decide)).symm.trans g0)).set2 HA3.out (by decide) (.int .i64 D0) (.slice a n c), fun g0 => ⟨A0, rfl, HA2.out, _, _, S4.out⟩, fun g0 => (z10 ((set_other (by decide)).symm.trans g0)).but hbut ((z12 d9 d10)).symm, fun g0 => (z11 ((set_other (by decide)).symm.trans g0)).but hbut ((z13 d9 d11)).symm, fun g0 g1 => (z12 ((set_other (by decide)).symm.trans g0) ((set_other (by decide)).symm.trans g1)), fun g0 g1 => (z13 ((set_other (by decide)).symm.trans g0) ((set_other (by decide)).symm.trans g1)), fun g0 g1 => (z14 ((set_other (by decide)).symm.trans g0) ((set_other (by decide)).symm.trans g1)), fun _ => ⟨A0, _, rfl, rfl, S4.out⟩, fun g0 => (z16 ((set_other (by decide)).symm.trans g0)).but hbut ((z12 d9 d10)).symm, fun g0 => (z17 ((set_other (by decide)).symm.trans g0)).but hbut ((z13 d9 d11)).symm, fun _ => ⟨set_keep d9, set_keep d2⟩, fun g0 => ⟨set_keep (z19 ((set_other (by decide)).symm.trans g0)).1, set_keep (z19 ((set_other (by decide)).symm.trans g0)).2⟩, fun g0 => ⟨set_keep (z20 ((set_other (by decide)).symm.trans g0)).1, set_keep (z20 ((set_other (by decide)).symm.trans g0)).2⟩⟩⟩
      · as_aux_lemma =>
        obtain rfl := Option.some.inj ho
        have hds : L[10]? = some true ∧ L[9]? = some true ∧ L[11]? = some true ∧ L[5]? = some true := by
          simp [Region.binds] at hdeps
          refine ⟨?_, ?_, ?_, ?_⟩ <;> (refine dep ?_; simp [hdeps])
        obtain ⟨d10, d9, d11, d5⟩ := hds
        obtain ⟨A0, hA1, hA2, x0, u0, hA3⟩ := z10 d10
        obtain ⟨a, n, c, hc1, hc2⟩ := z5 d5
        subst hA1 hc1
        obtain ⟨s0, s1, s2, s3, s4, _⟩ := old2 wz A0 29 _ _ (.int .i64 D1) (.slice a n c) hA3
        have S4 := Lib.hid s4
        have HA3 := Lib.hid hA3
        have HA2 := Lib.hid hA2
        clear s4 hA2 hA3 hc2
        have Z := hinv
        clear hinv ho hbel hN hdeps z0 z1 z2 z3 z4 z5 z6 z7 z8 z9 z10 z11 z12 z13 z14 z15 z16 z17 z18 z19 z20
        go_simp
        clear s0 s1 s2 s3
        obtain ⟨hN, hbel, z0, z1, z2, z3, z4, z5, z6, z7, z8, z9, z10, z11, z12, z13, z14, z15, z16, z17, z18, z19, z20⟩ := Z.out
        have hbut := but_set2 wz A0 (.int .i64 D1) (.slice a n c)
        exact hK _ _ ⟨_, _, _, _, _, _, _, _, _, _, _, _, rfl, Lib.hid ⟨by simpa using hN, below_set2 hbel HA2.out (.int .i64 D1) (.slice a n c), fun g0 => (z0 ((set_other (by decide)).symm.trans g0)), fun g0 => (z1 ((set_other (by decide)).symm.trans g0)), fun g0 => (z2 ((set_other (by decide)).symm.trans g0)).set2 HA3.out (by decide) (.int .i64 D1) (.slice a n c), fun g0 => (z3 ((set_other (by decide)).symm.trans g0)), fun g0 => (z4 ((set_other (by decide)).symm.trans g0)), fun g0 => (z5 ((set_other (by decide)).symm.trans g0)).set2 HA3.out (by decide) (.int .i64 D1) (.slice a n c), fun g0 => (z6 ((set_other (by decide)).symm.trans g0)), fun g0 => (z7 ((set_other (by decide)).symm.trans g0)), fun g0 => (z8 ((set_other (by decide)).symm.trans g0)).set2 HA3.out (by decide) (.int .i64 D1) (.slice a n c), fun g0 => (z9 ((set_other (by decide)).symm.trans g0)).but hbut (z12 d9 d10), fun g0 => ⟨A0, rfl, HA2.out, _, _, S4.out⟩, fun g0 => (z11 ((set_other (by decide)).symm.trans g0)).but hbut ((z14 d10 d11)).symm, fun g0 g1 => (z12 ((set_other (by decide)).symm.trans g0) ((set_other (by decide)).symm.trans g1)), fun g0 g1 => (z13 ((set_other (by decide)).symm.trans g0) ((set_other (by decide)).symm.trans g1)), fun g0 g1 => (z14 ((set_other (by decide)).symm.trans g0) ((set_other (by decide)).symm.trans g1)), fun g0 => (z15 ((set_other (by decide)).symm.trans g0)).but hbut (z12 d9 d10), fun _ => ⟨A0, _, rfl, rfl, S4.out⟩, fun g0 => (z17 ((set_other (by decide)).symm.trans g0)).but hbut ((z14 d10 d11)).symm, fun g0 => ⟨set_keep (z18 ((set_other (by decide)).symm.trans g0)).1, set_keep (z18 ((set_other (by decide)).symm.trans g0)).2⟩, fun _ => ⟨set_keep d10, set_keep d5⟩, fun g0 => ⟨set_keep (z20 ((set_other (by decide)).symm.trans g0)).1, set_keep (z20 ((set_other (by decide)).symm.trans g0)).2⟩⟩⟩
      · as_aux_lemma =>
        obtain rfl := Option.some.inj ho
        have hds : L[11]? = some true ∧ L[9]? = some true ∧ L[10]? = some true ∧ L[8]? = some true := by
          simp [Region.binds] at hdeps
          refine ⟨?_, ?_, ?_, ?_⟩ <;> (refine dep ?_; simp [hdeps])
        obtain ⟨d11, d9, d10, d8⟩ := hds
        obtain ⟨A0, hA1, hA2, x0, u0, hA3⟩ := z11 d11
        obtain ⟨a, n, c, hc1, hc2⟩ := z8 d8
        subst hA1 hc1
        obtain ⟨s0, s1, s2, s3, s4, _⟩ := old2 wz A0 29 _ _ (.int .i64 D2) (.slice a n c) hA3
        have S4 := Lib.hid s4
        have HA3 := Lib.hid hA3
        have HA2 := Lib.hid hA2
        clear s4 hA2 hA3 hc2
        have Z := hinv
        clear hinv ho hbel hN hdeps z0 z1 z2 z3 z4 z5 z6 z7 z8 z9 z10 z11 z12 z13 z14 z15 z16 z17 z18 z19 z20
        go_simp
        clear s0 s1 s2 s3
        obtain ⟨hN, hbel, z0, z1, z2, z3, z4, z5, z6, z7, z8, z9, z10, z11, z12, z13, z14, z15, z16, z17, z18, z19, z20⟩ := Z.out
        have hbut := but_set2 wz A0 (.int .i64 D2) (.slice a n c)
        exact hK _ _ ⟨_, _, _, _, _, _, _, _, _, _, _, _, rfl, Lib.hid ⟨by simpa using hN, below_set2 hbel HA2.out (.int .i64 D2) (.slice a n c), fun g0 => (z0 ((set_other (by decide)).symm.trans g0)), fun g0 => (z1 ((set_other (by decide)).symm.trans g0)), fun g0 => (z2 ((set_other (by decide)).symm.trans g0)).set2 HA3.out (by decide) (.int .i64 D2) (.slice a n c), fun g0 => (z3 ((set_other (by decide)).symm.trans g0)), fun g0 => (z4 ((set_other (by decide)).symm.trans g0)), fun g0 => (z5 ((set_other (by decide)).symm.trans g0)).set2 HA3.out (by decide) (.int .i64 D2) (.slice a n c), fun g0 => (z6 ((set_other (by decide)).symm.trans g0)), fun g0 => (z7 ((set_other (by decide)).symm.trans g0)), fun g0 => (z8 ((set_other (by decide)).symm.trans g0)).set2 HA3.out (by decide) (.int .i64 D2) (.slice a n c), fun g0 => (z9 ((set_other (by decide)).symm.trans g0)).but hbut (z13 d9 d11), fun g0 => (z10 ((set_other (by decide)).symm.trans g0)).but hbut (z14 d10 d11), fun g0 => ⟨A0, rfl, HA2.out, _, _, S4.out⟩, fun g0 g1 => (z12 ((set_other (by decide)).symm.trans g0) ((set_other (by decide)).symm.trans g1)), fun g0 g1 => (z13 ((set_other (by decide)).symm.trans g0) ((set_other (by decide)).symm.trans g1)), fun g0 g1 => (z14 ((set_other (by decide)).symm.trans g0) ((set_other (by decide)).symm.trans g1)), fun g0 => (z15 ((set_other (by decide)).symm.trans g0)).but hbut (z13 d9 d11), fun g0 => (z16 ((set_other (by decide)).symm.trans g0)).but hbut (z14 d10 d11), fun _ => ⟨A0, _, rfl, rfl, S4.out⟩, fun g0 => ⟨set_keep (z18 ((set_other (by decide)).symm.trans g0)).1, set_keep (z18 ((set_other (by decide)).symm.trans g0)).2⟩, fun g0 => ⟨set_keep (z19 ((set_other (by decide)).symm.trans g0)).1, set_keep (z19 ((set_other (by decide)).symm.trans g0)).2⟩, fun _ => ⟨set_keep d11, set_keep d8⟩⟩⟩
    case fin1 =>
      intro L a wz hI hr
      obtain ⟨y3, y4, y5, y10, y11, y12, y13, y14, y15, y16, y17, y18, rfl, hinv⟩ := hI
      obtain ⟨hN, hbel, z0, z1, z2, z3, z4, z5, z6, z7, z8, z9, z10, z11, z12, z13, z14, z15, z16, z17, z18, z19, z20⟩ := hinv.out
      have f0 : L[0]? = some true := by
        cases hb : L[0]? with
        | none => have := (Array.getElem?_eq_none_iff.1 hb); omega
        | some b =>
          cases b with
          | true => rfl
          | false => exact (ready_nil hr hb (by rfl) (by simp [Region.binds])).elim
      have f1 : L[1]? = some true := by
        cases hb : L[1]? with
        | none => have := (Array.getElem?_eq_none_iff.1 hb); omega
        | some b =>
          cases b with
          | true => rfl
          | false => exact (ready_nil hr hb (by rfl) (by simp [Region.binds, f0])).elim
      have f2 : L[2]? = some true := by
        cases hb : L[2]? with
        | none => have := (Array.getElem?_eq_none_iff.1 hb); omega
        | some b =>
          cases b with
          | true => rfl
          | false => exact (ready_nil hr hb (by rfl) (by simp [Region.binds, f0, f1])).elim
      have f3 : L[3]? = some true := by
        cases hb : L[3]? with
        | none => have := (Array.getElem?_eq_none_iff.1 hb); omega
        | some b =>
          cases b with
          | true => rfl
          | false => exact (ready_nil hr hb (by rfl) (by simp [Region.binds, f0, f1, f2])).elim
      have f4 : L[4]? = some true := by
        cases hb : L[4]? with
        | none => have := (Array.getElem?_eq_none_iff.1 hb); omega
        | some b =>
          cases b with
          | true => rfl
          | false => exact (ready_nil hr hb (by rfl) (by simp [Region.binds, f0, f1, f2, f3])).elim
      have f5 : L[5]? = some true := by
        cases hb : L[5]? with
        | none => have := (Array.getElem?_eq_none_iff.1 hb); omega
        | some b =>
          cases b with
          | true => rfl
          | false => exact (ready_nil hr hb (by rfl) (by simp [Region.binds, f0, f1, f2, f3, f4])).elim
      have f6 : L[6]? = some true := by
        cases hb : L[6]? with
        | none => have := (Array.getElem?_eq_none_iff.1 hb); omega
        | some b =>
          cases b with
          | true => rfl
          | false => exact (ready_nil hr hb (by rfl) (by simp [Region.binds, f0, f1, f2, f3, f4, f5])).elim
      have f7 : L[7]? = some true := by
        cases hb : L[7]? with
        | none => have := (Array.getElem?_eq_none_iff.1 hb); omega
        | some b =>
          cases b with
          | true => rfl
          | false => exact (ready_nil hr hb (by rfl) (by simp [Region.binds, f0, f1, f2, f3, f4, f5, f6])).elim
      have f8 : L[8]? = some true := by
        cases hb : L[8]? with
        | none => have := (Array.getElem?_eq_none_iff.1 hb); omega
        | some b =>
          cases b with
          | true => rfl
          | false => exact (ready_nil hr hb (by rfl) (by simp [Region.binds, f0, f1, f2, f3, f4, f5, f6, f7])).elim
      have f9 : L[9]? = some true := by
        cases hb : L[9]? with
        | none => have := (Array.getElem?_eq_none_iff.1 hb); omega
        | some b =>
          cases b with
          | true => rfl
          | false => exact (ready_nil hr hb (by rfl) (by simp [Region.binds, f0, f1, f2, f3, f4, f5, f6, f7, f8])).elim
      have f10 : L[10]? = some true := by
        cases hb : L[10]? with
        | none => have := (Array.getElem?_eq_none_iff.1 hb); omega
        | some b =>
          cases b with
          | true => rfl
          | false => exact (ready_nil hr hb (by rfl) (by simp [Region.binds, f0, f1, f2, f3, f4, f5, f6, f7, f8, f9])).elim
      have f11 : L[11]? = some true := by
        cases hb : L[11]? with
        | none => have := (Array.getElem?_eq_none_iff.1 hb); omega
        | some b =>
          cases b with
          | true => rfl
          | false => exact (ready_nil hr hb (by rfl) (by simp [Region.binds, f0, f1, f2, f3, f4, f5, f6, f7, f8, f9, f10])).elim
      have f12 : L[12]? = some true := by
        cases hb : L[12]? with
        | none => have := (Array.getElem?_eq_none_iff.1 hb); omega
        | some b =>
          cases b with
          | true => rfl
          | false => exact (ready_nil hr hb (by rfl) (by simp [Region.binds, f0, f1, f2, f3, f4, f5, f6, f7, f8, f9, f10, f11])).elim
      have f13 : L[13]? = some true := by
        cases hb : L[13]? with
        | none => have := (Array.getElem?_eq_none_iff.1 hb); omega
        | some b =>
          cases b with
          | true => rfl
          | false => exact (ready_nil hr hb (by rfl) (by simp [Region.binds, f0, f1, f2, f3, f4, f5, f6, f7, f8, f9, f10, f11, f12])).elim
      have f14 : L[14]? = some true := by
        cases hb : L[14]? with
        | none => have := (Array.getElem?_eq_none_iff.1 hb); omega
        | some b =>
          cases b with
          | true => rfl
          | false => exact (ready_nil hr hb (by rfl) (by simp [Region.binds, f0, f1, f2, f3, f4, f5, f6, f7, f8, f9, f10, f11, f12, f13])).elim
      obtain ⟨B0, cs, hp0, hy0, hh0⟩ := z15 f12
      obtain ⟨a0, n0, c0, hz, hl0⟩ := z2 f2
      rw [hz] at hy0
      obtain rfl := (Value.agg.inj hy0).symm
      subst hp0
      obtain ⟨B1, cs, hp1, hy1, hh1⟩ := z16 f13
      obtain ⟨a1, n1, c1, hz, hl1⟩ := z5 f5
      rw [hz] at hy1
      obtain rfl := (Value.agg.inj hy1).symm
      subst hp1
      obtain ⟨B2, cs, hp2, hy2, hh2⟩ := z17 f14
      obtain ⟨a2, n2, c2, hz, hl2⟩ := z8 f8
      rw [hz] at hy2
      obtain rfl := (Value.agg.inj hy2).symm
      subst hp2
      have HF := Lib.hid (show VL wz B0 D0 a0 n0 c0 P0 ∧ VL wz B1 D1 a1 n1 c1 P1 ∧ VL wz B2 D2 a2 n2 c2 P2 ∧ Below w1.heap.size w1 wz from ⟨⟨hh0, hl0.la.mono (by omega)⟩, ⟨hh1, hl1.la.mono (by omega)⟩, ⟨hh2, hl2.la.mono (by omega)⟩, hbel⟩)
      go_wp2_with fail
      go_meet
      exact ⟨_, _, _, _, _, _, _, _, _, _, _, _, rfl, rfl, rfl, HF⟩
  case rest =>
    obtain ⟨V3, a20, n20, c20, V4, a21, n21, c21, V5, a22, n22, c22, rfl, rfl, rfl, HF⟩ := hcut
    obtain ⟨X1, rfl⟩ : ∃ X, X = wc := ⟨_, rfl⟩
    obtain ⟨hv3, hv4, hv5, hX⟩ := HF.out
    have HX := Lib.hid hX
    have hB := (HS.out X1 hX).1
    have HS := Lib.hid (fun (wx : World) (hx : Below X1.heap.size X1 wx) => (by
        have hw : Below w.heap.size w wx := hB.trans (hx.mono hB.size)
        have hold := HS.out wx (HX.out.trans (hx.mono HX.out.size))
        have r0 := block_below hv3.1 hx
        have r1 := block_below hv4.1 hx
        have r2 := block_below hv5.1 hx
        exact ⟨hw, hold.2.1, hold.2.2.1, hold.2.2.2.1, hold.2.2.2.2.1, hold.2.2.2.2.2.1, hold.2.2.2.2.2.2.1, hold.2.2.2.2.2.2.2.1, hold.2.2.2.2.2.2.2.2.1, by rw [cell_of_row _ _ 0 _ 29 (0, 0) r0]; rfl, by rw [cell_of_row _ _ 1 _ 29 (0, 0) r0]; rfl, by rw [cell_of_row _ _ 0 _ 29 (0, 0) r1]; rfl, by rw [cell_of_row _ _ 1 _ 29 (0, 0) r1]; rfl, by rw [cell_of_row _ _ 0 _ 29 (0, 0) r2]; rfl, by rw [cell_of_row _ _ 1 _ 29 (0, 0) r2]; rfl, hold.2.2.2.2.2.2.2.2.2.1, hold.2.2.2.2.2.2.2.2.2.2.1, hold.2.2.2.2.2.2.2.2.2.2.2.1, hold.2.2.2.2.2.2.2.2.2.2.2.2, hv3.2.below hx, hv4.2.below hx, hv5.2.below hx⟩ : Below w.heap.size w wx ∧ wx.cell? ⟨w.heap.size, 0, none⟩ = some (.int .i64 S0) ∧ wx.cell? ⟨w.heap.size, 1, none⟩ = some (.slice sa0 sn0 sc0) ∧ wx.cell? ⟨w.heap.size, 2, none⟩ = some (.int .i64 S1) ∧ wx.cell? ⟨w.heap.size, 3, none⟩ = some (.slice sa1 sn1 sc1) ∧ wx.cell? ⟨w.heap.size, 4, none⟩ = some (.int .i64 S2) ∧ wx.cell? ⟨w.heap.size, 5, none⟩ = some (.slice sa2 sn2 sc2) ∧ wx.cell? ⟨w.heap.size, 6, none⟩ = some (.int .i64 S3) ∧ wx.cell? ⟨w.heap.size, 7, none⟩ = some (.slice sa3 sn3 sc3) ∧ wx.cell? ⟨V3, 0, none⟩ = some (.int .i64 D0) ∧ wx.cell? ⟨V3, 1, none⟩ = some (.slice a20 n20 c20) ∧ wx.cell? ⟨V4, 0, none⟩ = some (.int .i64 D1) ∧ wx.cell? ⟨V4, 1, none⟩ = some (.slice a21 n21 c21) ∧ wx.cell? ⟨V5, 0, none⟩ = some (.int .i64 D2) ∧ wx.cell? ⟨V5, 1, none⟩ = some (.slice a22 n22 c22) ∧ IntsL wx (.slice sa0 sn0 sc0) ls0 ∧ IntsL wx (.slice sa1 sn1 sc1) ls1 ∧ IntsL wx (.slice sa2 sn2 sc2) ls2 ∧ IntsL wx (.slice sa3 sn3 sc3) ls3 ∧ LA 12 wx D0 a20 n20 c20 P0 ∧ LA 12 wx D1 a21 n21 c21 P1 ∧ LA 12 wx D2 a22 n22 c22 P2))
    clear hv3 hv4 hv5 hX hB HF KS0 KS1 KS2 KS3
    clear HX
    have hHeld := Below.refl X1.heap.size X1
    go_upto_region 4 with fail
    refine region_AU (Z := fun j => false) (S := fun w' => Below X1.heap.size X1 w') (by kernel_rfl) (hHeld.drew) (fun hHeld => ?_)
    refine AUS_take (by kernel_rfl) rfl (i := 0) (oi := _) (v := ?vw1) rfl (by kernel_rfl) (by kernel_rfl) (by kernel_rfl) (fun _ _ _ h => h) (Or.inl ⟨by rfl, ?hz1⟩) hHeld ?rst1
    case hz1 => (intro wS hSw; obtain ⟨_, f0, f1, f2, f3, f4, f5, f6, f7, f8, f9, f10, f11, f12, f13, _, _, _, _, _, _, _⟩ := HS.out wS hSw; clear hSw; go_simp; try with_reducible rfl)
    simp only [Act.put, List.getElem_toArray, List.getElem_cons_zero, List.getElem_cons_succ, List.setIfInBounds_toArray, List.set_cons_zero, List.set_cons_succ]
    refine AUS_take (by kernel_rfl) rfl (i := 1) (oi := _) (v := ?vw2) rfl (by kernel_rfl) (by kernel_rfl) (by kernel_rfl) (fun _ _ _ h => h) (Or.inl ⟨by rfl, ?hz2⟩) hHeld ?rst2
    case hz2 => (intro wS hSw; obtain ⟨_, f0, f1, f2, f3, f4, f5, f6, f7, f8, f9, f10, f11, f12, f13, _, _, _, _, _, _, _⟩ := HS.out wS hSw; clear hSw; go_simp; try with_reducible rfl)
    simp only [Act.put, List.getElem_toArray, List.getElem_cons_zero, List.getElem_cons_succ, List.setIfInBounds_toArray, List.set_cons_zero, List.set_cons_succ]
    have HH := Lib.hid hHeld
    obtain ⟨hbw, _, _, _, _, _, _, _, _, _, _, _, _, _, _, gs0, gs1, gs2, gs3, g20, g21, g22⟩ := HS.out _ hHeld
    refine AU_one (i := 2) (o := _) (by kernel_rfl) rfl (fun K hK => ?_)
    obtain ⟨b1, E1⟩ : ∃ b, Hid (rd D0 P0 D1 P1 = b) := ⟨_, Lib.hid rfl⟩
    have CC := read_m (g20.mono (by omega)) (g21.mono (by omega))
    rw [E1.out] at CC
    have CC := Lib.hid CC
    clear hHeld hbw gs0 gs1 gs2 gs3 g20 g21 g22
    go_simp
    refine CC.out.mono ?_
    clear CC
    rintro e wz1 ⟨rfl, hb⟩
    have hHeld := HH.out.trans (hb.mono HH.out.size)
    clear HH hb
    refine hK.out _ _ (fun _ => hHeld) ?_
    clear hK K
    try simp only [Act.put, List.getElem_toArray, List.getElem_cons_zero, List.getElem_cons_succ, List.setIfInBounds_toArray, List.set_cons_zero, List.set_cons_succ]
    cases b1
    · skip
      refine AUS_take (by kernel_rfl) rfl (i := 3) (oi := _) (v := ?vw3) rfl (by kernel_rfl) (by kernel_rfl) (by kernel_rfl) (fun _ _ _ h => h) (Or.inl ⟨by rfl, ?hz3⟩) hHeld ?rst3
      case hz3 => (intro wS hSw; obtain ⟨_, f0, f1, f2, f3, f4, f5, f6, f7, f8, f9, f10, f11, f12, f13, _, _, _, _, _, _, _⟩ := HS.out wS hSw; clear hSw; go_simp; try with_reducible rfl)
      simp only [Act.put, List.getElem_toArray, List.getElem_cons_zero, List.getElem_cons_succ, List.setIfInBounds_toArray, List.set_cons_zero, List.set_cons_succ]
      refine AUS_take (by kernel_rfl) rfl (i := 4) (oi := _) (v := ?vw4) rfl (by kernel_rfl) (by kernel_rfl) (by kernel_rfl) (fun _ _ _ h => h) (Or.inl ⟨by rfl, ?hz4⟩) hHeld ?rst4
      case hz4 => (intro wS hSw; obtain ⟨_, f0, f1, f2, f3, f4, f5, f6, f7, f8, f9, f10, f11, f12, f13, _, _, _, _, _, _, _⟩ := HS.out wS hSw; clear hSw; go_simp; try with_reducible rfl)
      simp only [Act.put, List.getElem_toArray, List.getElem_cons_zero, List.getElem_cons_succ, List.setIfInBounds_toArray, List.set_cons_zero, List.set_cons_succ]
      refine AUS_take (by kernel_rfl) rfl (i := 5) (oi := _) (v := undef) rfl (by kernel_rfl) (by kernel_rfl) (by kernel_rfl) (fun _ _ _ h => h) (Or.inr ⟨by rfl, rfl⟩) hHeld ?rst5
      try simp only [Act.put, List.getElem_toArray, List.getElem_cons_zero, List.getElem_cons_succ, List.setIfInBounds_toArray, List.set_cons_zero, List.set_cons_succ]
      refine AUS_take (by kernel_rfl) rfl (i := 6) (oi := _) (v := undef) rfl (by kernel_rfl) (by kernel_rfl) (by kernel_rfl) (fun _ _ _ h => h) (Or.inr ⟨by rfl, rfl⟩) hHeld ?rst6
      try simp only [Act.put, List.getElem_toArray, List.getElem_cons_zero, List.getElem_cons_succ, List.setIfInBounds_toArray, List.set_cons_zero, List.set_cons_succ]
      refine AUS_take (by kernel_rfl) rfl (i := 7) (oi := _) (v := undef) rfl (by kernel_rfl) (by kernel_rfl) (by kernel_rfl) (fun _ _ _ h => h) (Or.inr ⟨by rfl, rfl⟩) hHeld ?rst7
      try simp only [Act.put, List.getElem_toArray, List.getElem_cons_zero, List.getElem_cons_succ, List.setIfInBounds_toArray, List.set_cons_zero, List.set_cons_succ]
      refine AUS_take (by kernel_rfl) rfl (i := 8) (oi := _) (v := undef) rfl (by kernel_rfl) (by kernel_rfl) (by kernel_rfl) (fun _ _ _ h => h) (Or.inr ⟨by rfl, rfl⟩) hHeld ?rst8
      try simp only [Act.put, List.getElem_toArray, List.getElem_cons_zero, List.getElem_cons_succ, List.setIfInBounds_toArray, List.set_cons_zero, List.set_cons_succ]
      refine AUS_take (by kernel_rfl) rfl (i := 9) (oi := _) (v := undef) rfl (by kernel_rfl) (by kernel_rfl) (by kernel_rfl) (fun _ _ _ h => h) (Or.inr ⟨by rfl, rfl⟩) hHeld ?rst9
      try simp only [Act.put, List.getElem_toArray, List.getElem_cons_zero, List.getElem_cons_succ, List.setIfInBounds_toArray, List.set_cons_zero, List.set_cons_succ]
      refine AUS_take (by kernel_rfl) rfl (i := 10) (oi := _) (v := ?vw10) rfl (by kernel_rfl) (by kernel_rfl) (by kernel_rfl) (fun _ _ _ h => h) (Or.inl ⟨by rfl, ?hz10⟩) hHeld ?rst10
      case hz10 => (intro wS hSw; obtain ⟨_, f0, f1, f2, f3, f4, f5, f6, f7, f8, f9, f10, f11, f12, f13, _, _, _, _, _, _, _⟩ := HS.out wS hSw; clear hSw; go_simp; try with_reducible rfl)
      simp only [Act.put, List.getElem_toArray, List.getElem_cons_zero, List.getElem_cons_succ, List.setIfInBounds_toArray, List.set_cons_zero, List.set_cons_succ]
      refine AUS_take (by kernel_rfl) rfl (i := 11) (oi := _) (v := ?vw11) rfl (by kernel_rfl) (by kernel_rfl) (by kernel_rfl) (fun _ _ _ h => h) (Or.inl ⟨by rfl, ?hz11⟩) hHeld ?rst11
      case hz11 => (intro wS hSw; obtain ⟨_, f0, f1, f2, f3, f4, f5, f6, f7, f8, f9, f10, f11, f12, f13, _, _, _, _, _, _, _⟩ := HS.out wS hSw; clear hSw; go_simp; try with_reducible rfl)
      simp only [Act.put, List.getElem_toArray, List.getElem_cons_zero, List.getElem_cons_succ, List.setIfInBounds_toArray, List.set_cons_zero, List.set_cons_succ]
      refine AUS_take (by kernel_rfl) rfl (i := 12) (oi := _) (v := undef) rfl (by kernel_rfl) (by kernel_rfl) (by kernel_rfl) (fun _ _ _ h => h) (Or.inr ⟨by rfl, rfl⟩) hHeld ?rst12
      try simp only [Act.put, List.getElem_toArray, List.getElem_cons_zero, List.getElem_cons_succ, List.setIfInBounds_toArray, List.set_cons_zero, List.set_cons_succ]
      refine AUS_take (by kernel_rfl) rfl (i := 13) (oi := _) (v := undef) rfl (by kernel_rfl) (by kernel_rfl) (by kernel_rfl) (fun _ _ _ h => h) (Or.inr ⟨by rfl, rfl⟩) hHeld ?rst13
      try simp only [Act.put, List.getElem_toArray, List.getElem_cons_zero, List.getElem_cons_succ, List.setIfInBounds_toArray, List.set_cons_zero, List.set_cons_succ]
      refine AUS_take (by kernel_rfl) rfl (i := 14) (oi := _) (v := undef) rfl (by kernel_rfl) (by kernel_rfl) (by kernel_rfl) (fun _ _ _ h => h) (Or.inr ⟨by rfl, rfl⟩) hHeld ?rst14
      try simp only [Act.put, List.getElem_toArray, List.getElem_cons_zero, List.getElem_cons_succ, List.setIfInBounds_toArray, List.set_cons_zero, List.set_cons_succ]
      refine AUS_take (by kernel_rfl) rfl (i := 15) (oi := _) (v := undef) rfl (by kernel_rfl) (by kernel_rfl) (by kernel_rfl) (fun _ _ _ h => h) (Or.inr ⟨by rfl, rfl⟩) hHeld ?rst15
      try simp only [Act.put, List.getElem_toArray, List.getElem_cons_zero, List.getElem_cons_succ, List.setIfInBounds_toArray, List.set_cons_zero, List.set_cons_succ]
      refine AUS_take (by kernel_rfl) rfl (i := 16) (oi := _) (v := ?vw16) rfl (by kernel_rfl) (by kernel_rfl) (by kernel_rfl) (fun _ _ _ h => h) (Or.inl ⟨by rfl, ?hz16⟩) hHeld ?rst16
      case hz16 => (intro wS hSw; obtain ⟨_, f0, f1, f2, f3, f4, f5, f6, f7, f8, f9, f10, f11, f12, f13, _, _, _, _, _, _, _⟩ := HS.out wS hSw; clear hSw; go_simp; try with_reducible rfl)
      simp only [Act.put, List.getElem_toArray, List.getElem_cons_zero, List.getElem_cons_succ, List.setIfInBounds_toArray, List.set_cons_zero, List.set_cons_succ]
      have HE := Lib.hid hHeld
      clear hHeld
      refine AU_done (by kernel_rfl) ?_ _
      simp only [OnlyN]
      have hHeld := HE.out
      clear HE
      have HE := Lib.hid (HS.out _ hHeld).1
      clear hHeld
      go_wp2_with fail
      go_ret
      exact ⟨rfl, HE.out⟩
    · skip
      refine AUS_take (by kernel_rfl) rfl (i := 3) (oi := _) (v := ?vw17) rfl (by kernel_rfl) (by kernel_rfl) (by kernel_rfl) (fun _ _ _ h => h) (Or.inl ⟨by rfl, ?hz17⟩) hHeld ?rst17
      case hz17 => (intro wS hSw; obtain ⟨_, f0, f1, f2, f3, f4, f5, f6, f7, f8, f9, f10, f11, f12, f13, _, _, _, _, _, _, _⟩ := HS.out wS hSw; clear hSw; go_simp; try with_reducible rfl)
      simp only [Act.put, List.getElem_toArray, List.getElem_cons_zero, List.getElem_cons_succ, List.setIfInBounds_toArray, List.set_cons_zero, List.set_cons_succ]
      refine AUS_take (by kernel_rfl) rfl (i := 4) (oi := _) (v := ?vw18) rfl (by kernel_rfl) (by kernel_rfl) (by kernel_rfl) (fun _ _ _ h => h) (Or.inl ⟨by rfl, ?hz18⟩) hHeld ?rst18
      case hz18 => (intro wS hSw; obtain ⟨_, f0, f1, f2, f3, f4, f5, f6, f7, f8, f9, f10, f11, f12, f13, _, _, _, _, _, _, _⟩ := HS.out wS hSw; clear hSw; go_simp; try with_reducible rfl)
      simp only [Act.put, List.getElem_toArray, List.getElem_cons_zero, List.getElem_cons_succ, List.setIfInBounds_toArray, List.set_cons_zero, List.set_cons_succ]
      refine AUS_take (by kernel_rfl) rfl (i := 5) (oi := _) (v := ?vw19) rfl (by kernel_rfl) (by kernel_rfl) (by kernel_rfl) (fun _ _ _ h => h) (Or.inl ⟨by rfl, ?hz19⟩) hHeld ?rst19
      case hz19 => (intro wS hSw; obtain ⟨_, f0, f1, f2, f3, f4, f5, f6, f7, f8, f9, f10, f11, f12, f13, _, _, _, _, _, _, _⟩ := HS.out wS hSw; clear hSw; go_simp; try with_reducible rfl)
      simp only [Act.put, List.getElem_toArray, List.getElem_cons_zero, List.getElem_cons_succ, List.setIfInBounds_toArray, List.set_cons_zero, List.set_cons_succ]
      refine AUS_take (by kernel_rfl) rfl (i := 6) (oi := _) (v := ?vw20) rfl (by kernel_rfl) (by kernel_rfl) (by kernel_rfl) (fun _ _ _ h => h) (Or.inl ⟨by rfl, ?hz20⟩) hHeld ?rst20
      case hz20 => (intro wS hSw; obtain ⟨_, f0, f1, f2, f3, f4, f5, f6, f7, f8, f9, f10, f11, f12, f13, _, _, _, _, _, _, _⟩ := HS.out wS hSw; clear hSw; go_simp; try with_reducible rfl)
      simp only [Act.put, List.getElem_toArray, List.getElem_cons_zero, List.getElem_cons_succ, List.setIfInBounds_toArray, List.set_cons_zero, List.set_cons_succ]
      have HH := Lib.hid hHeld
      obtain ⟨hbw, _, _, _, _, _, _, _, _, _, _, _, _, _, _, gs0, gs1, gs2, gs3, g20, g21, g22⟩ := HS.out _ hHeld
      refine AU_one (i := 7) (o := _) (by kernel_rfl) rfl (fun K hK => ?_)
      have CC := Lib.hid (rest_m g20 (by omega))
      clear hHeld hbw gs0 gs1 gs2 gs3 g20 g21 g22
      go_simp
      refine CC.out.mono ?_
      clear CC
      rintro e wz2 ⟨a7, n7, c7, rfl, l7, hb⟩
      have hHeld := HH.out.trans (hb.mono HH.out.size)
      clear HH hb
      refine hK.out _ _ (fun _ => hHeld) ?_
      clear hK K
      try simp only [Act.put, List.getElem_toArray, List.getElem_cons_zero, List.getElem_cons_succ, List.setIfInBounds_toArray, List.set_cons_zero, List.set_cons_succ]
      have HH := Lib.hid hHeld
      obtain ⟨hbw, _, _, _, _, _, _, _, _, _, _, _, _, _, _, gs0, gs1, gs2, gs3, g20, g21, g22⟩ := HS.out _ hHeld
      refine AU_one (i := 8) (o := _) (by kernel_rfl) rfl (fun K hK => ?_)
      obtain ⟨b3, E3⟩ : ∃ b, Hid (rd D2 P2 (Lab.turn 0 2 D0) (Lab.tn 0 2 D0 P0) = b) := ⟨_, Lib.hid rfl⟩
      have CC := sees_m (g22.mono (by omega)) (l7.la.mono (by omega))
      rw [E3.out] at CC
      have CC := Lib.hid CC
      clear hHeld hbw gs0 gs1 gs2 gs3 g20 g21 g22
      go_simp
      refine CC.out.mono ?_
      clear CC
      rintro e wz3 ⟨rfl, hb⟩
      have hHeld := HH.out.trans (hb.mono HH.out.size)
      replace l7 := l7.below hb
      clear HH hb
      refine hK.out _ _ (fun _ => hHeld) ?_
      clear hK K
      try simp only [Act.put, List.getElem_toArray, List.getElem_cons_zero, List.getElem_cons_succ, List.setIfInBounds_toArray, List.set_cons_zero, List.set_cons_succ]
      cases b3
      · skip
        refine AUS_take (by kernel_rfl) rfl (i := 9) (oi := _) (v := ?vw21) rfl (by kernel_rfl) (by kernel_rfl) (by kernel_rfl) (fun _ _ _ h => h) (Or.inl ⟨by rfl, ?hz21⟩) hHeld ?rst21
        case hz21 => (intro wS hSw; obtain ⟨_, f0, f1, f2, f3, f4, f5, f6, f7, f8, f9, f10, f11, f12, f13, _, _, _, _, _, _, _⟩ := HS.out wS hSw; clear hSw; go_simp; try with_reducible rfl)
        simp only [Act.put, List.getElem_toArray, List.getElem_cons_zero, List.getElem_cons_succ, List.setIfInBounds_toArray, List.set_cons_zero, List.set_cons_succ]
        refine AUS_take (by kernel_rfl) rfl (i := 10) (oi := _) (v := ?vw22) rfl (by kernel_rfl) (by kernel_rfl) (by kernel_rfl) (fun _ _ _ h => h) (Or.inl ⟨by rfl, ?hz22⟩) hHeld ?rst22
        case hz22 => (intro wS hSw; obtain ⟨_, f0, f1, f2, f3, f4, f5, f6, f7, f8, f9, f10, f11, f12, f13, _, _, _, _, _, _, _⟩ := HS.out wS hSw; clear hSw; go_simp; try with_reducible rfl)
        simp only [Act.put, List.getElem_toArray, List.getElem_cons_zero, List.getElem_cons_succ, List.setIfInBounds_toArray, List.set_cons_zero, List.set_cons_succ]
        refine AUS_take (by kernel_rfl) rfl (i := 11) (oi := _) (v := ?vw23) rfl (by kernel_rfl) (by kernel_rfl) (by kernel_rfl) (fun _ _ _ h => h) (Or.inl ⟨by rfl, ?hz23⟩) hHeld ?rst23
        case hz23 => (intro wS hSw; obtain ⟨_, f0, f1, f2, f3, f4, f5, f6, f7, f8, f9, f10, f11, f12, f13, _, _, _, _, _, _, _⟩ := HS.out wS hSw; clear hSw; go_simp; try with_reducible rfl)
        simp only [Act.put, List.getElem_toArray, List.getElem_cons_zero, List.getElem_cons_succ, List.setIfInBounds_toArray, List.set_cons_zero, List.set_cons_succ]
        refine AUS_take (by kernel_rfl) rfl (i := 12) (oi := _) (v := undef) rfl (by kernel_rfl) (by kernel_rfl) (by kernel_rfl) (fun _ _ _ h => h) (Or.inr ⟨by rfl, rfl⟩) hHeld ?rst24
        try simp only [Act.put, List.getElem_toArray, List.getElem_cons_zero, List.getElem_cons_succ, List.setIfInBounds_toArray, List.set_cons_zero, List.set_cons_succ]
        refine AUS_take (by kernel_rfl) rfl (i := 13) (oi := _) (v := undef) rfl (by kernel_rfl) (by kernel_rfl) (by kernel_rfl) (fun _ _ _ h => h) (Or.inr ⟨by rfl, rfl⟩) hHeld ?rst25
        try simp only [Act.put, List.getElem_toArray, List.getElem_cons_zero, List.getElem_cons_succ, List.setIfInBounds_toArray, List.set_cons_zero, List.set_cons_succ]
        refine AUS_take (by kernel_rfl) rfl (i := 14) (oi := _) (v := undef) rfl (by kernel_rfl) (by kernel_rfl) (by kernel_rfl) (fun _ _ _ h => h) (Or.inr ⟨by rfl, rfl⟩) hHeld ?rst26
        try simp only [Act.put, List.getElem_toArray, List.getElem_cons_zero, List.getElem_cons_succ, List.setIfInBounds_toArray, List.set_cons_zero, List.set_cons_succ]
        refine AUS_take (by kernel_rfl) rfl (i := 15) (oi := _) (v := undef) rfl (by kernel_rfl) (by kernel_rfl) (by kernel_rfl) (fun _ _ _ h => h) (Or.inr ⟨by rfl, rfl⟩) hHeld ?rst27
        try simp only [Act.put, List.getElem_toArray, List.getElem_cons_zero, List.getElem_cons_succ, List.setIfInBounds_toArray, List.set_cons_zero, List.set_cons_succ]
        refine AUS_take (by kernel_rfl) rfl (i := 16) (oi := _) (v := ?vw28) rfl (by kernel_rfl) (by kernel_rfl) (by kernel_rfl) (fun _ _ _ h => h) (Or.inl ⟨by rfl, ?hz28⟩) hHeld ?rst28
        case hz28 => (intro wS hSw; obtain ⟨_, f0, f1, f2, f3, f4, f5, f6, f7, f8, f9, f10, f11, f12, f13, _, _, _, _, _, _, _⟩ := HS.out wS hSw; clear hSw; go_simp; try with_reducible rfl)
        simp only [Act.put, List.getElem_toArray, List.getElem_cons_zero, List.getElem_cons_succ, List.setIfInBounds_toArray, List.set_cons_zero, List.set_cons_succ]
        have HE := Lib.hid hHeld
        clear hHeld
        refine AU_done (by kernel_rfl) ?_ _
        simp only [OnlyN]
        have hHeld := HE.out
        clear HE
        have HE := Lib.hid (HS.out _ hHeld).1
        clear hHeld
        go_wp2_with fail
        go_ret
        exact ⟨rfl, HE.out⟩
      · skip
        refine AUS_take (by kernel_rfl) rfl (i := 9) (oi := _) (v := ?vw29) rfl (by kernel_rfl) (by kernel_rfl) (by kernel_rfl) (fun _ _ _ h => h) (Or.inl ⟨by rfl, ?hz29⟩) hHeld ?rst29
        case hz29 => (intro wS hSw; obtain ⟨_, f0, f1, f2, f3, f4, f5, f6, f7, f8, f9, f10, f11, f12, f13, _, _, _, _, _, _, _⟩ := HS.out wS hSw; clear hSw; go_simp; try with_reducible rfl)
        simp only [Act.put, List.getElem_toArray, List.getElem_cons_zero, List.getElem_cons_succ, List.setIfInBounds_toArray, List.set_cons_zero, List.set_cons_succ]
        refine AUS_take (by kernel_rfl) rfl (i := 10) (oi := _) (v := ?vw30) rfl (by kernel_rfl) (by kernel_rfl) (by kernel_rfl) (fun _ _ _ h => h) (Or.inl ⟨by rfl, ?hz30⟩) hHeld ?rst30
        case hz30 => (intro wS hSw; obtain ⟨_, f0, f1, f2, f3, f4, f5, f6, f7, f8, f9, f10, f11, f12, f13, _, _, _, _, _, _, _⟩ := HS.out wS hSw; clear hSw; go_simp; try with_reducible rfl)
        simp only [Act.put, List.getElem_toArray, List.getElem_cons_zero, List.getElem_cons_succ, List.setIfInBounds_toArray, List.set_cons_zero, List.set_cons_succ]
        refine AUS_take (by kernel_rfl) rfl (i := 11) (oi := _) (v := ?vw31) rfl (by kernel_rfl) (by kernel_rfl) (by kernel_rfl) (fun _ _ _ h => h) (Or.inl ⟨by rfl, ?hz31⟩) hHeld ?rst31
        case hz31 => (intro wS hSw; obtain ⟨_, f0, f1, f2, f3, f4, f5, f6, f7, f8, f9, f10, f11, f12, f13, _, _, _, _, _, _, _⟩ := HS.out wS hSw; clear hSw; go_simp; try with_reducible rfl)
        simp only [Act.put, List.getElem_toArray, List.getElem_cons_zero, List.getElem_cons_succ, List.setIfInBounds_toArray, List.set_cons_zero, List.set_cons_succ]
        refine AUS_take (by kernel_rfl) rfl (i := 12) (oi := _) (v := ?vw32) rfl (by kernel_rfl) (by kernel_rfl) (by kernel_rfl) (fun _ _ _ h => h) (Or.inl ⟨by rfl, ?hz32⟩) hHeld ?rst32
        case hz32 => (intro wS hSw; obtain ⟨_, f0, f1, f2, f3, f4, f5, f6, f7, f8, f9, f10, f11, f12, f13, _, _, _, _, _, _, _⟩ := HS.out wS hSw; clear hSw; go_simp; try with_reducible rfl)
        simp only [Act.put, List.getElem_toArray, List.getElem_cons_zero, List.getElem_cons_succ, List.setIfInBounds_toArray, List.set_cons_zero, List.set_cons_succ]
        refine AUS_take (by kernel_rfl) rfl (i := 13) (oi := _) (v := ?vw33) rfl (by kernel_rfl) (by kernel_rfl) (by kernel_rfl) (fun _ _ _ h => h) (Or.inl ⟨by rfl, ?hz33⟩) hHeld ?rst33
        case hz33 => (intro wS hSw; obtain ⟨_, f0, f1, f2, f3, f4, f5, f6, f7, f8, f9, f10, f11, f12, f13, _, _, _, _, _, _, _⟩ := HS.out wS hSw; clear hSw; go_simp; try with_reducible rfl)
        simp only [Act.put, List.getElem_toArray, List.getElem_cons_zero, List.getElem_cons_succ, List.setIfInBounds_toArray, List.set_cons_zero, List.set_cons_succ]
        have HH := Lib.hid hHeld
        obtain ⟨hbw, _, _, _, _, _, _, _, _, _, _, _, _, _, _, gs0, gs1, gs2, gs3, g20, g21, g22⟩ := HS.out _ hHeld
        refine AU_one (i := 14) (o := _) (by kernel_rfl) rfl (fun K hK => ?_)
        obtain ⟨b4, E4⟩ : ∃ b, Hid (tr D2 P2 P0 = b) := ⟨_, Lib.hid rfl⟩
        have CC := trusted_m (g22.mono (by omega)) (g20.mono (by omega))
        rw [E4.out] at CC
        have CC := Lib.hid CC
        clear hHeld hbw gs0 gs1 gs2 gs3 g20 g21 g22
        go_simp
        refine CC.out.mono ?_
        clear CC
        rintro e wz4 ⟨rfl, hb⟩
        have hHeld := HH.out.trans (hb.mono HH.out.size)
        replace l7 := l7.below hb
        clear HH hb
        refine hK.out _ _ (fun _ => hHeld) ?_
        clear hK K
        try simp only [Act.put, List.getElem_toArray, List.getElem_cons_zero, List.getElem_cons_succ, List.setIfInBounds_toArray, List.set_cons_zero, List.set_cons_succ]
        cases b4
        · skip
          refine AUS_take (by kernel_rfl) rfl (i := 15) (oi := _) (v := ?vw34) rfl (by kernel_rfl) (by kernel_rfl) (by kernel_rfl) (fun _ _ _ h => h) (Or.inl ⟨by rfl, ?hz34⟩) hHeld ?rst34
          case hz34 => (intro wS hSw; obtain ⟨_, f0, f1, f2, f3, f4, f5, f6, f7, f8, f9, f10, f11, f12, f13, _, _, _, _, _, _, _⟩ := HS.out wS hSw; clear hSw; go_simp; try with_reducible rfl)
          simp only [Act.put, List.getElem_toArray, List.getElem_cons_zero, List.getElem_cons_succ, List.setIfInBounds_toArray, List.set_cons_zero, List.set_cons_succ]
          refine AUS_take (by kernel_rfl) rfl (i := 16) (oi := _) (v := ?vw35) rfl (by kernel_rfl) (by kernel_rfl) (by kernel_rfl) (fun _ _ _ h => h) (Or.inl ⟨by rfl, ?hz35⟩) hHeld ?rst35
          case hz35 => (intro wS hSw; obtain ⟨_, f0, f1, f2, f3, f4, f5, f6, f7, f8, f9, f10, f11, f12, f13, _, _, _, _, _, _, _⟩ := HS.out wS hSw; clear hSw; go_simp; try with_reducible rfl)
          simp only [Act.put, List.getElem_toArray, List.getElem_cons_zero, List.getElem_cons_succ, List.setIfInBounds_toArray, List.set_cons_zero, List.set_cons_succ]
          have HE := Lib.hid hHeld
          clear hHeld
          refine AU_done (by kernel_rfl) ?_ _
          simp only [OnlyN]
          have hHeld := HE.out
          clear HE
          have HE := Lib.hid (HS.out _ hHeld).1
          clear hHeld
          go_wp2_with fail
          go_ret
          exact ⟨rfl, HE.out⟩
        · skip
          refine AUS_take (by kernel_rfl) rfl (i := 15) (oi := _) (v := ?vw36) rfl (by kernel_rfl) (by kernel_rfl) (by kernel_rfl) (fun _ _ _ h => h) (Or.inl ⟨by rfl, ?hz36⟩) hHeld ?rst36
          case hz36 => (intro wS hSw; obtain ⟨_, f0, f1, f2, f3, f4, f5, f6, f7, f8, f9, f10, f11, f12, f13, _, _, _, _, _, _, _⟩ := HS.out wS hSw; clear hSw; go_simp; try with_reducible rfl)
          simp only [Act.put, List.getElem_toArray, List.getElem_cons_zero, List.getElem_cons_succ, List.setIfInBounds_toArray, List.set_cons_zero, List.set_cons_succ]
          refine AUS_take (by kernel_rfl) rfl (i := 16) (oi := _) (v := ?vw37) rfl (by kernel_rfl) (by kernel_rfl) (by kernel_rfl) (fun _ _ _ h => h) (Or.inl ⟨by rfl, ?hz37⟩) hHeld ?rst37
          case hz37 => (intro wS hSw; obtain ⟨_, f0, f1, f2, f3, f4, f5, f6, f7, f8, f9, f10, f11, f12, f13, _, _, _, _, _, _, _⟩ := HS.out wS hSw; clear hSw; go_simp; try with_reducible rfl)
          simp only [Act.put, List.getElem_toArray, List.getElem_cons_zero, List.getElem_cons_succ, List.setIfInBounds_toArray, List.set_cons_zero, List.set_cons_succ]
          have HE := Lib.hid hHeld
          clear hHeld
          refine AU_done (by kernel_rfl) ?_ _
          simp only [OnlyN]
          have hHeld := HE.out
          clear HE
          have hm := Lib.hid (reads FS0.out.1 FS1.out.1 FS2.out.1 E1.out E3.out E4.out)
          have HT := Lib.hid (fun c (hc : c ∈ Lab.owns P0) => (tr_iff.1 E4.out c hc : Lab.at' D2 P2 c = 0 ∨ Lab.at' D2 P2 c = 4))
          have HNL := Lib.hid (show (Lab.owns P0).length ≤ 1000 by have := Lab.owns_le P0; have := FS0.out.1.2.2.2.2; omega)
          go_upto_region 6 with fail
          have HH := Lib.hid hHeld
          obtain ⟨hbw, _, _, _, _, _, _, _, _, _, _, _, _, _, _, gs0, gs1, gs2, gs3, g20, g21, g22⟩ := HS.out _ hHeld
          have CC := Lib.hid (owns_m g20 (by omega))
          clear hHeld hbw gs0 gs1 gs2 gs3 g20 g21 g22
          obtain ⟨_, f0, f1, f2, f3, f4, f5, f6, f7, f8, f9, f10, f11, f12, f13, _, _, _, _, _, _, _⟩ := HS.out _ HH.out
          go_wp2_with fail
          refine CC.out.mono ?_
          clear CC f0 f1 f2 f3 f4 f5 f6 f7 f8 f9 f10 f11 f12 f13
          rintro e wz5 ⟨ao5, co5, rfl, hor5, hb⟩
          have hHeld := HH.out.trans (hb.mono HH.out.size)
          replace l7 := l7.below hb
          clear HH hb
          obtain ⟨no5, eno⟩ : ∃ q, (Lab.owns P0).length = q := ⟨_, rfl⟩
          rw [eno]
          have ENO5 := Lib.hid eno
          have HOR5 := Lib.hid hor5
          clear eno hor5
          have HX6 := Lib.hid hHeld
          rw [ENO5.out] at HNL
          clear hHeld
          go_wp2_with fail
          go_loopg [39] no5 (fun gh s39 wr => ∃ k : Nat, k ≤ no5 ∧ gh = no5 - k ∧ s39 = .int .i64 k ∧ Hid (Below X1.heap.size X1 wr ∧ OR wr ao5 (Lab.owns P0)))
          case atStart => exact ⟨0, by omega, by omega, rfl, Lib.hid ⟨HX6.out, HOR5.out⟩⟩
          case round =>
            obtain ⟨k, hk, hg, rfl, hI⟩ := hrel
            have HW := Lib.hid hI.out.1
            by_cases hlt : k < no5
            · skip
              obtain ⟨x, hx⟩ : ∃ x, (Lab.owns P0)[k]? = some x := ⟨_, List.getElem?_eq_getElem (by rw [ENO5.out]; exact hlt)⟩
              have hor := hI.out.2 k x hx
              have hT := HT.out x (List.mem_of_getElem? hx)
              obtain ⟨bc, oc, rfl, hbc, hcx⟩ := hor
              obtain ⟨lv, el⟩ : ∃ q, Lab.at' D2 P2 x = q := ⟨_, rfl⟩
              rw [el] at hT
              have EL := Lib.hid el
              have l1 : (k : Int) < no5 := by omega
              have l2 := w_succ k (Nat.le_trans (Nat.le_of_lt hlt) HNL.out)
              have l3 := w_succ2 k (Nat.le_trans (Nat.le_of_lt hlt) HNL.out)
              clear hx el
              obtain ⟨_, f0, f1, f2, f3, f4, f5, f6, f7, f8, f9, f10, f11, f12, f13, gs0, gs1, gs2, gs3, g20, g21, g22⟩ := HS.out _ HW.out
              have CA := at_m x g22
              rw [EL.out] at CA
              have CA := Lib.hid CA
              clear gs0 gs1 gs2 gs3 g20 g21 g22
              go_wp2_with fail
              refine CA.out.mono ?_
              rintro e wz101 ⟨rfl, hb⟩
              have HZ101 := Lib.hid (HW.out.trans (hb.mono HW.out.size))
              have HOZ101 := Lib.hid (hI.out.2.below hb)
              clear hb CA f0 f1 f2 f3 f4 f5 f6 f7 f8 f9 f10 f11 f12 f13
              obtain rfl | rfl := hT
              · skip
                go_wp2_with fail
                go_roundg (no5 - (k + 1))
                case rel => exact ⟨k + 1, by omega, by omega, by simp, Lib.hid ⟨HZ101.out, HOZ101.out⟩⟩
                case measure => first | omega | (simp; omega)
              · skip
                obtain ⟨_, f0, f1, f2, f3, f4, f5, f6, f7, f8, f9, f10, f11, f12, f13, gs0, gs1, gs2, gs3, g20, g21, g22⟩ := HS.out _ HZ101.out
                have CA := at_m x g22
                rw [EL.out] at CA
                have CA := Lib.hid CA
                clear gs0 gs1 gs2 gs3 g20 g21 g22
                go_wp2_with fail
                refine CA.out.mono ?_
                rintro e wz102 ⟨rfl, hb⟩
                have HZ102 := Lib.hid (HZ101.out.trans (hb.mono HZ101.out.size))
                have HOZ102 := Lib.hid (HOZ101.out.below hb)
                clear hb CA f0 f1 f2 f3 f4 f5 f6 f7 f8 f9 f10 f11 f12 f13
                go_wp2_with fail
                go_roundg (no5 - (k + 1))
                case rel => exact ⟨k + 1, by omega, by omega, by simp, Lib.hid ⟨HZ102.out, HOZ102.out⟩⟩
                case measure => first | omega | (simp; omega)
            · skip
              have l1 : ¬ (k : Int) < no5 := by omega
              go_upto_region 12 with fail
              have hHeld := HW.out
              have HH := Lib.hid hHeld
              obtain ⟨hbw, _, _, _, _, _, _, _, _, _, _, _, _, _, _, gs0, gs1, gs2, gs3, g20, g21, g22⟩ := HS.out _ hHeld
              have CC := sees_m (g22.mono (by omega)) (g21.mono (by omega))
              rw [hm.out] at CC
              have CC := Lib.hid CC
              clear hHeld hbw gs0 gs1 gs2 gs3 g20 g21 g22
              obtain ⟨_, f0, f1, f2, f3, f4, f5, f6, f7, f8, f9, f10, f11, f12, f13, _, _, _, _, _, _, _⟩ := HS.out _ HH.out
              go_wp2_with fail
              refine CC.out.mono ?_
              clear CC f0 f1 f2 f3 f4 f5 f6 f7 f8 f9 f10 f11 f12 f13
              rintro e wz6 ⟨rfl, hb⟩
              have hHeld := HH.out.trans (hb.mono HH.out.size)
              clear HH hb
              have HE := Lib.hid (HS.out _ hHeld).1
              clear hHeld
              go_wp2_with fail
              go_ret
              exact ⟨rfl, HE.out⟩
end Go.Proofs.Ytmbdglhihakkjaa
