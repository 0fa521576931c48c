/- RulesRise. -/
import Derived.Test.YtmbdglhihakkjaaQo
import Derived.Test.YtmbdglhihakkjaaQf
set_option linter.unusedVariables false
set_option linter.unusedSimpArgs false
namespace Go.Proofs.Ytmbdglhihakkjaa
open Go.RowKit
set_option linter.unusedVariables false
set_option linter.unusedSimpArgs false
/-- A pair of a label, in memory. -/
theorem LA.pair {k : Nat} {W : World} {D : Int} {a : Option Addr} {n c i : Nat} {P : LP} {p : Nat × Int} (h : LA k W D a n c P) (hi : P[i]? = some p) : ∃ b off, a = some ⟨b, off, none⟩ ∧ b < W.heap.size ∧ W.cell? ⟨b, off + i * 2, none⟩ = some (.int .u32 p.1) ∧ W.cell? ⟨b, off + i * 2 + 1, none⟩ = some (.int .i64 p.2) := by
  rcases h.2.2 with ⟨e, rfl⟩ | ⟨b, off, cap, e, h1, h2, h3, h4⟩
  · simp at hi
  · cases e
    exact ⟨b, off, rfl, h1, (h4 i p hi).1, (h4 i p hi).2⟩
set_option maxHeartbeats 40000000 in
set_option maxRecDepth 100000 in
theorem rise_all {w : World} (S0 : Int) {sa0 : Option Addr} {sn0 sc0 : Nat} {ls0 : List Int} (S1 : Int) {sa1 : Option Addr} {sn1 sc1 : Nat} {ls1 : List Int} (S2 : Int) {sa2 : Option Addr} {sn2 sc2 : Nat} {ls2 : List Int} (S3 : Int) {sa3 : Option Addr} {sn3 sc3 : Nat} {ls3 : List Int} (S4 : Int) {sa4 : Option Addr} {sn4 sc4 : Nat} {ls4 : List Int} (S5 : Int) {sa5 : Option Addr} {sn5 sc5 : Nat} {ls5 : List Int}   (h0 : IntsL w (.slice sa0 sn0 sc0) ls0) (h1 : IntsL w (.slice sa1 sn1 sc1) ls1) (h2 : IntsL w (.slice sa2 sn2 sc2) ls2) (h3 : IntsL w (.slice sa3 sn3 sc3) ls3) (h4 : IntsL w (.slice sa4 sn4 sc4) ls4) (h5 : IntsL w (.slice sa5 sn5 sc5) ls5) : Calls Try.prog 7 #[.agg #[.int .i64 S0, .slice sa0 sn0 sc0, .int .i64 S1, .slice sa1 sn1 sc1, .int .i64 S2, .slice sa2 sn2 sc2, .int .i64 S3, .slice sa3 sn3 sc3], .agg #[.int .i64 S4, .slice sa4 sn4 sc4, .int .i64 S5, .slice sa5 sn5 sc5]] w (BB w true) := by
  obtain ⟨D0, eD0⟩ : ∃ D, Lab.seedD S0 = D := ⟨_, rfl⟩
  obtain ⟨P0, eP0⟩ : ∃ P, Lab.seedP S0 ls0 = P := ⟨_, rfl⟩
  have hfs0 := Lab.fine_seed S0 ls0
  rw [eD0, eP0] at hfs0
  have FS0 := Lib.hid hfs0
  have CS0 := Lib.hid (fun (W : World) (h : IntsL W (.slice sa0 sn0 sc0) ls0) => (by have := seed_m S0 sa0 sn0 sc0 ls0 W h; rwa [eD0, eP0] at this : Calls Try.prog 12 #[.agg #[.int .i64 S0, .slice sa0 sn0 sc0]] W (LM 12 W D0 P0)))
  clear hfs0 eD0 eP0
  obtain ⟨D1, eD1⟩ : ∃ D, Lab.seedD S1 = D := ⟨_, rfl⟩
  obtain ⟨P1, eP1⟩ : ∃ P, Lab.seedP S1 ls1 = P := ⟨_, rfl⟩
  have hfs1 := Lab.fine_seed S1 ls1
  rw [eD1, eP1] at hfs1
  have FS1 := Lib.hid hfs1
  have CS1 := Lib.hid (fun (W : World) (h : IntsL W (.slice sa1 sn1 sc1) ls1) => (by have := seed_m S1 sa1 sn1 sc1 ls1 W h; rwa [eD1, eP1] at this : Calls Try.prog 12 #[.agg #[.int .i64 S1, .slice sa1 sn1 sc1]] W (LM 12 W D1 P1)))
  clear hfs1 eD1 eP1
  obtain ⟨D2, eD2⟩ : ∃ D, Lab.seedD S2 = D := ⟨_, rfl⟩
  obtain ⟨P2, eP2⟩ : ∃ P, Lab.seedP S2 ls2 = P := ⟨_, rfl⟩
  have hfs2 := Lab.fine_seed S2 ls2
  rw [eD2, eP2] at hfs2
  have FS2 := Lib.hid hfs2
  have CS2 := Lib.hid (fun (W : World) (h : IntsL W (.slice sa2 sn2 sc2) ls2) => (by have := seed_m S2 sa2 sn2 sc2 ls2 W h; rwa [eD2, eP2] at this : Calls Try.prog 12 #[.agg #[.int .i64 S2, .slice sa2 sn2 sc2]] W (LM 12 W D2 P2)))
  clear hfs2 eD2 eP2
  obtain ⟨D3, eD3⟩ : ∃ D, Lab.seedD S3 = D := ⟨_, rfl⟩
  obtain ⟨P3, eP3⟩ : ∃ P, Lab.seedP S3 ls3 = P := ⟨_, rfl⟩
  have hfs3 := Lab.fine_seed S3 ls3
  rw [eD3, eP3] at hfs3
  have FS3 := Lib.hid hfs3
  have CS3 := Lib.hid (fun (W : World) (h : IntsL W (.slice sa3 sn3 sc3) ls3) => (by have := seed_m S3 sa3 sn3 sc3 ls3 W h; rwa [eD3, eP3] at this : Calls Try.prog 12 #[.agg #[.int .i64 S3, .slice sa3 sn3 sc3]] W (LM 12 W D3 P3)))
  clear hfs3 eD3 eP3
  obtain ⟨D4, eD4⟩ : ∃ D, Lab.seedD S4 = D := ⟨_, rfl⟩
  obtain ⟨P4, eP4⟩ : ∃ P, Lab.seedP S4 ls4 = P := ⟨_, rfl⟩
  have hfs4 := Lab.fine_seed S4 ls4
  rw [eD4, eP4] at hfs4
  have FS4 := Lib.hid hfs4
  have CS4 := Lib.hid (fun (W : World) (h : IntsL W (.slice sa4 sn4 sc4) ls4) => (by have := seed_m S4 sa4 sn4 sc4 ls4 W h; rwa [eD4, eP4] at this : Calls Try.prog 12 #[.agg #[.int .i64 S4, .slice sa4 sn4 sc4]] W (LM 12 W D4 P4)))
  clear hfs4 eD4 eP4
  obtain ⟨D5, eD5⟩ : ∃ D, Lab.seedD S5 = D := ⟨_, rfl⟩
  obtain ⟨P5, eP5⟩ : ∃ P, Lab.seedP S5 ls5 = P := ⟨_, rfl⟩
  have hfs5 := Lab.fine_seed S5 ls5
  rw [eD5, eP5] at hfs5
  have FS5 := Lib.hid hfs5
  have CS5 := Lib.hid (fun (W : World) (h : IntsL W (.slice sa5 sn5 sc5) ls5) => (by have := seed_m S5 sa5 sn5 sc5 ls5 W h; rwa [eD5, eP5] at this : Calls Try.prog 12 #[.agg #[.int .i64 S5, .slice sa5 sn5 sc5]] W (LM 12 W D5 P5)))
  clear hfs5 eD5 eP5
  obtain ⟨W0, e0⟩ : ∃ W0, W0 = ((w.alloc (Obj.cells #[.int .i64 S0, .slice sa0 sn0 sc0, .int .i64 S1, .slice sa1 sn1 sc1, .int .i64 S2, .slice sa2 sn2 sc2, .int .i64 S3, .slice sa3 sn3 sc3] 25)).alloc (Obj.cells #[.int .i64 S4, .slice sa4 sn4 sc4, .int .i64 S5, .slice sa5 sn5 sc5] 58)) := ⟨_, rfl⟩
  have hB : Below w.heap.size w W0 := by rw [e0]; exact (((Below.refl w.heap.size w).alloc (by omega) _).alloc (by simp <;> omega) _)
  have hk0 : W0.heap[w.heap.size]? = some (Obj.cells #[.int .i64 S0, .slice sa0 sn0 sc0, .int .i64 S1, .slice sa1 sn1 sc1, .int .i64 S2, .slice sa2 sn2 sc2, .int .i64 S3, .slice sa3 sn3 sc3] 25) := by
    rw [e0]
    rw [Below.heap_alloc _ _ _ (by simp <;> omega)]
    have := heap_alloc_new w (Obj.cells #[.int .i64 S0, .slice sa0 sn0 sc0, .int .i64 S1, .slice sa1 sn1 sc1, .int .i64 S2, .slice sa2 sn2 sc2, .int .i64 S3, .slice sa3 sn3 sc3] 25); simpa using this
  have hk1 : W0.heap[w.heap.size + 1]? = some (Obj.cells #[.int .i64 S4, .slice sa4 sn4 sc4, .int .i64 S5, .slice sa5 sn5 sc5] 58) := by
    rw [e0]
    have := heap_alloc_new (w.alloc (Obj.cells #[.int .i64 S0, .slice sa0 sn0 sc0, .int .i64 S1, .slice sa1 sn1 sc1, .int .i64 S2, .slice sa2 sn2 sc2, .int .i64 S3, .slice sa3 sn3 sc3] 25)) (Obj.cells #[.int .i64 S4, .slice sa4 sn4 sc4, .int .i64 S5, .slice sa5 sn5 sc5] 58); simpa using this
  have HS := Lib.hid (fun (wx : World) (hx : Below W0.heap.size W0 wx) => (by
      have hw : Below w.heap.size w wx := hB.trans (hx.mono hB.size)
      have r0 := block_below hk0 hx
      have r1 := block_below hk1 hx
      exact ⟨hw, by rw [cell_of_row _ _ 0 _ 25 (0, 0) r0]; rfl, by rw [cell_of_row _ _ 1 _ 25 (0, 0) r0]; rfl, by rw [cell_of_row _ _ 2 _ 25 (0, 0) r0]; rfl, by rw [cell_of_row _ _ 3 _ 25 (0, 0) r0]; rfl, by rw [cell_of_row _ _ 4 _ 25 (0, 0) r0]; rfl, by rw [cell_of_row _ _ 5 _ 25 (0, 0) r0]; rfl, by rw [cell_of_row _ _ 6 _ 25 (0, 0) r0]; rfl, by rw [cell_of_row _ _ 7 _ 25 (0, 0) r0]; rfl, by rw [cell_of_row _ _ 0 _ 58 (0, 0) r1]; rfl, by rw [cell_of_row _ _ 1 _ 58 (0, 0) r1]; rfl, by rw [cell_of_row _ _ 2 _ 58 (0, 0) r1]; rfl, by rw [cell_of_row _ _ 3 _ 58 (0, 0) r1]; rfl, h0.below hw, h1.below hw, h2.below hw, h3.below hw, h4.below hw, h5.below hw⟩ : Below w.heap.size w wx ∧ wx.cell? ⟨w.heap.size, 0, none⟩ = some (.int .i64 S0) ∧ wx.cell? ⟨w.heap.size, 1, none⟩ = some (.slice sa0 sn0 sc0) ∧ wx.cell? ⟨w.heap.size, 2, none⟩ = some (.int .i64 S1) ∧ wx.cell? ⟨w.heap.size, 3, none⟩ = some (.slice sa1 sn1 sc1) ∧ wx.cell? ⟨w.heap.size, 4, none⟩ = some (.int .i64 S2) ∧ wx.cell? ⟨w.heap.size, 5, none⟩ = some (.slice sa2 sn2 sc2) ∧ wx.cell? ⟨w.heap.size, 6, none⟩ = some (.int .i64 S3) ∧ wx.cell? ⟨w.heap.size, 7, none⟩ = some (.slice sa3 sn3 sc3) ∧ wx.cell? ⟨w.heap.size + 1, 0, none⟩ = some (.int .i64 S4) ∧ wx.cell? ⟨w.heap.size + 1, 1, none⟩ = some (.slice sa4 sn4 sc4) ∧ wx.cell? ⟨w.heap.size + 1, 2, none⟩ = some (.int .i64 S5) ∧ wx.cell? ⟨w.heap.size + 1, 3, none⟩ = some (.slice sa5 sn5 sc5) ∧ IntsL wx (.slice sa0 sn0 sc0) ls0 ∧ IntsL wx (.slice sa1 sn1 sc1) ls1 ∧ IntsL wx (.slice sa2 sn2 sc2) ls2 ∧ IntsL wx (.slice sa3 sn3 sc3) ls3 ∧ IntsL wx (.slice sa4 sn4 sc4) ls4 ∧ IntsL wx (.slice sa5 sn5 sc5) ls5))
  clear h0 h1 h2 h3 h4 h5 hB hk0 hk1
  go_enter Try.func7, Try.ntmps7
  go_wp2_with fail
  rw [← e0]
  clear e0
  refine (fit_m _).mono ?_
  rintro e w1 ⟨rfl, hb1⟩
  have HB1 := Lib.hid hb1
  have HS1 := Lib.hid (fun (wx : World) (hx : Below w1.heap.size w1 wx) => HS.out wx (HB1.out.trans (hx.mono HB1.out.size)))
  clear HS
  have HS := HS1
  clear HS1 HB1 hb1
  go_upto_region 3 with fail
  have KS0 := Lib.hid (fun (W : World) (h : Below w1.heap.size w1 W) => (by obtain ⟨_, _, _, _, _, _, _, _, _, _, _, _, _, hi, _, _, _, _, _⟩ := HS.out W h; exact CS0.out W hi : Calls Try.prog 12 #[.agg #[.int .i64 S0, .slice sa0 sn0 sc0]] W (LM 12 W D0 P0)))
  have KS1 := Lib.hid (fun (W : World) (h : Below w1.heap.size w1 W) => (by obtain ⟨_, _, _, _, _, _, _, _, _, _, _, _, _, _, hi, _, _, _, _⟩ := HS.out W h; exact CS1.out W hi : Calls Try.prog 12 #[.agg #[.int .i64 S1, .slice sa1 sn1 sc1]] W (LM 12 W D1 P1)))
  have KS2 := Lib.hid (fun (W : World) (h : Below w1.heap.size w1 W) => (by obtain ⟨_, _, _, _, _, _, _, _, _, _, _, _, _, _, _, hi, _, _, _⟩ := HS.out W h; exact CS2.out W hi : Calls Try.prog 12 #[.agg #[.int .i64 S2, .slice sa2 sn2 sc2]] W (LM 12 W D2 P2)))
  have KS3 := Lib.hid (fun (W : World) (h : Below w1.heap.size w1 W) => (by obtain ⟨_, _, _, _, _, _, _, _, _, _, _, _, _, _, _, _, hi, _, _⟩ := HS.out W h; exact CS3.out W hi : Calls Try.prog 12 #[.agg #[.int .i64 S3, .slice sa3 sn3 sc3]] W (LM 12 W D3 P3)))
  have KS4 := Lib.hid (fun (W : World) (h : Below w1.heap.size w1 W) => (by obtain ⟨_, _, _, _, _, _, _, _, _, _, _, _, _, _, _, _, _, hi, _⟩ := HS.out W h; exact CS4.out W hi : Calls Try.prog 12 #[.agg #[.int .i64 S4, .slice sa4 sn4 sc4]] W (LM 12 W D4 P4)))
  have KS5 := Lib.hid (fun (W : World) (h : Below w1.heap.size w1 W) => (by obtain ⟨_, _, _, _, _, _, _, _, _, _, _, _, _, _, _, _, _, _, hi⟩ := HS.out W h; exact CS5.out W hi : Calls Try.prog 12 #[.agg #[.int .i64 S5, .slice sa5 sn5 sc5]] W (LM 12 W D5 P5)))
  go_cut [5, 6, 17, 18, 19, 20, 21, 22, 23, 24, 25, 26, 27, 28, 29, 30] (fun s5 s6 s17 s18 s19 s20 s21 s22 s23 s24 s25 s26 s27 s28 s29 s30 wx => ∃ V5 a20 n20 c20 a21 n21 c21 V6 a22 n22 c22 a23 n23 c23, s5 = .pointer (some ⟨V5, 0, none⟩) ∧ s6 = .pointer (some ⟨V6, 0, none⟩) ∧ Hid (VW wx V5 32 D0 a20 n20 c20 P0 D1 a21 n21 c21 P1 ∧ VW wx V6 32 D2 a22 n22 c22 P2 D3 a23 n23 c23 P3 ∧ Below w1.heap.size w1 wx))
  case first =>
    refine wp_region_any (by kernel_rfl) ?_
    refine wpAny_inv (I := fun L a wz => ∃ y5 y6 y17 y18 y19 y20 y21 y22 y23 y24 y25 y26 y27 y28 y29 y30 : Value, a = { tmps := #[.agg #[.int .i64 S0, .slice sa0 sn0 sc0, .int .i64 S1, .slice sa1 sn1 sc1, .int .i64 S2, .slice sa2 sn2 sc2, .int .i64 S3, .slice sa3 sn3 sc3], .agg #[.int .i64 S4, .slice sa4 sn4 sc4, .int .i64 S5, .slice sa5 sn5 sc5], .pointer (some ⟨w.heap.size, 0, none⟩), .pointer (some ⟨w.heap.size + 1, 0, none⟩), .bool false, y5, y6, undef, undef, undef, undef, undef, undef, undef, undef, .bool true, .bool false, y17, y18, y19, y20, y21, y22, y23, y24, y25, y26, y27, y28, y29, y30, undef, undef, undef, undef, undef, undef, undef, undef, undef, undef, undef, undef, undef, undef, undef, undef, undef, undef, undef, undef, undef, undef, undef, undef, undef, undef, undef, undef, undef, undef, undef, undef, undef, undef, undef, undef, undef, undef, undef, undef, undef, undef, undef, undef, undef, undef, undef, undef, undef, undef, undef, undef, undef, undef, undef, undef, undef, undef, undef, undef, undef, undef, undef, undef, undef, undef, undef, undef, undef, undef, undef, undef, undef, undef, undef, undef, undef, undef, undef, undef, undef, undef, undef, undef, undef, undef, undef, undef, undef, undef, undef, undef, undef, undef, undef, undef, undef, undef], defers := [] } ∧ Hid (L.size = 18 ∧ Below w1.heap.size w1 wz ∧ (L[0]? = some true → y17 = .pointer (some ⟨w.heap.size, 0, none⟩)) ∧ (L[1]? = some true → y18 = .agg #[.int .i64 S0, .slice sa0 sn0 sc0]) ∧ (L[2]? = some true → CV w1 wz D0 P0 y19) ∧ (L[3]? = some true → y20 = .pointer (some ⟨w.heap.size, 2, none⟩)) ∧ (L[4]? = some true → y21 = .agg #[.int .i64 S1, .slice sa1 sn1 sc1]) ∧ (L[5]? = some true → CV w1 wz D1 P1 y22) ∧ (L[6]? = some true → BV w1 wz D0 P0 D1 P1 y23) ∧ (L[7]? = some true → y24 = .pointer (some ⟨w.heap.size, 4, none⟩)) ∧ (L[8]? = some true → y25 = .agg #[.int .i64 S2, .slice sa2 sn2 sc2]) ∧ (L[9]? = some true → CV w1 wz D2 P2 y26) ∧ (L[10]? = some true → y27 = .pointer (some ⟨w.heap.size, 6, none⟩)) ∧ (L[11]? = some true → y28 = .agg #[.int .i64 S3, .slice sa3 sn3 sc3]) ∧ (L[12]? = some true → CV w1 wz D3 P3 y29) ∧ (L[13]? = some true → BV w1 wz D2 P2 D3 P3 y30) ∧ (L[14]? = some true → N4 w1 wz 32 y5) ∧ (L[15]? = some true → N4 w1 wz 32 y6) ∧ (L[14]? = some true → L[15]? = some true → y5 ≠ y6) ∧ (L[16]? = some true → HV wz 32 y5 y23) ∧ (L[17]? = some true → HV wz 32 y6 y30) ∧ (L[6]? = some true → (L[2]? = some true ∧ L[5]? = some true)) ∧ (L[13]? = some true → (L[9]? = some true ∧ L[12]? = some true)) ∧ (L[16]? = some true → (L[14]? = some true ∧ L[6]? = some true)) ∧ (L[17]? = some true → (L[15]? = some true ∧ L[13]? = some true)))) ?step1 ?fin1 _ _ _ _ ⟨_, _, _, _, _, _, _, _, _, _, _, _, _, _, _, _, rfl, Lib.hid ⟨by rfl, Below.drew (Below.refl _ _), gone (by rfl), gone (by rfl), gone (by rfl), gone (by rfl), gone (by rfl), gone (by rfl), gone (by rfl), gone (by rfl), gone (by rfl), gone (by rfl), gone (by rfl), gone (by rfl), gone (by rfl), gone (by rfl), gone (by rfl), gone (by rfl), gone (by rfl), gone (by rfl), gone (by rfl), gone (by rfl), gone (by rfl), gone (by rfl), gone (by rfl)⟩⟩ (by decide)
    case step1 =>
      intro L a wz i o hI ho hL hdeps K hK
      obtain ⟨y5, y6, y17, y18, y19, y20, y21, y22, y23, y24, y25, y26, y27, y28, y29, y30, rfl, hinv⟩ := hI
      have hi : i < 18 := by have := (Array.getElem?_eq_some_iff.1 ho).1; exact this
      obtain ⟨hN, hbel, z0, z1, z2, z3, z4, z5, z6, z7, z8, z9, z10, z11, z12, z13, z14, z15, z16, z17, z18, z19, z20, z21, z22⟩ := hinv.out
      obtain rfl | rfl | rfl | rfl | rfl | rfl | rfl | rfl | rfl | rfl | rfl | rfl | rfl | rfl | rfl | rfl | rfl | rfl : i = 0 ∨ i = 1 ∨ i = 2 ∨ i = 3 ∨ i = 4 ∨ i = 5 ∨ i = 6 ∨ i = 7 ∨ i = 8 ∨ i = 9 ∨ i = 10 ∨ i = 11 ∨ i = 12 ∨ i = 13 ∨ i = 14 ∨ i = 15 ∨ i = 16 ∨ i = 17 := by omega
      · as_aux_lemma =>
        obtain rfl := Option.some.inj ho
        have Z := hinv
        clear hinv ho hbel hN hdeps z0 z1 z2 z3 z4 z5 z6 z7 z8 z9 z10 z11 z12 z13 z14 z15 z16 z17 z18 z19 z20 z21 z22
        go_simp
        obtain ⟨hN, hbel, z0, z1, z2, z3, z4, z5, z6, z7, z8, z9, z10, z11, z12, z13, z14, z15, z16, z17, z18, z19, z20, z21, z22⟩ := Z.out
        exact hK _ _ ⟨_, _, _, _, _, _, _, _, _, _, _, _, _, _, _, _, rfl, Lib.hid ⟨by simpa using hN, hbel, fun _ => rfl, fun g0 => (z1 ((set_other (by decide)).symm.trans g0)), fun g0 => (z2 ((set_other (by decide)).symm.trans g0)), fun g0 => (z3 ((set_other (by decide)).symm.trans g0)), fun g0 => (z4 ((set_other (by decide)).symm.trans g0)), fun g0 => (z5 ((set_other (by decide)).symm.trans g0)), fun g0 => (z6 ((set_other (by decide)).symm.trans g0)), fun g0 => (z7 ((set_other (by decide)).symm.trans g0)), fun g0 => (z8 ((set_other (by decide)).symm.trans g0)), fun g0 => (z9 ((set_other (by decide)).symm.trans g0)), fun g0 => (z10 ((set_other (by decide)).symm.trans g0)), fun g0 => (z11 ((set_other (by decide)).symm.trans g0)), fun g0 => (z12 ((set_other (by decide)).symm.trans g0)), fun g0 => (z13 ((set_other (by decide)).symm.trans g0)), fun g0 => (z14 ((set_other (by decide)).symm.trans g0)), fun g0 => (z15 ((set_other (by decide)).symm.trans g0)), fun g0 g1 => (z16 ((set_other (by decide)).symm.trans g0) ((set_other (by decide)).symm.trans g1)), fun g0 => (z17 ((set_other (by decide)).symm.trans g0)), fun g0 => (z18 ((set_other (by decide)).symm.trans g0)), fun g0 => ⟨set_keep (z19 ((set_other (by decide)).symm.trans g0)).1, set_keep (z19 ((set_other (by decide)).symm.trans g0)).2⟩, fun g0 => ⟨set_keep (z20 ((set_other (by decide)).symm.trans g0)).1, set_keep (z20 ((set_other (by decide)).symm.trans g0)).2⟩, fun g0 => ⟨set_keep (z21 ((set_other (by decide)).symm.trans g0)).1, set_keep (z21 ((set_other (by decide)).symm.trans g0)).2⟩, fun g0 => ⟨set_keep (z22 ((set_other (by decide)).symm.trans g0)).1, set_keep (z22 ((set_other (by decide)).symm.trans g0)).2⟩⟩⟩
      · as_aux_lemma =>
        obtain rfl := Option.some.inj ho
        have e0 := z0 (dep (by simp [Region.binds] at hdeps ⊢; simp [hdeps]))
        subst e0
        obtain ⟨_, b0, b1, _, _, _, _, _, _, _, _, _, _, _, _, _, _, _, _⟩ := HS.out wz hbel
        have Z := hinv
        clear hinv ho hbel hN hdeps z0 z1 z2 z3 z4 z5 z6 z7 z8 z9 z10 z11 z12 z13 z14 z15 z16 z17 z18 z19 z20 z21 z22
        go_simp
        obtain ⟨hN, hbel, z0, z1, z2, z3, z4, z5, z6, z7, z8, z9, z10, z11, z12, z13, z14, z15, z16, z17, z18, z19, z20, z21, z22⟩ := Z.out
        exact hK _ _ ⟨_, _, _, _, _, _, _, _, _, _, _, _, _, _, _, _, rfl, Lib.hid ⟨by simpa using hN, hbel, fun g0 => (z0 ((set_other (by decide)).symm.trans g0)), fun _ => rfl, fun g0 => (z2 ((set_other (by decide)).symm.trans g0)), fun g0 => (z3 ((set_other (by decide)).symm.trans g0)), fun g0 => (z4 ((set_other (by decide)).symm.trans g0)), fun g0 => (z5 ((set_other (by decide)).symm.trans g0)), fun g0 => (z6 ((set_other (by decide)).symm.trans g0)), fun g0 => (z7 ((set_other (by decide)).symm.trans g0)), fun g0 => (z8 ((set_other (by decide)).symm.trans g0)), fun g0 => (z9 ((set_other (by decide)).symm.trans g0)), fun g0 => (z10 ((set_other (by decide)).symm.trans g0)), fun g0 => (z11 ((set_other (by decide)).symm.trans g0)), fun g0 => (z12 ((set_other (by decide)).symm.trans g0)), fun g0 => (z13 ((set_other (by decide)).symm.trans g0)), fun g0 => (z14 ((set_other (by decide)).symm.trans g0)), fun g0 => (z15 ((set_other (by decide)).symm.trans g0)), fun g0 g1 => (z16 ((set_other (by decide)).symm.trans g0) ((set_other (by decide)).symm.trans g1)), fun g0 => (z17 ((set_other (by decide)).symm.trans g0)), fun g0 => (z18 ((set_other (by decide)).symm.trans g0)), fun g0 => ⟨set_keep (z19 ((set_other (by decide)).symm.trans g0)).1, set_keep (z19 ((set_other (by decide)).symm.trans g0)).2⟩, fun g0 => ⟨set_keep (z20 ((set_other (by decide)).symm.trans g0)).1, set_keep (z20 ((set_other (by decide)).symm.trans g0)).2⟩, fun g0 => ⟨set_keep (z21 ((set_other (by decide)).symm.trans g0)).1, set_keep (z21 ((set_other (by decide)).symm.trans g0)).2⟩, fun g0 => ⟨set_keep (z22 ((set_other (by decide)).symm.trans g0)).1, set_keep (z22 ((set_other (by decide)).symm.trans g0)).2⟩⟩⟩
      · as_aux_lemma =>
        obtain rfl := Option.some.inj ho
        have e0 := z1 (dep (by simp [Region.binds] at hdeps ⊢; simp [hdeps]))
        subst e0
        have CC := Lib.hid (KS0.out wz hbel)
        have Z := hinv
        clear hinv ho hbel hN hdeps z0 z1 z2 z3 z4 z5 z6 z7 z8 z9 z10 z11 z12 z13 z14 z15 z16 z17 z18 z19 z20 z21 z22
        go_simp
        refine CC.out.mono ?_
        rintro e wq ⟨a, n, c, rfl, how, hb'⟩
        obtain ⟨hN, hbel, z0, z1, z2, z3, z4, z5, z6, z7, z8, z9, z10, z11, z12, z13, z14, z15, z16, z17, z18, z19, z20, z21, z22⟩ := Z.out
        exact hK _ _ ⟨_, _, _, _, _, _, _, _, _, _, _, _, _, _, _, _, rfl, Lib.hid ⟨by simpa using hN, hbel.trans (hb'.mono hbel.size), fun g0 => (z0 ((set_other (by decide)).symm.trans g0)), fun g0 => (z1 ((set_other (by decide)).symm.trans g0)), fun _ => ⟨a, n, c, rfl, how.base hbel.size⟩, fun g0 => (z3 ((set_other (by decide)).symm.trans g0)), fun g0 => (z4 ((set_other (by decide)).symm.trans g0)), fun g0 => (z5 ((set_other (by decide)).symm.trans g0)).below hb', fun g0 => not_done hL (z19 (((set_other (by decide)).symm.trans g0))).1, fun g0 => (z7 ((set_other (by decide)).symm.trans g0)), fun g0 => (z8 ((set_other (by decide)).symm.trans g0)), fun g0 => (z9 ((set_other (by decide)).symm.trans g0)).below hb', fun g0 => (z10 ((set_other (by decide)).symm.trans g0)), fun g0 => (z11 ((set_other (by decide)).symm.trans g0)), fun g0 => (z12 ((set_other (by decide)).symm.trans g0)).below hb', fun g0 => (z13 ((set_other (by decide)).symm.trans g0)).below hb', fun g0 => (z14 ((set_other (by decide)).symm.trans g0)).below hb', fun g0 => (z15 ((set_other (by decide)).symm.trans g0)).below hb', fun g0 g1 => (z16 ((set_other (by decide)).symm.trans g0) ((set_other (by decide)).symm.trans g1)), fun g0 => (z17 ((set_other (by decide)).symm.trans g0)).below hb', fun g0 => (z18 ((set_other (by decide)).symm.trans g0)).below hb', fun g0 => not_done hL (z19 (((set_other (by decide)).symm.trans g0))).1, fun g0 => ⟨set_keep (z20 ((set_other (by decide)).symm.trans g0)).1, set_keep (z20 ((set_other (by decide)).symm.trans g0)).2⟩, fun g0 => ⟨set_keep (z21 ((set_other (by decide)).symm.trans g0)).1, set_keep (z21 ((set_other (by decide)).symm.trans g0)).2⟩, fun g0 => ⟨set_keep (z22 ((set_other (by decide)).symm.trans g0)).1, set_keep (z22 ((set_other (by decide)).symm.trans g0)).2⟩⟩⟩
      · as_aux_lemma =>
        obtain rfl := Option.some.inj ho
        have Z := hinv
        clear hinv ho hbel hN hdeps z0 z1 z2 z3 z4 z5 z6 z7 z8 z9 z10 z11 z12 z13 z14 z15 z16 z17 z18 z19 z20 z21 z22
        go_simp
        obtain ⟨hN, hbel, z0, z1, z2, z3, z4, z5, z6, z7, z8, z9, z10, z11, z12, z13, z14, z15, z16, z17, z18, z19, z20, z21, z22⟩ := Z.out
        exact hK _ _ ⟨_, _, _, _, _, _, _, _, _, _, _, _, _, _, _, _, rfl, Lib.hid ⟨by simpa using hN, hbel, fun g0 => (z0 ((set_other (by decide)).symm.trans g0)), fun g0 => (z1 ((set_other (by decide)).symm.trans g0)), fun g0 => (z2 ((set_other (by decide)).symm.trans g0)), fun _ => rfl, fun g0 => (z4 ((set_other (by decide)).symm.trans g0)), fun g0 => (z5 ((set_other (by decide)).symm.trans g0)), fun g0 => (z6 ((set_other (by decide)).symm.trans g0)), fun g0 => (z7 ((set_other (by decide)).symm.trans g0)), fun g0 => (z8 ((set_other (by decide)).symm.trans g0)), fun g0 => (z9 ((set_other (by decide)).symm.trans g0)), fun g0 => (z10 ((set_other (by decide)).symm.trans g0)), fun g0 => (z11 ((set_other (by decide)).symm.trans g0)), fun g0 => (z12 ((set_other (by decide)).symm.trans g0)), fun g0 => (z13 ((set_other (by decide)).symm.trans g0)), fun g0 => (z14 ((set_other (by decide)).symm.trans g0)), fun g0 => (z15 ((set_other (by decide)).symm.trans g0)), fun g0 g1 => (z16 ((set_other (by decide)).symm.trans g0) ((set_other (by decide)).symm.trans g1)), fun g0 => (z17 ((set_other (by decide)).symm.trans g0)), fun g0 => (z18 ((set_other (by decide)).symm.trans g0)), fun g0 => ⟨set_keep (z19 ((set_other (by decide)).symm.trans g0)).1, set_keep (z19 ((set_other (by decide)).symm.trans g0)).2⟩, fun g0 => ⟨set_keep (z20 ((set_other (by decide)).symm.trans g0)).1, set_keep (z20 ((set_other (by decide)).symm.trans g0)).2⟩, fun g0 => ⟨set_keep (z21 ((set_other (by decide)).symm.trans g0)).1, set_keep (z21 ((set_other (by decide)).symm.trans g0)).2⟩, fun g0 => ⟨set_keep (z22 ((set_other (by decide)).symm.trans g0)).1, set_keep (z22 ((set_other (by decide)).symm.trans g0)).2⟩⟩⟩
      · as_aux_lemma =>
        obtain rfl := Option.some.inj ho
        have e0 := z3 (dep (by simp [Region.binds] at hdeps ⊢; simp [hdeps]))
        subst e0
        obtain ⟨_, _, _, b0, b1, _, _, _, _, _, _, _, _, _, _, _, _, _, _⟩ := HS.out wz hbel
        have Z := hinv
        clear hinv ho hbel hN hdeps z0 z1 z2 z3 z4 z5 z6 z7 z8 z9 z10 z11 z12 z13 z14 z15 z16 z17 z18 z19 z20 z21 z22
        go_simp
        obtain ⟨hN, hbel, z0, z1, z2, z3, z4, z5, z6, z7, z8, z9, z10, z11, z12, z13, z14, z15, z16, z17, z18, z19, z20, z21, z22⟩ := Z.out
        exact hK _ _ ⟨_, _, _, _, _, _, _, _, _, _, _, _, _, _, _, _, rfl, Lib.hid ⟨by simpa using hN, hbel, fun g0 => (z0 ((set_other (by decide)).symm.trans g0)), fun g0 => (z1 ((set_other (by decide)).symm.trans g0)), fun g0 => (z2 ((set_other (by decide)).symm.trans g0)), fun g0 => (z3 ((set_other (by decide)).symm.trans g0)), fun _ => rfl, fun g0 => (z5 ((set_other (by decide)).symm.trans g0)), fun g0 => (z6 ((set_other (by decide)).symm.trans g0)), fun g0 => (z7 ((set_other (by decide)).symm.trans g0)), fun g0 => (z8 ((set_other (by decide)).symm.trans g0)), fun g0 => (z9 ((set_other (by decide)).symm.trans g0)), fun g0 => (z10 ((set_other (by decide)).symm.trans g0)), fun g0 => (z11 ((set_other (by decide)).symm.trans g0)), fun g0 => (z12 ((set_other (by decide)).symm.trans g0)), fun g0 => (z13 ((set_other (by decide)).symm.trans g0)), fun g0 => (z14 ((set_other (by decide)).symm.trans g0)), fun g0 => (z15 ((set_other (by decide)).symm.trans g0)), fun g0 g1 => (z16 ((set_other (by decide)).symm.trans g0) ((set_other (by decide)).symm.trans g1)), fun g0 => (z17 ((set_other (by decide)).symm.trans g0)), fun g0 => (z18 ((set_other (by decide)).symm.trans g0)), fun g0 => ⟨set_keep (z19 ((set_other (by decide)).symm.trans g0)).1, set_keep (z19 ((set_other (by decide)).symm.trans g0)).2⟩, fun g0 => ⟨set_keep (z20 ((set_other (by decide)).symm.trans g0)).1, set_keep (z20 ((set_other (by decide)).symm.trans g0)).2⟩, fun g0 => ⟨set_keep (z21 ((set_other (by decide)).symm.trans g0)).1, set_keep (z21 ((set_other (by decide)).symm.trans g0)).2⟩, fun g0 => ⟨set_keep (z22 ((set_other (by decide)).symm.trans g0)).1, set_keep (z22 ((set_other (by decide)).symm.trans g0)).2⟩⟩⟩
      · as_aux_lemma =>
        obtain rfl := Option.some.inj ho
        have e0 := z4 (dep (by simp [Region.binds] at hdeps ⊢; simp [hdeps]))
        subst e0
        have CC := Lib.hid (KS1.out wz hbel)
        have Z := hinv
        clear hinv ho hbel hN hdeps z0 z1 z2 z3 z4 z5 z6 z7 z8 z9 z10 z11 z12 z13 z14 z15 z16 z17 z18 z19 z20 z21 z22
        go_simp
        refine CC.out.mono ?_
        rintro e wq ⟨a, n, c, rfl, how, hb'⟩
        obtain ⟨hN, hbel, z0, z1, z2, z3, z4, z5, z6, z7, z8, z9, z10, z11, z12, z13, z14, z15, z16, z17, z18, z19, z20, z21, z22⟩ := Z.out
        exact hK _ _ ⟨_, _, _, _, _, _, _, _, _, _, _, _, _, _, _, _, rfl, Lib.hid ⟨by simpa using hN, hbel.trans (hb'.mono hbel.size), fun g0 => (z0 ((set_other (by decide)).symm.trans g0)), fun g0 => (z1 ((set_other (by decide)).symm.trans g0)), fun g0 => (z2 ((set_other (by decide)).symm.trans g0)).below hb', fun g0 => (z3 ((set_other (by decide)).symm.trans g0)), fun g0 => (z4 ((set_other (by decide)).symm.trans g0)), fun _ => ⟨a, n, c, rfl, how.base hbel.size⟩, fun g0 => not_done hL (z19 (((set_other (by decide)).symm.trans g0))).2, fun g0 => (z7 ((set_other (by decide)).symm.trans g0)), fun g0 => (z8 ((set_other (by decide)).symm.trans g0)), fun g0 => (z9 ((set_other (by decide)).symm.trans g0)).below hb', fun g0 => (z10 ((set_other (by decide)).symm.trans g0)), fun g0 => (z11 ((set_other (by decide)).symm.trans g0)), fun g0 => (z12 ((set_other (by decide)).symm.trans g0)).below hb', fun g0 => (z13 ((set_other (by decide)).symm.trans g0)).below hb', fun g0 => (z14 ((set_other (by decide)).symm.trans g0)).below hb', fun g0 => (z15 ((set_other (by decide)).symm.trans g0)).below hb', fun g0 g1 => (z16 ((set_other (by decide)).symm.trans g0) ((set_other (by decide)).symm.trans g1)), fun g0 => (z17 ((set_other (by decide)).symm.trans g0)).below hb', fun g0 => (z18 ((set_other (by decide)).symm.trans g0)).below hb', fun g0 => not_done hL (z19 (((set_other (by decide)).symm.trans g0))).2, fun g0 => ⟨set_keep (z20 ((set_other (by decide)).symm.trans g0)).1, set_keep (z20 ((set_other (by decide)).symm.trans g0)).2⟩, fun g0 => ⟨set_keep (z21 ((set_other (by decide)).symm.trans g0)).1, set_keep (z21 ((set_other (by decide)).symm.trans g0)).2⟩, fun g0 => ⟨set_keep (z22 ((set_other (by decide)).symm.trans g0)).1, set_keep (z22 ((set_other (by decide)).symm.trans g0)).2⟩⟩⟩
      · as_aux_lemma =>
        obtain rfl := Option.some.inj ho
        have hd1 : L[2]? = some true := (dep (by simp [Region.binds] at hdeps ⊢; simp [hdeps]))
        have hd2 : L[5]? = some true := (dep (by simp [Region.binds] at hdeps ⊢; simp [hdeps]))
        obtain ⟨a, n, c, e1, hl1⟩ := z2 hd1
        obtain ⟨b, m, d, e2, hl2⟩ := z5 hd2
        subst e1 e2
        have HL1 := Lib.hid hl1
        have HL2 := Lib.hid hl2
        clear hl1 hl2
        have Z := hinv
        clear hinv ho hbel hN hdeps z0 z1 z2 z3 z4 z5 z6 z7 z8 z9 z10 z11 z12 z13 z14 z15 z16 z17 z18 z19 z20 z21 z22
        go_simp
        obtain ⟨hN, hbel, z0, z1, z2, z3, z4, z5, z6, z7, z8, z9, z10, z11, z12, z13, z14, z15, z16, z17, z18, z19, z20, z21, z22⟩ := Z.out
        exact hK _ _ ⟨_, _, _, _, _, _, _, _, _, _, _, _, _, _, _, _, rfl, Lib.hid ⟨by simpa using hN, hbel, fun g0 => (z0 ((set_other (by decide)).symm.trans g0)), fun g0 => (z1 ((set_other (by decide)).symm.trans g0)), fun g0 => (z2 ((set_other (by decide)).symm.trans g0)), fun g0 => (z3 ((set_other (by decide)).symm.trans g0)), fun g0 => (z4 ((set_other (by decide)).symm.trans g0)), fun g0 => (z5 ((set_other (by decide)).symm.trans g0)), fun _ => ⟨a, n, c, b, m, d, rfl, HL1.out, HL2.out⟩, fun g0 => (z7 ((set_other (by decide)).symm.trans g0)), fun g0 => (z8 ((set_other (by decide)).symm.trans g0)), fun g0 => (z9 ((set_other (by decide)).symm.trans g0)), fun g0 => (z10 ((set_other (by decide)).symm.trans g0)), fun g0 => (z11 ((set_other (by decide)).symm.trans g0)), fun g0 => (z12 ((set_other (by decide)).symm.trans g0)), fun g0 => (z13 ((set_other (by decide)).symm.trans g0)), fun g0 => (z14 ((set_other (by decide)).symm.trans g0)), fun g0 => (z15 ((set_other (by decide)).symm.trans g0)), fun g0 g1 => (z16 ((set_other (by decide)).symm.trans g0) ((set_other (by decide)).symm.trans g1)), fun g0 => not_done hL (z21 (((set_other (by decide)).symm.trans g0))).2, fun g0 => (z18 ((set_other (by decide)).symm.trans g0)), fun _ => ⟨set_keep hd1, set_keep hd2⟩, fun g0 => ⟨set_keep (z20 ((set_other (by decide)).symm.trans g0)).1, set_keep (z20 ((set_other (by decide)).symm.trans g0)).2⟩, fun g0 => not_done hL (z21 (((set_other (by decide)).symm.trans g0))).2, fun g0 => ⟨set_keep (z22 ((set_other (by decide)).symm.trans g0)).1, set_keep (z22 ((set_other (by decide)).symm.trans g0)).2⟩⟩⟩
      · as_aux_lemma =>
        obtain rfl := Option.some.inj ho
        have Z := hinv
        clear hinv ho hbel hN hdeps z0 z1 z2 z3 z4 z5 z6 z7 z8 z9 z10 z11 z12 z13 z14 z15 z16 z17 z18 z19 z20 z21 z22
        go_simp
        obtain ⟨hN, hbel, z0, z1, z2, z3, z4, z5, z6, z7, z8, z9, z10, z11, z12, z13, z14, z15, z16, z17, z18, z19, z20, z21, z22⟩ := Z.out
        exact hK _ _ ⟨_, _, _, _, _, _, _, _, _, _, _, _, _, _, _, _, rfl, Lib.hid ⟨by simpa using hN, hbel, fun g0 => (z0 ((set_other (by decide)).symm.trans g0)), fun g0 => (z1 ((set_other (by decide)).symm.trans g0)), fun g0 => (z2 ((set_other (by decide)).symm.trans g0)), fun g0 => (z3 ((set_other (by decide)).symm.trans g0)), fun g0 => (z4 ((set_other (by decide)).symm.trans g0)), fun g0 => (z5 ((set_other (by decide)).symm.trans g0)), fun g0 => (z6 ((set_other (by decide)).symm.trans g0)), fun _ => rfl, fun g0 => (z8 ((set_other (by decide)).symm.trans g0)), fun g0 => (z9 ((set_other (by decide)).symm.trans g0)), fun g0 => (z10 ((set_other (by decide)).symm.trans g0)), fun g0 => (z11 ((set_other (by decide)).symm.trans g0)), fun g0 => (z12 ((set_other (by decide)).symm.trans g0)), fun g0 => (z13 ((set_other (by decide)).symm.trans g0)), fun g0 => (z14 ((set_other (by decide)).symm.trans g0)), fun g0 => (z15 ((set_other (by decide)).symm.trans g0)), fun g0 g1 => (z16 ((set_other (by decide)).symm.trans g0) ((set_other (by decide)).symm.trans g1)), fun g0 => (z17 ((set_other (by decide)).symm.trans g0)), fun g0 => (z18 ((set_other (by decide)).symm.trans g0)), fun g0 => ⟨set_keep (z19 ((set_other (by decide)).symm.trans g0)).1, set_keep (z19 ((set_other (by decide)).symm.trans g0)).2⟩, fun g0 => ⟨set_keep (z20 ((set_other (by decide)).symm.trans g0)).1, set_keep (z20 ((set_other (by decide)).symm.trans g0)).2⟩, fun g0 => ⟨set_keep (z21 ((set_other (by decide)).symm.trans g0)).1, set_keep (z21 ((set_other (by decide)).symm.trans g0)).2⟩, fun g0 => ⟨set_keep (z22 ((set_other (by decide)).symm.trans g0)).1, set_keep (z22 ((set_other (by decide)).symm.trans g0)).2⟩⟩⟩
      · as_aux_lemma =>
        obtain rfl := Option.some.inj ho
        have e0 := z7 (dep (by simp [Region.binds] at hdeps ⊢; simp [hdeps]))
        subst e0
        obtain ⟨_, _, _, _, _, b0, b1, _, _, _, _, _, _, _, _, _, _, _, _⟩ := HS.out wz hbel
        have Z := hinv
        clear hinv ho hbel hN hdeps z0 z1 z2 z3 z4 z5 z6 z7 z8 z9 z10 z11 z12 z13 z14 z15 z16 z17 z18 z19 z20 z21 z22
        go_simp
        obtain ⟨hN, hbel, z0, z1, z2, z3, z4, z5, z6, z7, z8, z9, z10, z11, z12, z13, z14, z15, z16, z17, z18, z19, z20, z21, z22⟩ := Z.out
        exact hK _ _ ⟨_, _, _, _, _, _, _, _, _, _, _, _, _, _, _, _, rfl, Lib.hid ⟨by simpa using hN, hbel, fun g0 => (z0 ((set_other (by decide)).symm.trans g0)), fun g0 => (z1 ((set_other (by decide)).symm.trans g0)), fun g0 => (z2 ((set_other (by decide)).symm.trans g0)), fun g0 => (z3 ((set_other (by decide)).symm.trans g0)), fun g0 => (z4 ((set_other (by decide)).symm.trans g0)), fun g0 => (z5 ((set_other (by decide)).symm.trans g0)), fun g0 => (z6 ((set_other (by decide)).symm.trans g0)), fun g0 => (z7 ((set_other (by decide)).symm.trans g0)), fun _ => rfl, fun g0 => (z9 ((set_other (by decide)).symm.trans g0)), fun g0 => (z10 ((set_other (by decide)).symm.trans g0)), fun g0 => (z11 ((set_other (by decide)).symm.trans g0)), fun g0 => (z12 ((set_other (by decide)).symm.trans g0)), fun g0 => (z13 ((set_other (by decide)).symm.trans g0)), fun g0 => (z14 ((set_other (by decide)).symm.trans g0)), fun g0 => (z15 ((set_other (by decide)).symm.trans g0)), fun g0 g1 => (z16 ((set_other (by decide)).symm.trans g0) ((set_other (by decide)).symm.trans g1)), fun g0 => (z17 ((set_other (by decide)).symm.trans g0)), fun g0 => (z18 ((set_other (by decide)).symm.trans g0)), fun g0 => ⟨set_keep (z19 ((set_other (by decide)).symm.trans g0)).1, set_keep (z19 ((set_other (by decide)).symm.trans g0)).2⟩, fun g0 => ⟨set_keep (z20 ((set_other (by decide)).symm.trans g0)).1, set_keep (z20 ((set_other (by decide)).symm.trans g0)).2⟩, fun g0 => ⟨set_keep (z21 ((set_other (by decide)).symm.trans g0)).1, set_keep (z21 ((set_other (by decide)).symm.trans g0)).2⟩, fun g0 => ⟨set_keep (z22 ((set_other (by decide)).symm.trans g0)).1, set_keep (z22 ((set_other (by decide)).symm.trans g0)).2⟩⟩⟩
      · as_aux_lemma =>
        obtain rfl := Option.some.inj ho
        have e0 := z8 (dep (by simp [Region.binds] at hdeps ⊢; simp [hdeps]))
        subst e0
        have CC := Lib.hid (KS2.out wz hbel)
        have Z := hinv
        clear hinv ho hbel hN hdeps z0 z1 z2 z3 z4 z5 z6 z7 z8 z9 z10 z11 z12 z13 z14 z15 z16 z17 z18 z19 z20 z21 z22
        go_simp
        refine CC.out.mono ?_
        rintro e wq ⟨a, n, c, rfl, how, hb'⟩
        obtain ⟨hN, hbel, z0, z1, z2, z3, z4, z5, z6, z7, z8, z9, z10, z11, z12, z13, z14, z15, z16, z17, z18, z19, z20, z21, z22⟩ := Z.out
        exact hK _ _ ⟨_, _, _, _, _, _, _, _, _, _, _, _, _, _, _, _, rfl, Lib.hid ⟨by simpa using hN, hbel.trans (hb'.mono hbel.size), fun g0 => (z0 ((set_other (by decide)).symm.trans g0)), fun g0 => (z1 ((set_other (by decide)).symm.trans g0)), fun g0 => (z2 ((set_other (by decide)).symm.trans g0)).below hb', fun g0 => (z3 ((set_other (by decide)).symm.trans g0)), fun g0 => (z4 ((set_other (by decide)).symm.trans g0)), fun g0 => (z5 ((set_other (by decide)).symm.trans g0)).below hb', fun g0 => (z6 ((set_other (by decide)).symm.trans g0)).below hb', fun g0 => (z7 ((set_other (by decide)).symm.trans g0)), fun g0 => (z8 ((set_other (by decide)).symm.trans g0)), fun _ => ⟨a, n, c, rfl, how.base hbel.size⟩, fun g0 => (z10 ((set_other (by decide)).symm.trans g0)), fun g0 => (z11 ((set_other (by decide)).symm.trans g0)), fun g0 => (z12 ((set_other (by decide)).symm.trans g0)).below hb', fun g0 => not_done hL (z20 (((set_other (by decide)).symm.trans g0))).1, fun g0 => (z14 ((set_other (by decide)).symm.trans g0)).below hb', fun g0 => (z15 ((set_other (by decide)).symm.trans g0)).below hb', fun g0 g1 => (z16 ((set_other (by decide)).symm.trans g0) ((set_other (by decide)).symm.trans g1)), fun g0 => (z17 ((set_other (by decide)).symm.trans g0)).below hb', fun g0 => (z18 ((set_other (by decide)).symm.trans g0)).below hb', fun g0 => ⟨set_keep (z19 ((set_other (by decide)).symm.trans g0)).1, set_keep (z19 ((set_other (by decide)).symm.trans g0)).2⟩, fun g0 => not_done hL (z20 (((set_other (by decide)).symm.trans g0))).1, fun g0 => ⟨set_keep (z21 ((set_other (by decide)).symm.trans g0)).1, set_keep (z21 ((set_other (by decide)).symm.trans g0)).2⟩, fun g0 => ⟨set_keep (z22 ((set_other (by decide)).symm.trans g0)).1, set_keep (z22 ((set_other (by decide)).symm.trans g0)).2⟩⟩⟩
      · as_aux_lemma =>
        obtain rfl := Option.some.inj ho
        have Z := hinv
        clear hinv ho hbel hN hdeps z0 z1 z2 z3 z4 z5 z6 z7 z8 z9 z10 z11 z12 z13 z14 z15 z16 z17 z18 z19 z20 z21 z22
        go_simp
        obtain ⟨hN, hbel, z0, z1, z2, z3, z4, z5, z6, z7, z8, z9, z10, z11, z12, z13, z14, z15, z16, z17, z18, z19, z20, z21, z22⟩ := Z.out
        exact hK _ _ ⟨_, _, _, _, _, _, _, _, _, _, _, _, _, _, _, _, rfl, Lib.hid ⟨by simpa using hN, hbel, fun g0 => (z0 ((set_other (by decide)).symm.trans g0)), fun g0 => (z1 ((set_other (by decide)).symm.trans g0)), fun g0 => (z2 ((set_other (by decide)).symm.trans g0)), fun g0 => (z3 ((set_other (by decide)).symm.trans g0)), fun g0 => (z4 ((set_other (by decide)).symm.trans g0)), fun g0 => (z5 ((set_other (by decide)).symm.trans g0)), fun g0 => (z6 ((set_other (by decide)).symm.trans g0)), fun g0 => (z7 ((set_other (by decide)).symm.trans g0)), fun g0 => (z8 ((set_other (by decide)).symm.trans g0)), fun g0 => (z9 ((set_other (by decide)).symm.trans g0)), fun _ => rfl, fun g0 => (z11 ((set_other (by decide)).symm.trans g0)), fun g0 => (z12 ((set_other (by decide)).symm.trans g0)), fun g0 => (z13 ((set_other (by decide)).symm.trans g0)), fun g0 => (z14 ((set_other (by decide)).symm.trans g0)), fun g0 => (z15 ((set_other (by decide)).symm.trans g0)), fun g0 g1 => (z16 ((set_other (by decide)).symm.trans g0) ((set_other (by decide)).symm.trans g1)), fun g0 => (z17 ((set_other (by decide)).symm.trans g0)), fun g0 => (z18 ((set_other (by decide)).symm.trans g0)), fun g0 => ⟨set_keep (z19 ((set_other (by decide)).symm.trans g0)).1, set_keep (z19 ((set_other (by decide)).symm.trans g0)).2⟩, fun g0 => ⟨set_keep (z20 ((set_other (by decide)).symm.trans g0)).1, set_keep (z20 ((set_other (by decide)).symm.trans g0)).2⟩, fun g0 => ⟨set_keep (z21 ((set_other (by decide)).symm.trans g0)).1, set_keep (z21 ((set_other (by decide)).symm.trans g0)).2⟩, fun g0 => ⟨set_keep (z22 ((set_other (by decide)).symm.trans g0)).1, set_keep (z22 ((set_other (by decide)).symm.trans g0)).2⟩⟩⟩
      · as_aux_lemma =>
        obtain rfl := Option.some.inj ho
        have e0 := z10 (dep (by simp [Region.binds] at hdeps ⊢; simp [hdeps]))
        subst e0
        obtain ⟨_, _, _, _, _, _, _, b0, b1, _, _, _, _, _, _, _, _, _, _⟩ := HS.out wz hbel
        have Z := hinv
        clear hinv ho hbel hN hdeps z0 z1 z2 z3 z4 z5 z6 z7 z8 z9 z10 z11 z12 z13 z14 z15 z16 z17 z18 z19 z20 z21 z22
        go_simp
        obtain ⟨hN, hbel, z0, z1, z2, z3, z4, z5, z6, z7, z8, z9, z10, z11, z12, z13, z14, z15, z16, z17, z18, z19, z20, z21, z22⟩ := Z.out
        exact hK _ _ ⟨_, _, _, _, _, _, _, _, _, _, _, _, _, _, _, _, rfl, Lib.hid ⟨by simpa using hN, hbel, fun g0 => (z0 ((set_other (by decide)).symm.trans g0)), fun g0 => (z1 ((set_other (by decide)).symm.trans g0)), fun g0 => (z2 ((set_other (by decide)).symm.trans g0)), fun g0 => (z3 ((set_other (by decide)).symm.trans g0)), fun g0 => (z4 ((set_other (by decide)).symm.trans g0)), fun g0 => (z5 ((set_other (by decide)).symm.trans g0)), fun g0 => (z6 ((set_other (by decide)).symm.trans g0)), fun g0 => (z7 ((set_other (by decide)).symm.trans g0)), fun g0 => (z8 ((set_other (by decide)).symm.trans g0)), fun g0 => (z9 ((set_other (by decide)).symm.trans g0)), fun g0 => (z10 ((set_other (by decide)).symm.trans g0)), fun _ => rfl, fun g0 => (z12 ((set_other (by decide)).symm.trans g0)), fun g0 => (z13 ((set_other (by decide)).symm.trans g0)), fun g0 => (z14 ((set_other (by decide)).symm.trans g0)), fun g0 => (z15 ((set_other (by decide)).symm.trans g0)), fun g0 g1 => (z16 ((set_other (by decide)).symm.trans g0) ((set_other (by decide)).symm.trans g1)), fun g0 => (z17 ((set_other (by decide)).symm.trans g0)), fun g0 => (z18 ((set_other (by decide)).symm.trans g0)), fun g0 => ⟨set_keep (z19 ((set_other (by decide)).symm.trans g0)).1, set_keep (z19 ((set_other (by decide)).symm.trans g0)).2⟩, fun g0 => ⟨set_keep (z20 ((set_other (by decide)).symm.trans g0)).1, set_keep (z20 ((set_other (by decide)).symm.trans g0)).2⟩, fun g0 => ⟨set_keep (z21 ((set_other (by decide)).symm.trans g0)).1, set_keep (z21 ((set_other (by decide)).symm.trans g0)).2⟩, fun g0 => ⟨set_keep (z22 ((set_other (by decide)).symm.trans g0)).1, set_keep (z22 ((set_other (by decide)).symm.trans g0)).2⟩⟩⟩
      · as_aux_lemma =>
        obtain rfl := Option.some.inj ho
        have e0 := z11 (dep (by simp [Region.binds] at hdeps ⊢; simp [hdeps]))
        subst e0
        have CC := Lib.hid (KS3.out wz hbel)
        have Z := hinv
        clear hinv ho hbel hN hdeps z0 z1 z2 z3 z4 z5 z6 z7 z8 z9 z10 z11 z12 z13 z14 z15 z16 z17 z18 z19 z20 z21 z22
        go_simp
        refine CC.out.mono ?_
        rintro e wq ⟨a, n, c, rfl, how, hb'⟩
        obtain ⟨hN, hbel, z0, z1, z2, z3, z4, z5, z6, z7, z8, z9, z10, z11, z12, z13, z14, z15, z16, z17, z18, z19, z20, z21, z22⟩ := Z.out
        exact hK _ _ ⟨_, _, _, _, _, _, _, _, _, _, _, _, _, _, _, _, rfl, Lib.hid ⟨by simpa using hN, hbel.trans (hb'.mono hbel.size), fun g0 => (z0 ((set_other (by decide)).symm.trans g0)), fun g0 => (z1 ((set_other (by decide)).symm.trans g0)), fun g0 => (z2 ((set_other (by decide)).symm.trans g0)).below hb', fun g0 => (z3 ((set_other (by decide)).symm.trans g0)), fun g0 => (z4 ((set_other (by decide)).symm.trans g0)), fun g0 => (z5 ((set_other (by decide)).symm.trans g0)).below hb', fun g0 => (z6 ((set_other (by decide)).symm.trans g0)).below hb', fun g0 => (z7 ((set_other (by decide)).symm.trans g0)), fun g0 => (z8 ((set_other (by decide)).symm.trans g0)), fun g0 => (z9 ((set_other (by decide)).symm.trans g0)).below hb', fun g0 => (z10 ((set_other (by decide)).symm.trans g0)), fun g0 => (z11 ((set_other (by decide)).symm.trans g0)), fun _ => ⟨a, n, c, rfl, how.base hbel.size⟩, fun g0 => not_done hL (z20 (((set_other (by decide)).symm.trans g0))).2, fun g0 => (z14 ((set_other (by decide)).symm.trans g0)).below hb', fun g0 => (z15 ((set_other (by decide)).symm.trans g0)).below hb', fun g0 g1 => (z16 ((set_other (by decide)).symm.trans g0) ((set_other (by decide)).symm.trans g1)), fun g0 => (z17 ((set_other (by decide)).symm.trans g0)).below hb', fun g0 => (z18 ((set_other (by decide)).symm.trans g0)).below hb', fun g0 => ⟨set_keep (z19 ((set_other (by decide)).symm.trans g0)).1, set_keep (z19 ((set_other (by decide)).symm.trans g0)).2⟩, fun g0 => not_done hL (z20 (((set_other (by decide)).symm.trans g0))).2, fun g0 => ⟨set_keep (z21 ((set_other (by decide)).symm.trans g0)).1, set_keep (z21 ((set_other (by decide)).symm.trans g0)).2⟩, fun g0 => ⟨set_keep (z22 ((set_other (by decide)).symm.trans g0)).1, set_keep (z22 ((set_other (by decide)).symm.trans g0)).2⟩⟩⟩
      · as_aux_lemma =>
        obtain rfl := Option.some.inj ho
        have hd1 : L[9]? = some true := (dep (by simp [Region.binds] at hdeps ⊢; simp [hdeps]))
        have hd2 : L[12]? = some true := (dep (by simp [Region.binds] at hdeps ⊢; simp [hdeps]))
        obtain ⟨a, n, c, e1, hl1⟩ := z9 hd1
        obtain ⟨b, m, d, e2, hl2⟩ := z12 hd2
        subst e1 e2
        have HL1 := Lib.hid hl1
        have HL2 := Lib.hid hl2
        clear hl1 hl2
        have Z := hinv
        clear hinv ho hbel hN hdeps z0 z1 z2 z3 z4 z5 z6 z7 z8 z9 z10 z11 z12 z13 z14 z15 z16 z17 z18 z19 z20 z21 z22
        go_simp
        obtain ⟨hN, hbel, z0, z1, z2, z3, z4, z5, z6, z7, z8, z9, z10, z11, z12, z13, z14, z15, z16, z17, z18, z19, z20, z21, z22⟩ := Z.out
        exact hK _ _ ⟨_, _, _, _, _, _, _, _, _, _, _, _, _, _, _, _, rfl, Lib.hid ⟨by simpa using hN, hbel, fun g0 => (z0 ((set_other (by decide)).symm.trans g0)), fun g0 => (z1 ((set_other (by decide)).symm.trans g0)), fun g0 => (z2 ((set_other (by decide)).symm.trans g0)), fun g0 => (z3 ((set_other (by decide)).symm.trans g0)), fun g0 => (z4 ((set_other (by decide)).symm.trans g0)), fun g0 => (z5 ((set_other (by decide)).symm.trans g0)), fun g0 => (z6 ((set_other (by decide)).symm.trans g0)), fun g0 => (z7 ((set_other (by decide)).symm.trans g0)), fun g0 => (z8 ((set_other (by decide)).symm.trans g0)), fun g0 => (z9 ((set_other (by decide)).symm.trans g0)), fun g0 => (z10 ((set_other (by decide)).symm.trans g0)), fun g0 => (z11 ((set_other (by decide)).symm.trans g0)), fun g0 => (z12 ((set_other (by decide)).symm.trans g0)), fun _ => ⟨a, n, c, b, m, d, rfl, HL1.out, HL2.out⟩, fun g0 => (z14 ((set_other (by decide)).symm.trans g0)), fun g0 => (z15 ((set_other (by decide)).symm.trans g0)), fun g0 g1 => (z16 ((set_other (by decide)).symm.trans g0) ((set_other (by decide)).symm.trans g1)), fun g0 => (z17 ((set_other (by decide)).symm.trans g0)), fun g0 => not_done hL (z22 (((set_other (by decide)).symm.trans g0))).2, fun g0 => ⟨set_keep (z19 ((set_other (by decide)).symm.trans g0)).1, set_keep (z19 ((set_other (by decide)).symm.trans g0)).2⟩, fun _ => ⟨set_keep hd1, set_keep hd2⟩, fun g0 => ⟨set_keep (z21 ((set_other (by decide)).symm.trans g0)).1, set_keep (z21 ((set_other (by decide)).symm.trans g0)).2⟩, fun g0 => not_done hL (z22 (((set_other (by decide)).symm.trans g0))).2⟩⟩
      · as_aux_lemma =>
        obtain rfl := Option.some.inj ho
        have Z := hinv
        clear hinv ho hbel hN hdeps z0 z1 z2 z3 z4 z5 z6 z7 z8 z9 z10 z11 z12 z13 z14 z15 z16 z17 z18 z19 z20 z21 z22
        go_simp
        obtain ⟨hN, hbel, z0, z1, z2, z3, z4, z5, z6, z7, z8, z9, z10, z11, z12, z13, z14, z15, z16, z17, z18, z19, z20, z21, z22⟩ := Z.out
        have hb' := below_alloc1 wz (Obj.cells #[.int .i64 0, .slice none 0 0, .int .i64 0, .slice none 0 0] 32)
        exact hK _ _ ⟨_, _, _, _, _, _, _, _, _, _, _, _, _, _, _, _, rfl, Lib.hid ⟨by simpa using hN, hbel.trans (hb'.mono hbel.size), fun g0 => (z0 ((set_other (by decide)).symm.trans g0)), fun g0 => (z1 ((set_other (by decide)).symm.trans g0)), fun g0 => (z2 ((set_other (by decide)).symm.trans g0)).below hb', fun g0 => (z3 ((set_other (by decide)).symm.trans g0)), fun g0 => (z4 ((set_other (by decide)).symm.trans g0)), fun g0 => (z5 ((set_other (by decide)).symm.trans g0)).below hb', fun g0 => (z6 ((set_other (by decide)).symm.trans g0)).below hb', fun g0 => (z7 ((set_other (by decide)).symm.trans g0)), fun g0 => (z8 ((set_other (by decide)).symm.trans g0)), fun g0 => (z9 ((set_other (by decide)).symm.trans g0)).below hb', fun g0 => (z10 ((set_other (by decide)).symm.trans g0)), fun g0 => (z11 ((set_other (by decide)).symm.trans g0)), fun g0 => (z12 ((set_other (by decide)).symm.trans g0)).below hb', fun g0 => (z13 ((set_other (by decide)).symm.trans g0)).below hb', fun _ => N4.new _ _ _ _ _ _ hbel.size, fun g0 => (z15 ((set_other (by decide)).symm.trans g0)).below hb', fun g0 g1 => ((z15 ((set_other (by decide)).symm.trans g1)).lt).symm, fun g0 => not_done hL (z21 (((set_other (by decide)).symm.trans g0))).1, fun g0 => (z18 ((set_other (by decide)).symm.trans g0)).below hb', fun g0 => ⟨set_keep (z19 ((set_other (by decide)).symm.trans g0)).1, set_keep (z19 ((set_other (by decide)).symm.trans g0)).2⟩, fun g0 => ⟨set_keep (z20 ((set_other (by decide)).symm.trans g0)).1, set_keep (z20 ((set_other (by decide)).symm.trans g0)).2⟩, fun g0 => not_done hL (z21 (((set_other (by decide)).symm.trans g0))).1, fun g0 => ⟨set_keep (z22 ((set_other (by decide)).symm.trans g0)).1, set_keep (z22 ((set_other (by decide)).symm.trans g0)).2⟩⟩⟩
      · as_aux_lemma =>
        obtain rfl := Option.some.inj ho
        have Z := hinv
        clear hinv ho hbel hN hdeps z0 z1 z2 z3 z4 z5 z6 z7 z8 z9 z10 z11 z12 z13 z14 z15 z16 z17 z18 z19 z20 z21 z22
        go_simp
        obtain ⟨hN, hbel, z0, z1, z2, z3, z4, z5, z6, z7, z8, z9, z10, z11, z12, z13, z14, z15, z16, z17, z18, z19, z20, z21, z22⟩ := Z.out
        have hb' := below_alloc1 wz (Obj.cells #[.int .i64 0, .slice none 0 0, .int .i64 0, .slice none 0 0] 32)
        exact hK _ _ ⟨_, _, _, _, _, _, _, _, _, _, _, _, _, _, _, _, rfl, Lib.hid ⟨by simpa using hN, hbel.trans (hb'.mono hbel.size), fun g0 => (z0 ((set_other (by decide)).symm.trans g0)), fun g0 => (z1 ((set_other (by decide)).symm.trans g0)), fun g0 => (z2 ((set_other (by decide)).symm.trans g0)).below hb', fun g0 => (z3 ((set_other (by decide)).symm.trans g0)), fun g0 => (z4 ((set_other (by decide)).symm.trans g0)), fun g0 => (z5 ((set_other (by decide)).symm.trans g0)).below hb', fun g0 => (z6 ((set_other (by decide)).symm.trans g0)).below hb', fun g0 => (z7 ((set_other (by decide)).symm.trans g0)), fun g0 => (z8 ((set_other (by decide)).symm.trans g0)), fun g0 => (z9 ((set_other (by decide)).symm.trans g0)).below hb', fun g0 => (z10 ((set_other (by decide)).symm.trans g0)), fun g0 => (z11 ((set_other (by decide)).symm.trans g0)), fun g0 => (z12 ((set_other (by decide)).symm.trans g0)).below hb', fun g0 => (z13 ((set_other (by decide)).symm.trans g0)).below hb', fun g0 => (z14 ((set_other (by decide)).symm.trans g0)).below hb', fun _ => N4.new _ _ _ _ _ _ hbel.size, fun g0 g1 => (z14 ((set_other (by decide)).symm.trans g0)).lt, fun g0 => (z17 ((set_other (by decide)).symm.trans g0)).below hb', fun g0 => not_done hL (z22 (((set_other (by decide)).symm.trans g0))).1, fun g0 => ⟨set_keep (z19 ((set_other (by decide)).symm.trans g0)).1, set_keep (z19 ((set_other (by decide)).symm.trans g0)).2⟩, fun g0 => ⟨set_keep (z20 ((set_other (by decide)).symm.trans g0)).1, set_keep (z20 ((set_other (by decide)).symm.trans g0)).2⟩, fun g0 => ⟨set_keep (z21 ((set_other (by decide)).symm.trans g0)).1, set_keep (z21 ((set_other (by decide)).symm.trans g0)).2⟩, fun g0 => not_done hL (z22 (((set_other (by decide)).symm.trans g0))).1⟩⟩
      · as_aux_lemma =>
        obtain rfl := Option.some.inj ho
        have hds : L[14]? = some true ∧ L[15]? = some true ∧ L[6]? = some true := by
          simp [Region.binds] at hdeps
          refine ⟨?_, ?_, ?_⟩ <;> (refine dep ?_; simp [hdeps])
        obtain ⟨d14, d15, d6⟩ := hds
        obtain ⟨A0, hA1, hA2, x0, u0, v0, t0, hA3⟩ := z14 d14
        obtain ⟨a, n, c, b, m, d, hc1, hc2, hc3⟩ := z6 d6
        subst hA1 hc1
        obtain ⟨⟨s0, s1, s2, s3⟩, ⟨s5, s6, s7, s8⟩, s4⟩ := old4 wz A0 32 _ _ _ _ (.int .i64 D0) (.slice a n c) (.int .i64 D1) (.slice b m d) hA3
        clear hc3
        have S4 := Lib.hid s4
        have HA3 := Lib.hid hA3
        have HA2 := Lib.hid hA2
        clear s4 hA2 hA3 hc2
        have Z := hinv
        clear hinv ho hbel hN hdeps z0 z1 z2 z3 z4 z5 z6 z7 z8 z9 z10 z11 z12 z13 z14 z15 z16 z17 z18 z19 z20 z21 z22
        go_simp
        clear s0 s1 s2 s3 s5 s6 s7 s8
        obtain ⟨hN, hbel, z0, z1, z2, z3, z4, z5, z6, z7, z8, z9, z10, z11, z12, z13, z14, z15, z16, z17, z18, z19, z20, z21, z22⟩ := Z.out
        have hbut := but_set4 wz A0 (.int .i64 D0) (.slice a n c) (.int .i64 D1) (.slice b m d)
        exact hK _ _ ⟨_, _, _, _, _, _, _, _, _, _, _, _, _, _, _, _, rfl, Lib.hid ⟨by simpa using hN, below_set4 hbel HA2.out (.int .i64 D0) (.slice a n c) (.int .i64 D1) (.slice b m d), fun g0 => (z0 ((set_other (by decide)).symm.trans g0)), fun g0 => (z1 ((set_other (by decide)).symm.trans g0)), fun g0 => (z2 ((set_other (by decide)).symm.trans g0)).set4 HA3.out (by decide) (.int .i64 D0) (.slice a n c) (.int .i64 D1) (.slice b m d), fun g0 => (z3 ((set_other (by decide)).symm.trans g0)), fun g0 => (z4 ((set_other (by decide)).symm.trans g0)), fun g0 => (z5 ((set_other (by decide)).symm.trans g0)).set4 HA3.out (by decide) (.int .i64 D0) (.slice a n c) (.int .i64 D1) (.slice b m d), fun g0 => (z6 ((set_other (by decide)).symm.trans g0)).set4 HA3.out (by decide) (.int .i64 D0) (.slice a n c) (.int .i64 D1) (.slice b m d), fun g0 => (z7 ((set_other (by decide)).symm.trans g0)), fun g0 => (z8 ((set_other (by decide)).symm.trans g0)), fun g0 => (z9 ((set_other (by decide)).symm.trans g0)).set4 HA3.out (by decide) (.int .i64 D0) (.slice a n c) (.int .i64 D1) (.slice b m d), fun g0 => (z10 ((set_other (by decide)).symm.trans g0)), fun g0 => (z11 ((set_other (by decide)).symm.trans g0)), fun g0 => (z12 ((set_other (by decide)).symm.trans g0)).set4 HA3.out (by decide) (.int .i64 D0) (.slice a n c) (.int .i64 D1) (.slice b m d), fun g0 => (z13 ((set_other (by decide)).symm.trans g0)).set4 HA3.out (by decide) (.int .i64 D0) (.slice a n c) (.int .i64 D1) (.slice b m d), fun g0 => ⟨A0, rfl, HA2.out, _, _, _, _, S4.out⟩, fun g0 => (z15 ((set_other (by decide)).symm.trans g0)).but hbut ((z16 d14 d15)).symm, fun g0 g1 => (z16 ((set_other (by decide)).symm.trans g0) ((set_other (by decide)).symm.trans g1)), fun _ => ⟨A0, _, rfl, rfl, S4.out⟩, fun g0 => (z18 ((set_other (by decide)).symm.trans g0)).but hbut ((z16 d14 d15)).symm, fun g0 => ⟨set_keep (z19 ((set_other (by decide)).symm.trans g0)).1, set_keep (z19 ((set_other (by decide)).symm.trans g0)).2⟩, fun g0 => ⟨set_keep (z20 ((set_other (by decide)).symm.trans g0)).1, set_keep (z20 ((set_other (by decide)).symm.trans g0)).2⟩, fun _ => ⟨set_keep d14, set_keep d6⟩, fun g0 => ⟨set_keep (z22 ((set_other (by decide)).symm.trans g0)).1, set_keep (z22 ((set_other (by decide)).symm.trans g0)).2⟩⟩⟩
      · as_aux_lemma =>
        obtain rfl := Option.some.inj ho
        have hds : L[15]? = some true ∧ L[14]? = some true ∧ L[13]? = some true := by
          simp [Region.binds] at hdeps
          refine ⟨?_, ?_, ?_⟩ <;> (refine dep ?_; simp [hdeps])
        obtain ⟨d15, d14, d13⟩ := hds
        obtain ⟨A0, hA1, hA2, x0, u0, v0, t0, hA3⟩ := z15 d15
        obtain ⟨a, n, c, b, m, d, hc1, hc2, hc3⟩ := z13 d13
        subst hA1 hc1
        obtain ⟨⟨s0, s1, s2, s3⟩, ⟨s5, s6, s7, s8⟩, s4⟩ := old4 wz A0 32 _ _ _ _ (.int .i64 D2) (.slice a n c) (.int .i64 D3) (.slice b m d) hA3
        clear hc3
        have S4 := Lib.hid s4
        have HA3 := Lib.hid hA3
        have HA2 := Lib.hid hA2
        clear s4 hA2 hA3 hc2
        have Z := hinv
        clear hinv ho hbel hN hdeps z0 z1 z2 z3 z4 z5 z6 z7 z8 z9 z10 z11 z12 z13 z14 z15 z16 z17 z18 z19 z20 z21 z22
        go_simp
        clear s0 s1 s2 s3 s5 s6 s7 s8
        obtain ⟨hN, hbel, z0, z1, z2, z3, z4, z5, z6, z7, z8, z9, z10, z11, z12, z13, z14, z15, z16, z17, z18, z19, z20, z21, z22⟩ := Z.out
        have hbut := but_set4 wz A0 (.int .i64 D2) (.slice a n c) (.int .i64 D3) (.slice b m d)
        exact hK _ _ ⟨_, _, _, _, _, _, _, _, _, _, _, _, _, _, _, _, rfl, Lib.hid ⟨by simpa using hN, below_set4 hbel HA2.out (.int .i64 D2) (.slice a n c) (.int .i64 D3) (.slice b m d), fun g0 => (z0 ((set_other (by decide)).symm.trans g0)), fun g0 => (z1 ((set_other (by decide)).symm.trans g0)), fun g0 => (z2 ((set_other (by decide)).symm.trans g0)).set4 HA3.out (by decide) (.int .i64 D2) (.slice a n c) (.int .i64 D3) (.slice b m d), fun g0 => (z3 ((set_other (by decide)).symm.trans g0)), fun g0 => (z4 ((set_other (by decide)).symm.trans g0)), fun g0 => (z5 ((set_other (by decide)).symm.trans g0)).set4 HA3.out (by decide) (.int .i64 D2) (.slice a n c) (.int .i64 D3) (.slice b m d), fun g0 => (z6 ((set_other (by decide)).symm.trans g0)).set4 HA3.out (by decide) (.int .i64 D2) (.slice a n c) (.int .i64 D3) (.slice b m d), fun g0 => (z7 ((set_other (by decide)).symm.trans g0)), fun g0 => (z8 ((set_other (by decide)).symm.trans g0)), fun g0 => (z9 ((set_other (by decide)).symm.trans g0)).set4 HA3.out (by decide) (.int .i64 D2) (.slice a n c) (.int .i64 D3) (.slice b m d), fun g0 => (z10 ((set_other (by decide)).symm.trans g0)), fun g0 => (z11 ((set_other (by decide)).symm.trans g0)), fun g0 => (z12 ((set_other (by decide)).symm.trans g0)).set4 HA3.out (by decide) (.int .i64 D2) (.slice a n c) (.int .i64 D3) (.slice b m d), fun g0 => (z13 ((set_other (by decide)).symm.trans g0)).set4 HA3.out (by decide) (.int .i64 D2) (.slice a n c) (.int .i64 D3) (.slice b m d), fun g0 => (z14 ((set_other (by decide)).symm.trans g0)).but hbut (z16 d14 d15), fun g0 => ⟨A0, rfl, HA2.out, _, _, _, _, S4.out⟩, fun g0 g1 => (z16 ((set_other (by decide)).symm.trans g0) ((set_other (by decide)).symm.trans g1)), fun g0 => (z17 ((set_other (by decide)).symm.trans g0)).but hbut (z16 d14 d15), fun _ => ⟨A0, _, rfl, rfl, S4.out⟩, fun g0 => ⟨set_keep (z19 ((set_other (by decide)).symm.trans g0)).1, set_keep (z19 ((set_other (by decide)).symm.trans g0)).2⟩, fun g0 => ⟨set_keep (z20 ((set_other (by decide)).symm.trans g0)).1, set_keep (z20 ((set_other (by decide)).symm.trans g0)).2⟩, fun g0 => ⟨set_keep (z21 ((set_other (by decide)).symm.trans g0)).1, set_keep (z21 ((set_other (by decide)).symm.trans g0)).2⟩, fun _ => ⟨set_keep d15, set_keep d13⟩⟩⟩
    case fin1 =>
      intro L a wz hI hr
      obtain ⟨y5, y6, y17, y18, y19, y20, y21, y22, y23, y24, y25, y26, y27, y28, y29, y30, rfl, hinv⟩ := hI
      obtain ⟨hN, hbel, z0, z1, z2, z3, z4, z5, z6, z7, z8, z9, z10, z11, z12, z13, z14, z15, z16, z17, z18, z19, z20, z21, z22⟩ := hinv.out
      have f0 : L[0]? = some true := by
        cases hb : L[0]? with
        | none => have := (Array.getElem?_eq_none_iff.1 hb); omega
        | some b =>
          cases b with
          | true => rfl
          | false => exact (ready_nil hr hb (by rfl) (by simp [Region.binds])).elim
      have f1 : L[1]? = some true := by
        cases hb : L[1]? with
        | none => have := (Array.getElem?_eq_none_iff.1 hb); omega
        | some b =>
          cases b with
          | true => rfl
          | false => exact (ready_nil hr hb (by rfl) (by simp [Region.binds, f0])).elim
      have f2 : L[2]? = some true := by
        cases hb : L[2]? with
        | none => have := (Array.getElem?_eq_none_iff.1 hb); omega
        | some b =>
          cases b with
          | true => rfl
          | false => exact (ready_nil hr hb (by rfl) (by simp [Region.binds, f0, f1])).elim
      have f3 : L[3]? = some true := by
        cases hb : L[3]? with
        | none => have := (Array.getElem?_eq_none_iff.1 hb); omega
        | some b =>
          cases b with
          | true => rfl
          | false => exact (ready_nil hr hb (by rfl) (by simp [Region.binds, f0, f1, f2])).elim
      have f4 : L[4]? = some true := by
        cases hb : L[4]? with
        | none => have := (Array.getElem?_eq_none_iff.1 hb); omega
        | some b =>
          cases b with
          | true => rfl
          | false => exact (ready_nil hr hb (by rfl) (by simp [Region.binds, f0, f1, f2, f3])).elim
      have f5 : L[5]? = some true := by
        cases hb : L[5]? with
        | none => have := (Array.getElem?_eq_none_iff.1 hb); omega
        | some b =>
          cases b with
          | true => rfl
          | false => exact (ready_nil hr hb (by rfl) (by simp [Region.binds, f0, f1, f2, f3, f4])).elim
      have f6 : L[6]? = some true := by
        cases hb : L[6]? with
        | none => have := (Array.getElem?_eq_none_iff.1 hb); omega
        | some b =>
          cases b with
          | true => rfl
          | false => exact (ready_nil hr hb (by rfl) (by simp [Region.binds, f0, f1, f2, f3, f4, f5])).elim
      have f7 : L[7]? = some true := by
        cases hb : L[7]? with
        | none => have := (Array.getElem?_eq_none_iff.1 hb); omega
        | some b =>
          cases b with
          | true => rfl
          | false => exact (ready_nil hr hb (by rfl) (by simp [Region.binds, f0, f1, f2, f3, f4, f5, f6])).elim
      have f8 : L[8]? = some true := by
        cases hb : L[8]? with
        | none => have := (Array.getElem?_eq_none_iff.1 hb); omega
        | some b =>
          cases b with
          | true => rfl
          | false => exact (ready_nil hr hb (by rfl) (by simp [Region.binds, f0, f1, f2, f3, f4, f5, f6, f7])).elim
      have f9 : L[9]? = some true := by
        cases hb : L[9]? with
        | none => have := (Array.getElem?_eq_none_iff.1 hb); omega
        | some b =>
          cases b with
          | true => rfl
          | false => exact (ready_nil hr hb (by rfl) (by simp [Region.binds, f0, f1, f2, f3, f4, f5, f6, f7, f8])).elim
      have f10 : L[10]? = some true := by
        cases hb : L[10]? with
        | none => have := (Array.getElem?_eq_none_iff.1 hb); omega
        | some b =>
          cases b with
          | true => rfl
          | false => exact (ready_nil hr hb (by rfl) (by simp [Region.binds, f0, f1, f2, f3, f4, f5, f6, f7, f8, f9])).elim
      have f11 : L[11]? = some true := by
        cases hb : L[11]? with
        | none => have := (Array.getElem?_eq_none_iff.1 hb); omega
        | some b =>
          cases b with
          | true => rfl
          | false => exact (ready_nil hr hb (by rfl) (by simp [Region.binds, f0, f1, f2, f3, f4, f5, f6, f7, f8, f9, f10])).elim
      have f12 : L[12]? = some true := by
        cases hb : L[12]? with
        | none => have := (Array.getElem?_eq_none_iff.1 hb); omega
        | some b =>
          cases b with
          | true => rfl
          | false => exact (ready_nil hr hb (by rfl) (by simp [Region.binds, f0, f1, f2, f3, f4, f5, f6, f7, f8, f9, f10, f11])).elim
      have f13 : L[13]? = some true := by
        cases hb : L[13]? with
        | none => have := (Array.getElem?_eq_none_iff.1 hb); omega
        | some b =>
          cases b with
          | true => rfl
          | false => exact (ready_nil hr hb (by rfl) (by simp [Region.binds, f0, f1, f2, f3, f4, f5, f6, f7, f8, f9, f10, f11, f12])).elim
      have f14 : L[14]? = some true := by
        cases hb : L[14]? with
        | none => have := (Array.getElem?_eq_none_iff.1 hb); omega
        | some b =>
          cases b with
          | true => rfl
          | false => exact (ready_nil hr hb (by rfl) (by simp [Region.binds, f0, f1, f2, f3, f4, f5, f6, f7, f8, f9, f10, f11, f12, f13])).elim
      have f15 : L[15]? = some true := by
        cases hb : L[15]? with
        | none => have := (Array.getElem?_eq_none_iff.1 hb); omega
        | some b =>
          cases b with
          | true => rfl
          | false => exact (ready_nil hr hb (by rfl) (by simp [Region.binds, f0, f1, f2, f3, f4, f5, f6, f7, f8, f9, f10, f11, f12, f13, f14])).elim
      have f16 : L[16]? = some true := by
        cases hb : L[16]? with
        | none => have := (Array.getElem?_eq_none_iff.1 hb); omega
        | some b =>
          cases b with
          | true => rfl
          | false => exact (ready_nil hr hb (by rfl) (by simp [Region.binds, f0, f1, f2, f3, f4, f5, f6, f7, f8, f9, f10, f11, f12, f13, f14, f15])).elim
      have f17 : L[17]? = some true := by
        cases hb : L[17]? with
        | none => have := (Array.getElem?_eq_none_iff.1 hb); omega
        | some b =>
          cases b with
          | true => rfl
          | false => exact (ready_nil hr hb (by rfl) (by simp [Region.binds, f0, f1, f2, f3, f4, f5, f6, f7, f8, f9, f10, f11, f12, f13, f14, f15, f16])).elim
      obtain ⟨B0, cs, hp0, hy0, hh0⟩ := z17 f16
      obtain ⟨a0, n0, c0, b0, m0, d0, hz, hl0, hm0⟩ := z6 f6
      rw [hz] at hy0
      obtain rfl := (Value.agg.inj hy0).symm
      subst hp0
      obtain ⟨B1, cs, hp1, hy1, hh1⟩ := z18 f17
      obtain ⟨a1, n1, c1, b1, m1, d1, hz, hl1, hm1⟩ := z13 f13
      rw [hz] at hy1
      obtain rfl := (Value.agg.inj hy1).symm
      subst hp1
      have HF := Lib.hid (show VW wz B0 32 D0 a0 n0 c0 P0 D1 b0 m0 d0 P1 ∧ VW wz B1 32 D2 a1 n1 c1 P2 D3 b1 m1 d1 P3 ∧ Below w1.heap.size w1 wz from ⟨⟨hh0, hl0.la.mono (by omega), hm0.la.mono (by omega)⟩, ⟨hh1, hl1.la.mono (by omega), hm1.la.mono (by omega)⟩, hbel⟩)
      go_wp2_with fail
      go_meet
      exact ⟨_, _, _, _, _, _, _, _, _, _, _, _, _, _, rfl, rfl, HF⟩
  case rest =>
    obtain ⟨V5, a20, n20, c20, a21, n21, c21, V6, a22, n22, c22, a23, n23, c23, rfl, rfl, HF⟩ := hcut
    obtain ⟨X1, rfl⟩ : ∃ X, X = wc := ⟨_, rfl⟩
    obtain ⟨hv5, hv6, hX⟩ := HF.out
    have HX := Lib.hid hX
    have hB := (HS.out X1 hX).1
    have HS := Lib.hid (fun (wx : World) (hx : Below X1.heap.size X1 wx) => (by
        have hw : Below w.heap.size w wx := hB.trans (hx.mono hB.size)
        have hold := HS.out wx (HX.out.trans (hx.mono HX.out.size))
        have r0 := block_below hv5.1 hx
        have r1 := block_below hv6.1 hx
        exact ⟨hw, hold.2.1, hold.2.2.1, hold.2.2.2.1, hold.2.2.2.2.1, hold.2.2.2.2.2.1, hold.2.2.2.2.2.2.1, hold.2.2.2.2.2.2.2.1, hold.2.2.2.2.2.2.2.2.1, hold.2.2.2.2.2.2.2.2.2.1, hold.2.2.2.2.2.2.2.2.2.2.1, hold.2.2.2.2.2.2.2.2.2.2.2.1, hold.2.2.2.2.2.2.2.2.2.2.2.2.1, by rw [cell_of_row _ _ 0 _ 32 (0, 0) r0]; rfl, by rw [cell_of_row _ _ 1 _ 32 (0, 0) r0]; rfl, by rw [cell_of_row _ _ 2 _ 32 (0, 0) r0]; rfl, by rw [cell_of_row _ _ 3 _ 32 (0, 0) r0]; rfl, by rw [cell_of_row _ _ 0 _ 32 (0, 0) r1]; rfl, by rw [cell_of_row _ _ 1 _ 32 (0, 0) r1]; rfl, by rw [cell_of_row _ _ 2 _ 32 (0, 0) r1]; rfl, by rw [cell_of_row _ _ 3 _ 32 (0, 0) r1]; rfl, hold.2.2.2.2.2.2.2.2.2.2.2.2.2.1, hold.2.2.2.2.2.2.2.2.2.2.2.2.2.2.1, hold.2.2.2.2.2.2.2.2.2.2.2.2.2.2.2.1, hold.2.2.2.2.2.2.2.2.2.2.2.2.2.2.2.2.1, hold.2.2.2.2.2.2.2.2.2.2.2.2.2.2.2.2.2.1, hold.2.2.2.2.2.2.2.2.2.2.2.2.2.2.2.2.2.2, hv5.2.1.below hx, hv5.2.2.below hx, hv6.2.1.below hx, hv6.2.2.below hx⟩ : Below w.heap.size w wx ∧ wx.cell? ⟨w.heap.size, 0, none⟩ = some (.int .i64 S0) ∧ wx.cell? ⟨w.heap.size, 1, none⟩ = some (.slice sa0 sn0 sc0) ∧ wx.cell? ⟨w.heap.size, 2, none⟩ = some (.int .i64 S1) ∧ wx.cell? ⟨w.heap.size, 3, none⟩ = some (.slice sa1 sn1 sc1) ∧ wx.cell? ⟨w.heap.size, 4, none⟩ = some (.int .i64 S2) ∧ wx.cell? ⟨w.heap.size, 5, none⟩ = some (.slice sa2 sn2 sc2) ∧ wx.cell? ⟨w.heap.size, 6, none⟩ = some (.int .i64 S3) ∧ wx.cell? ⟨w.heap.size, 7, none⟩ = some (.slice sa3 sn3 sc3) ∧ wx.cell? ⟨w.heap.size + 1, 0, none⟩ = some (.int .i64 S4) ∧ wx.cell? ⟨w.heap.size + 1, 1, none⟩ = some (.slice sa4 sn4 sc4) ∧ wx.cell? ⟨w.heap.size + 1, 2, none⟩ = some (.int .i64 S5) ∧ wx.cell? ⟨w.heap.size + 1, 3, none⟩ = some (.slice sa5 sn5 sc5) ∧ wx.cell? ⟨V5, 0, none⟩ = some (.int .i64 D0) ∧ wx.cell? ⟨V5, 1, none⟩ = some (.slice a20 n20 c20) ∧ wx.cell? ⟨V5, 2, none⟩ = some (.int .i64 D1) ∧ wx.cell? ⟨V5, 3, none⟩ = some (.slice a21 n21 c21) ∧ wx.cell? ⟨V6, 0, none⟩ = some (.int .i64 D2) ∧ wx.cell? ⟨V6, 1, none⟩ = some (.slice a22 n22 c22) ∧ wx.cell? ⟨V6, 2, none⟩ = some (.int .i64 D3) ∧ wx.cell? ⟨V6, 3, none⟩ = some (.slice a23 n23 c23) ∧ IntsL wx (.slice sa0 sn0 sc0) ls0 ∧ IntsL wx (.slice sa1 sn1 sc1) ls1 ∧ IntsL wx (.slice sa2 sn2 sc2) ls2 ∧ IntsL wx (.slice sa3 sn3 sc3) ls3 ∧ IntsL wx (.slice sa4 sn4 sc4) ls4 ∧ IntsL wx (.slice sa5 sn5 sc5) ls5 ∧ LA 12 wx D0 a20 n20 c20 P0 ∧ LA 12 wx D1 a21 n21 c21 P1 ∧ LA 12 wx D2 a22 n22 c22 P2 ∧ LA 12 wx D3 a23 n23 c23 P3))
    clear hv5 hv6 hX hB HF KS0 KS1 KS2 KS3 KS4 KS5
    clear HX
    go_upto_region 4 with fail
    have KS0 := Lib.hid (fun (W : World) (h : Below X1.heap.size X1 W) => (by obtain ⟨_, _, _, _, _, _, _, _, _, _, _, _, _, _, _, _, _, _, _, _, _, hi, _, _, _, _, _, _, _, _, _⟩ := HS.out W h; exact CS0.out W hi : Calls Try.prog 12 #[.agg #[.int .i64 S0, .slice sa0 sn0 sc0]] W (LM 12 W D0 P0)))
    have KS1 := Lib.hid (fun (W : World) (h : Below X1.heap.size X1 W) => (by obtain ⟨_, _, _, _, _, _, _, _, _, _, _, _, _, _, _, _, _, _, _, _, _, _, hi, _, _, _, _, _, _, _, _⟩ := HS.out W h; exact CS1.out W hi : Calls Try.prog 12 #[.agg #[.int .i64 S1, .slice sa1 sn1 sc1]] W (LM 12 W D1 P1)))
    have KS2 := Lib.hid (fun (W : World) (h : Below X1.heap.size X1 W) => (by obtain ⟨_, _, _, _, _, _, _, _, _, _, _, _, _, _, _, _, _, _, _, _, _, _, _, hi, _, _, _, _, _, _, _⟩ := HS.out W h; exact CS2.out W hi : Calls Try.prog 12 #[.agg #[.int .i64 S2, .slice sa2 sn2 sc2]] W (LM 12 W D2 P2)))
    have KS3 := Lib.hid (fun (W : World) (h : Below X1.heap.size X1 W) => (by obtain ⟨_, _, _, _, _, _, _, _, _, _, _, _, _, _, _, _, _, _, _, _, _, _, _, _, hi, _, _, _, _, _, _⟩ := HS.out W h; exact CS3.out W hi : Calls Try.prog 12 #[.agg #[.int .i64 S3, .slice sa3 sn3 sc3]] W (LM 12 W D3 P3)))
    have KS4 := Lib.hid (fun (W : World) (h : Below X1.heap.size X1 W) => (by obtain ⟨_, _, _, _, _, _, _, _, _, _, _, _, _, _, _, _, _, _, _, _, _, _, _, _, _, hi, _, _, _, _, _⟩ := HS.out W h; exact CS4.out W hi : Calls Try.prog 12 #[.agg #[.int .i64 S4, .slice sa4 sn4 sc4]] W (LM 12 W D4 P4)))
    have KS5 := Lib.hid (fun (W : World) (h : Below X1.heap.size X1 W) => (by obtain ⟨_, _, _, _, _, _, _, _, _, _, _, _, _, _, _, _, _, _, _, _, _, _, _, _, _, _, hi, _, _, _, _⟩ := HS.out W h; exact CS5.out W hi : Calls Try.prog 12 #[.agg #[.int .i64 S5, .slice sa5 sn5 sc5]] W (LM 12 W D5 P5)))
    go_cut [7, 31, 32, 33, 34, 35, 36, 37] (fun s7 s31 s32 s33 s34 s35 s36 s37 wx => ∃ V7 a24 n24 c24 a25 n25 c25, s7 = .pointer (some ⟨V7, 0, none⟩) ∧ Hid (VW wx V7 32 D4 a24 n24 c24 P4 D5 a25 n25 c25 P5 ∧ Below X1.heap.size X1 wx))
    case first =>
      refine wp_region_any (by kernel_rfl) ?_
      refine wpAny_inv (I := fun L a wz => ∃ y7 y31 y32 y33 y34 y35 y36 y37 : Value, a = { tmps := #[.agg #[.int .i64 S0, .slice sa0 sn0 sc0, .int .i64 S1, .slice sa1 sn1 sc1, .int .i64 S2, .slice sa2 sn2 sc2, .int .i64 S3, .slice sa3 sn3 sc3], .agg #[.int .i64 S4, .slice sa4 sn4 sc4, .int .i64 S5, .slice sa5 sn5 sc5], .pointer (some ⟨w.heap.size, 0, none⟩), .pointer (some ⟨w.heap.size + 1, 0, none⟩), .bool false, .pointer (some ⟨V5, 0, none⟩), .pointer (some ⟨V6, 0, none⟩), y7, undef, undef, undef, undef, undef, undef, undef, u15, u16, u17, u18, u19, u20, u21, u22, u23, u24, u25, u26, u27, u28, u29, u30, y31, y32, y33, y34, y35, y36, y37, u38, u39, u40, u41, u42, u43, u44, undef, undef, undef, u48, u49, u50, u51, u52, u53, u54, u55, u56, u57, u58, u59, u60, u61, u62, u63, u64, u65, u66, u67, u68, u69, u70, u71, u72, u73, u74, u75, u76, u77, u78, u79, u80, u81, u82, u83, u84, undef, undef, undef, u88, u89, u90, u91, u92, u93, u94, u95, u96, u97, u98, u99, u100, u101, u102, u103, u104, u105, undef, undef, undef, u109, u110, u111, u112, u113, u114, u115, u116, u117, u118, u119, u120, u121, u122, u123, u124, u125, u126, u127, u128], defers := [] } ∧ Hid (L.size = 9 ∧ Below X1.heap.size X1 wz ∧ (L[0]? = some true → y31 = .pointer (some ⟨w.heap.size + 1, 0, none⟩)) ∧ (L[1]? = some true → y32 = .agg #[.int .i64 S4, .slice sa4 sn4 sc4]) ∧ (L[2]? = some true → CV X1 wz D4 P4 y33) ∧ (L[3]? = some true → y34 = .pointer (some ⟨w.heap.size + 1, 2, none⟩)) ∧ (L[4]? = some true → y35 = .agg #[.int .i64 S5, .slice sa5 sn5 sc5]) ∧ (L[5]? = some true → CV X1 wz D5 P5 y36) ∧ (L[6]? = some true → BV X1 wz D4 P4 D5 P5 y37) ∧ (L[7]? = some true → N4 X1 wz 32 y7) ∧ (L[8]? = some true → HV wz 32 y7 y37) ∧ (L[6]? = some true → (L[2]? = some true ∧ L[5]? = some true)) ∧ (L[8]? = some true → (L[7]? = some true ∧ L[6]? = some true)))) ?step2 ?fin2 _ _ _ _ ⟨_, _, _, _, _, _, _, _, rfl, Lib.hid ⟨by rfl, Below.drew (Below.refl _ _), gone (by rfl), gone (by rfl), gone (by rfl), gone (by rfl), gone (by rfl), gone (by rfl), gone (by rfl), gone (by rfl), gone (by rfl), gone (by rfl), gone (by rfl)⟩⟩ (by decide)
      case step2 =>
        intro L a wz i o hI ho hL hdeps K hK
        obtain ⟨y7, y31, y32, y33, y34, y35, y36, y37, rfl, hinv⟩ := hI
        have hi : i < 9 := by have := (Array.getElem?_eq_some_iff.1 ho).1; exact this
        obtain ⟨hN, hbel, z0, z1, z2, z3, z4, z5, z6, z7, z8, z9, z10⟩ := hinv.out
        obtain rfl | rfl | rfl | rfl | rfl | rfl | rfl | rfl | rfl : i = 0 ∨ i = 1 ∨ i = 2 ∨ i = 3 ∨ i = 4 ∨ i = 5 ∨ i = 6 ∨ i = 7 ∨ i = 8 := by omega
        · as_aux_lemma =>
          obtain rfl := Option.some.inj ho
          have Z := hinv
          clear hinv ho hbel hN hdeps z0 z1 z2 z3 z4 z5 z6 z7 z8 z9 z10
          go_simp
          obtain ⟨hN, hbel, z0, z1, z2, z3, z4, z5, z6, z7, z8, z9, z10⟩ := Z.out
          exact hK _ _ ⟨_, _, _, _, _, _, _, _, rfl, Lib.hid ⟨by simpa using hN, hbel, fun _ => rfl, fun g0 => (z1 ((set_other (by decide)).symm.trans g0)), fun g0 => (z2 ((set_other (by decide)).symm.trans g0)), fun g0 => (z3 ((set_other (by decide)).symm.trans g0)), fun g0 => (z4 ((set_other (by decide)).symm.trans g0)), fun g0 => (z5 ((set_other (by decide)).symm.trans g0)), fun g0 => (z6 ((set_other (by decide)).symm.trans g0)), fun g0 => (z7 ((set_other (by decide)).symm.trans g0)), fun g0 => (z8 ((set_other (by decide)).symm.trans g0)), fun g0 => ⟨set_keep (z9 ((set_other (by decide)).symm.trans g0)).1, set_keep (z9 ((set_other (by decide)).symm.trans g0)).2⟩, fun g0 => ⟨set_keep (z10 ((set_other (by decide)).symm.trans g0)).1, set_keep (z10 ((set_other (by decide)).symm.trans g0)).2⟩⟩⟩
        · as_aux_lemma =>
          obtain rfl := Option.some.inj ho
          have e0 := z0 (dep (by simp [Region.binds] at hdeps ⊢; simp [hdeps]))
          subst e0
          obtain ⟨_, _, _, _, _, _, _, _, _, b0, b1, _, _, _, _, _, _, _, _, _, _, _, _, _, _, _, _, _, _, _, _⟩ := HS.out wz hbel
          have Z := hinv
          clear hinv ho hbel hN hdeps z0 z1 z2 z3 z4 z5 z6 z7 z8 z9 z10
          go_simp
          obtain ⟨hN, hbel, z0, z1, z2, z3, z4, z5, z6, z7, z8, z9, z10⟩ := Z.out
          exact hK _ _ ⟨_, _, _, _, _, _, _, _, rfl, Lib.hid ⟨by simpa using hN, hbel, fun g0 => (z0 ((set_other (by decide)).symm.trans g0)), fun _ => rfl, fun g0 => (z2 ((set_other (by decide)).symm.trans g0)), fun g0 => (z3 ((set_other (by decide)).symm.trans g0)), fun g0 => (z4 ((set_other (by decide)).symm.trans g0)), fun g0 => (z5 ((set_other (by decide)).symm.trans g0)), fun g0 => (z6 ((set_other (by decide)).symm.trans g0)), fun g0 => (z7 ((set_other (by decide)).symm.trans g0)), fun g0 => (z8 ((set_other (by decide)).symm.trans g0)), fun g0 => ⟨set_keep (z9 ((set_other (by decide)).symm.trans g0)).1, set_keep (z9 ((set_other (by decide)).symm.trans g0)).2⟩, fun g0 => ⟨set_keep (z10 ((set_other (by decide)).symm.trans g0)).1, set_keep (z10 ((set_other (by decide)).symm.trans g0)).2⟩⟩⟩
        · as_aux_lemma =>
          obtain rfl := Option.some.inj ho
          have e0 := z1 (dep (by simp [Region.binds] at hdeps ⊢; simp [hdeps]))
          subst e0
          have CC := Lib.hid (KS4.out wz hbel)
          have Z := hinv
          clear hinv ho hbel hN hdeps z0 z1 z2 z3 z4 z5 z6 z7 z8 z9 z10
          go_simp
          refine CC.out.mono ?_
          rintro e wq ⟨a, n, c, rfl, how, hb'⟩
          obtain ⟨hN, hbel, z0, z1, z2, z3, z4, z5, z6, z7, z8, z9, z10⟩ := Z.out
          exact hK _ _ ⟨_, _, _, _, _, _, _, _, rfl, Lib.hid ⟨by simpa using hN, hbel.trans (hb'.mono hbel.size), fun g0 => (z0 ((set_other (by decide)).symm.trans g0)), fun g0 => (z1 ((set_other (by decide)).symm.trans g0)), fun _ => ⟨a, n, c, rfl, how.base hbel.size⟩, fun g0 => (z3 ((set_other (by decide)).symm.trans g0)), fun g0 => (z4 ((set_other (by decide)).symm.trans g0)), fun g0 => (z5 ((set_other (by decide)).symm.trans g0)).below hb', fun g0 => not_done hL (z9 (((set_other (by decide)).symm.trans g0))).1, fun g0 => (z7 ((set_other (by decide)).symm.trans g0)).below hb', fun g0 => (z8 ((set_other (by decide)).symm.trans g0)).below hb', fun g0 => not_done hL (z9 (((set_other (by decide)).symm.trans g0))).1, fun g0 => ⟨set_keep (z10 ((set_other (by decide)).symm.trans g0)).1, set_keep (z10 ((set_other (by decide)).symm.trans g0)).2⟩⟩⟩
        · as_aux_lemma =>
          obtain rfl := Option.some.inj ho
          have Z := hinv
          clear hinv ho hbel hN hdeps z0 z1 z2 z3 z4 z5 z6 z7 z8 z9 z10
          go_simp
          obtain ⟨hN, hbel, z0, z1, z2, z3, z4, z5, z6, z7, z8, z9, z10⟩ := Z.out
          exact hK _ _ ⟨_, _, _, _, _, _, _, _, rfl, Lib.hid ⟨by simpa using hN, hbel, fun g0 => (z0 ((set_other (by decide)).symm.trans g0)), fun g0 => (z1 ((set_other (by decide)).symm.trans g0)), fun g0 => (z2 ((set_other (by decide)).symm.trans g0)), fun _ => rfl, fun g0 => (z4 ((set_other (by decide)).symm.trans g0)), fun g0 => (z5 ((set_other (by decide)).symm.trans g0)), fun g0 => (z6 ((set_other (by decide)).symm.trans g0)), fun g0 => (z7 ((set_other (by decide)).symm.trans g0)), fun g0 => (z8 ((set_other (by decide)).symm.trans g0)), fun g0 => ⟨set_keep (z9 ((set_other (by decide)).symm.trans g0)).1, set_keep (z9 ((set_other (by decide)).symm.trans g0)).2⟩, fun g0 => ⟨set_keep (z10 ((set_other (by decide)).symm.trans g0)).1, set_keep (z10 ((set_other (by decide)).symm.trans g0)).2⟩⟩⟩
        · as_aux_lemma =>
          obtain rfl := Option.some.inj ho
          have e0 := z3 (dep (by simp [Region.binds] at hdeps ⊢; simp [hdeps]))
          subst e0
          obtain ⟨_, _, _, _, _, _, _, _, _, _, _, b0, b1, _, _, _, _, _, _, _, _, _, _, _, _, _, _, _, _, _, _⟩ := HS.out wz hbel
          have Z := hinv
          clear hinv ho hbel hN hdeps z0 z1 z2 z3 z4 z5 z6 z7 z8 z9 z10
          go_simp
          obtain ⟨hN, hbel, z0, z1, z2, z3, z4, z5, z6, z7, z8, z9, z10⟩ := Z.out
          exact hK _ _ ⟨_, _, _, _, _, _, _, _, rfl, Lib.hid ⟨by simpa using hN, hbel, fun g0 => (z0 ((set_other (by decide)).symm.trans g0)), fun g0 => (z1 ((set_other (by decide)).symm.trans g0)), fun g0 => (z2 ((set_other (by decide)).symm.trans g0)), fun g0 => (z3 ((set_other (by decide)).symm.trans g0)), fun _ => rfl, fun g0 => (z5 ((set_other (by decide)).symm.trans g0)), fun g0 => (z6 ((set_other (by decide)).symm.trans g0)), fun g0 => (z7 ((set_other (by decide)).symm.trans g0)), fun g0 => (z8 ((set_other (by decide)).symm.trans g0)), fun g0 => ⟨set_keep (z9 ((set_other (by decide)).symm.trans g0)).1, set_keep (z9 ((set_other (by decide)).symm.trans g0)).2⟩, fun g0 => ⟨set_keep (z10 ((set_other (by decide)).symm.trans g0)).1, set_keep (z10 ((set_other (by decide)).symm.trans g0)).2⟩⟩⟩
        · as_aux_lemma =>
          obtain rfl := Option.some.inj ho
          have e0 := z4 (dep (by simp [Region.binds] at hdeps ⊢; simp [hdeps]))
          subst e0
          have CC := Lib.hid (KS5.out wz hbel)
          have Z := hinv
          clear hinv ho hbel hN hdeps z0 z1 z2 z3 z4 z5 z6 z7 z8 z9 z10
          go_simp
          refine CC.out.mono ?_
          rintro e wq ⟨a, n, c, rfl, how, hb'⟩
          obtain ⟨hN, hbel, z0, z1, z2, z3, z4, z5, z6, z7, z8, z9, z10⟩ := Z.out
          exact hK _ _ ⟨_, _, _, _, _, _, _, _, rfl, Lib.hid ⟨by simpa using hN, hbel.trans (hb'.mono hbel.size), fun g0 => (z0 ((set_other (by decide)).symm.trans g0)), fun g0 => (z1 ((set_other (by decide)).symm.trans g0)), fun g0 => (z2 ((set_other (by decide)).symm.trans g0)).below hb', fun g0 => (z3 ((set_other (by decide)).symm.trans g0)), fun g0 => (z4 ((set_other (by decide)).symm.trans g0)), fun _ => ⟨a, n, c, rfl, how.base hbel.size⟩, fun g0 => not_done hL (z9 (((set_other (by decide)).symm.trans g0))).2, fun g0 => (z7 ((set_other (by decide)).symm.trans g0)).below hb', fun g0 => (z8 ((set_other (by decide)).symm.trans g0)).below hb', fun g0 => not_done hL (z9 (((set_other (by decide)).symm.trans g0))).2, fun g0 => ⟨set_keep (z10 ((set_other (by decide)).symm.trans g0)).1, set_keep (z10 ((set_other (by decide)).symm.trans g0)).2⟩⟩⟩
        · as_aux_lemma =>
          obtain rfl := Option.some.inj ho
          have hd1 : L[2]? = some true := (dep (by simp [Region.binds] at hdeps ⊢; simp [hdeps]))
          have hd2 : L[5]? = some true := (dep (by simp [Region.binds] at hdeps ⊢; simp [hdeps]))
          obtain ⟨a, n, c, e1, hl1⟩ := z2 hd1
          obtain ⟨b, m, d, e2, hl2⟩ := z5 hd2
          subst e1 e2
          have HL1 := Lib.hid hl1
          have HL2 := Lib.hid hl2
          clear hl1 hl2
          have Z := hinv
          clear hinv ho hbel hN hdeps z0 z1 z2 z3 z4 z5 z6 z7 z8 z9 z10
          go_simp
          obtain ⟨hN, hbel, z0, z1, z2, z3, z4, z5, z6, z7, z8, z9, z10⟩ := Z.out
          exact hK _ _ ⟨_, _, _, _, _, _, _, _, rfl, Lib.hid ⟨by simpa using hN, hbel, fun g0 => (z0 ((set_other (by decide)).symm.trans g0)), fun g0 => (z1 ((set_other (by decide)).symm.trans g0)), fun g0 => (z2 ((set_other (by decide)).symm.trans g0)), fun g0 => (z3 ((set_other (by decide)).symm.trans g0)), fun g0 => (z4 ((set_other (by decide)).symm.trans g0)), fun g0 => (z5 ((set_other (by decide)).symm.trans g0)), fun _ => ⟨a, n, c, b, m, d, rfl, HL1.out, HL2.out⟩, fun g0 => (z7 ((set_other (by decide)).symm.trans g0)), fun g0 => not_done hL (z10 (((set_other (by decide)).symm.trans g0))).2, fun _ => ⟨set_keep hd1, set_keep hd2⟩, fun g0 => not_done hL (z10 (((set_other (by decide)).symm.trans g0))).2⟩⟩
        · as_aux_lemma =>
          obtain rfl := Option.some.inj ho
          have Z := hinv
          clear hinv ho hbel hN hdeps z0 z1 z2 z3 z4 z5 z6 z7 z8 z9 z10
          go_simp
          obtain ⟨hN, hbel, z0, z1, z2, z3, z4, z5, z6, z7, z8, z9, z10⟩ := Z.out
          have hb' := below_alloc1 wz (Obj.cells #[.int .i64 0, .slice none 0 0, .int .i64 0, .slice none 0 0] 32)
          exact hK _ _ ⟨_, _, _, _, _, _, _, _, rfl, Lib.hid ⟨by simpa using hN, hbel.trans (hb'.mono hbel.size), fun g0 => (z0 ((set_other (by decide)).symm.trans g0)), fun g0 => (z1 ((set_other (by decide)).symm.trans g0)), fun g0 => (z2 ((set_other (by decide)).symm.trans g0)).below hb', fun g0 => (z3 ((set_other (by decide)).symm.trans g0)), fun g0 => (z4 ((set_other (by decide)).symm.trans g0)), fun g0 => (z5 ((set_other (by decide)).symm.trans g0)).below hb', fun g0 => (z6 ((set_other (by decide)).symm.trans g0)).below hb', fun _ => N4.new _ _ _ _ _ _ hbel.size, fun g0 => not_done hL (z10 (((set_other (by decide)).symm.trans g0))).1, fun g0 => ⟨set_keep (z9 ((set_other (by decide)).symm.trans g0)).1, set_keep (z9 ((set_other (by decide)).symm.trans g0)).2⟩, fun g0 => not_done hL (z10 (((set_other (by decide)).symm.trans g0))).1⟩⟩
        · as_aux_lemma =>
          obtain rfl := Option.some.inj ho
          have hds : L[7]? = some true ∧ L[6]? = some true := by
            simp [Region.binds] at hdeps
            refine ⟨?_, ?_⟩ <;> (refine dep ?_; simp [hdeps])
          obtain ⟨d7, d6⟩ := hds
          obtain ⟨A0, hA1, hA2, x0, u0, v0, t0, hA3⟩ := z7 d7
          obtain ⟨a, n, c, b, m, d, hc1, hc2, hc3⟩ := z6 d6
          subst hA1 hc1
          obtain ⟨⟨s0, s1, s2, s3⟩, ⟨s5, s6, s7, s8⟩, s4⟩ := old4 wz A0 32 _ _ _ _ (.int .i64 D4) (.slice a n c) (.int .i64 D5) (.slice b m d) hA3
          clear hc3
          have S4 := Lib.hid s4
          have HA3 := Lib.hid hA3
          have HA2 := Lib.hid hA2
          clear s4 hA2 hA3 hc2
          have Z := hinv
          clear hinv ho hbel hN hdeps z0 z1 z2 z3 z4 z5 z6 z7 z8 z9 z10
          go_simp
          clear s0 s1 s2 s3 s5 s6 s7 s8
          obtain ⟨hN, hbel, z0, z1, z2, z3, z4, z5, z6, z7, z8, z9, z10⟩ := Z.out
          have hbut := but_set4 wz A0 (.int .i64 D4) (.slice a n c) (.int .i64 D5) (.slice b m d)
          exact hK _ _ ⟨_, _, _, _, _, _, _, _, rfl, Lib.hid ⟨by simpa using hN, below_set4 hbel HA2.out (.int .i64 D4) (.slice a n c) (.int .i64 D5) (.slice b m d), fun g0 => (z0 ((set_other (by decide)).symm.trans g0)), fun g0 => (z1 ((set_other (by decide)).symm.trans g0)), fun g0 => (z2 ((set_other (by decide)).symm.trans g0)).set4 HA3.out (by decide) (.int .i64 D4) (.slice a n c) (.int .i64 D5) (.slice b m d), fun g0 => (z3 ((set_other (by decide)).symm.trans g0)), fun g0 => (z4 ((set_other (by decide)).symm.trans g0)), fun g0 => (z5 ((set_other (by decide)).symm.trans g0)).set4 HA3.out (by decide) (.int .i64 D4) (.slice a n c) (.int .i64 D5) (.slice b m d), fun g0 => (z6 ((set_other (by decide)).symm.trans g0)).set4 HA3.out (by decide) (.int .i64 D4) (.slice a n c) (.int .i64 D5) (.slice b m d), fun g0 => ⟨A0, rfl, HA2.out, _, _, _, _, S4.out⟩, fun _ => ⟨A0, _, rfl, rfl, S4.out⟩, fun g0 => ⟨set_keep (z9 ((set_other (by decide)).symm.trans g0)).1, set_keep (z9 ((set_other (by decide)).symm.trans g0)).2⟩, fun _ => ⟨set_keep d7, set_keep d6⟩⟩⟩
      case fin2 =>
        intro L a wz hI hr
        obtain ⟨y7, y31, y32, y33, y34, y35, y36, y37, rfl, hinv⟩ := hI
        obtain ⟨hN, hbel, z0, z1, z2, z3, z4, z5, z6, z7, z8, z9, z10⟩ := hinv.out
        have f0 : L[0]? = some true := by
          cases hb : L[0]? with
          | none => have := (Array.getElem?_eq_none_iff.1 hb); omega
          | some b =>
            cases b with
            | true => rfl
            | false => exact (ready_nil hr hb (by rfl) (by simp [Region.binds])).elim
        have f1 : L[1]? = some true := by
          cases hb : L[1]? with
          | none => have := (Array.getElem?_eq_none_iff.1 hb); omega
          | some b =>
            cases b with
            | true => rfl
            | false => exact (ready_nil hr hb (by rfl) (by simp [Region.binds, f0])).elim
        have f2 : L[2]? = some true := by
          cases hb : L[2]? with
          | none => have := (Array.getElem?_eq_none_iff.1 hb); omega
          | some b =>
            cases b with
            | true => rfl
            | false => exact (ready_nil hr hb (by rfl) (by simp [Region.binds, f0, f1])).elim
        have f3 : L[3]? = some true := by
          cases hb : L[3]? with
          | none => have := (Array.getElem?_eq_none_iff.1 hb); omega
          | some b =>
            cases b with
            | true => rfl
            | false => exact (ready_nil hr hb (by rfl) (by simp [Region.binds, f0, f1, f2])).elim
        have f4 : L[4]? = some true := by
          cases hb : L[4]? with
          | none => have := (Array.getElem?_eq_none_iff.1 hb); omega
          | some b =>
            cases b with
            | true => rfl
            | false => exact (ready_nil hr hb (by rfl) (by simp [Region.binds, f0, f1, f2, f3])).elim
        have f5 : L[5]? = some true := by
          cases hb : L[5]? with
          | none => have := (Array.getElem?_eq_none_iff.1 hb); omega
          | some b =>
            cases b with
            | true => rfl
            | false => exact (ready_nil hr hb (by rfl) (by simp [Region.binds, f0, f1, f2, f3, f4])).elim
        have f6 : L[6]? = some true := by
          cases hb : L[6]? with
          | none => have := (Array.getElem?_eq_none_iff.1 hb); omega
          | some b =>
            cases b with
            | true => rfl
            | false => exact (ready_nil hr hb (by rfl) (by simp [Region.binds, f0, f1, f2, f3, f4, f5])).elim
        have f7 : L[7]? = some true := by
          cases hb : L[7]? with
          | none => have := (Array.getElem?_eq_none_iff.1 hb); omega
          | some b =>
            cases b with
            | true => rfl
            | false => exact (ready_nil hr hb (by rfl) (by simp [Region.binds, f0, f1, f2, f3, f4, f5, f6])).elim
        have f8 : L[8]? = some true := by
          cases hb : L[8]? with
          | none => have := (Array.getElem?_eq_none_iff.1 hb); omega
          | some b =>
            cases b with
            | true => rfl
            | false => exact (ready_nil hr hb (by rfl) (by simp [Region.binds, f0, f1, f2, f3, f4, f5, f6, f7])).elim
        obtain ⟨B0, cs, hp0, hy0, hh0⟩ := z8 f8
        obtain ⟨a0, n0, c0, b0, m0, d0, hz, hl0, hm0⟩ := z6 f6
        rw [hz] at hy0
        obtain rfl := (Value.agg.inj hy0).symm
        subst hp0
        have HF := Lib.hid (show VW wz B0 32 D4 a0 n0 c0 P4 D5 b0 m0 d0 P5 ∧ Below X1.heap.size X1 wz from ⟨⟨hh0, hl0.la.mono (by omega), hm0.la.mono (by omega)⟩, hbel⟩)
        go_wp2_with fail
        go_meet
        exact ⟨_, _, _, _, _, _, _, rfl, HF⟩
    case rest =>
      obtain ⟨V7, a24, n24, c24, a25, n25, c25, rfl, HF⟩ := hcut
      obtain ⟨X2, rfl⟩ : ∃ X, X = wc := ⟨_, rfl⟩
      obtain ⟨hv7, hX⟩ := HF.out
      have HX := Lib.hid hX
      have hB := (HS.out X2 hX).1
      have HS := Lib.hid (fun (wx : World) (hx : Below X2.heap.size X2 wx) => (by
          have hw : Below w.heap.size w wx := hB.trans (hx.mono hB.size)
          have hold := HS.out wx (HX.out.trans (hx.mono HX.out.size))
          have r0 := block_below hv7.1 hx
          exact ⟨hw, hold.2.1, hold.2.2.1, hold.2.2.2.1, hold.2.2.2.2.1, hold.2.2.2.2.2.1, hold.2.2.2.2.2.2.1, hold.2.2.2.2.2.2.2.1, hold.2.2.2.2.2.2.2.2.1, hold.2.2.2.2.2.2.2.2.2.1, hold.2.2.2.2.2.2.2.2.2.2.1, hold.2.2.2.2.2.2.2.2.2.2.2.1, hold.2.2.2.2.2.2.2.2.2.2.2.2.1, hold.2.2.2.2.2.2.2.2.2.2.2.2.2.1, hold.2.2.2.2.2.2.2.2.2.2.2.2.2.2.1, hold.2.2.2.2.2.2.2.2.2.2.2.2.2.2.2.1, hold.2.2.2.2.2.2.2.2.2.2.2.2.2.2.2.2.1, hold.2.2.2.2.2.2.2.2.2.2.2.2.2.2.2.2.2.1, hold.2.2.2.2.2.2.2.2.2.2.2.2.2.2.2.2.2.2.1, hold.2.2.2.2.2.2.2.2.2.2.2.2.2.2.2.2.2.2.2.1, hold.2.2.2.2.2.2.2.2.2.2.2.2.2.2.2.2.2.2.2.2.1, by rw [cell_of_row _ _ 0 _ 32 (0, 0) r0]; rfl, by rw [cell_of_row _ _ 1 _ 32 (0, 0) r0]; rfl, by rw [cell_of_row _ _ 2 _ 32 (0, 0) r0]; rfl, by rw [cell_of_row _ _ 3 _ 32 (0, 0) r0]; rfl, hold.2.2.2.2.2.2.2.2.2.2.2.2.2.2.2.2.2.2.2.2.2.1, hold.2.2.2.2.2.2.2.2.2.2.2.2.2.2.2.2.2.2.2.2.2.2.1, hold.2.2.2.2.2.2.2.2.2.2.2.2.2.2.2.2.2.2.2.2.2.2.2.1, hold.2.2.2.2.2.2.2.2.2.2.2.2.2.2.2.2.2.2.2.2.2.2.2.2.1, hold.2.2.2.2.2.2.2.2.2.2.2.2.2.2.2.2.2.2.2.2.2.2.2.2.2.1, hold.2.2.2.2.2.2.2.2.2.2.2.2.2.2.2.2.2.2.2.2.2.2.2.2.2.2.1, hold.2.2.2.2.2.2.2.2.2.2.2.2.2.2.2.2.2.2.2.2.2.2.2.2.2.2.2.1, hold.2.2.2.2.2.2.2.2.2.2.2.2.2.2.2.2.2.2.2.2.2.2.2.2.2.2.2.2.1, hold.2.2.2.2.2.2.2.2.2.2.2.2.2.2.2.2.2.2.2.2.2.2.2.2.2.2.2.2.2.1, hold.2.2.2.2.2.2.2.2.2.2.2.2.2.2.2.2.2.2.2.2.2.2.2.2.2.2.2.2.2.2, hv7.2.1.below hx, hv7.2.2.below hx⟩ : Below w.heap.size w wx ∧ wx.cell? ⟨w.heap.size, 0, none⟩ = some (.int .i64 S0) ∧ wx.cell? ⟨w.heap.size, 1, none⟩ = some (.slice sa0 sn0 sc0) ∧ wx.cell? ⟨w.heap.size, 2, none⟩ = some (.int .i64 S1) ∧ wx.cell? ⟨w.heap.size, 3, none⟩ = some (.slice sa1 sn1 sc1) ∧ wx.cell? ⟨w.heap.size, 4, none⟩ = some (.int .i64 S2) ∧ wx.cell? ⟨w.heap.size, 5, none⟩ = some (.slice sa2 sn2 sc2) ∧ wx.cell? ⟨w.heap.size, 6, none⟩ = some (.int .i64 S3) ∧ wx.cell? ⟨w.heap.size, 7, none⟩ = some (.slice sa3 sn3 sc3) ∧ wx.cell? ⟨w.heap.size + 1, 0, none⟩ = some (.int .i64 S4) ∧ wx.cell? ⟨w.heap.size + 1, 1, none⟩ = some (.slice sa4 sn4 sc4) ∧ wx.cell? ⟨w.heap.size + 1, 2, none⟩ = some (.int .i64 S5) ∧ wx.cell? ⟨w.heap.size + 1, 3, none⟩ = some (.slice sa5 sn5 sc5) ∧ wx.cell? ⟨V5, 0, none⟩ = some (.int .i64 D0) ∧ wx.cell? ⟨V5, 1, none⟩ = some (.slice a20 n20 c20) ∧ wx.cell? ⟨V5, 2, none⟩ = some (.int .i64 D1) ∧ wx.cell? ⟨V5, 3, none⟩ = some (.slice a21 n21 c21) ∧ wx.cell? ⟨V6, 0, none⟩ = some (.int .i64 D2) ∧ wx.cell? ⟨V6, 1, none⟩ = some (.slice a22 n22 c22) ∧ wx.cell? ⟨V6, 2, none⟩ = some (.int .i64 D3) ∧ wx.cell? ⟨V6, 3, none⟩ = some (.slice a23 n23 c23) ∧ wx.cell? ⟨V7, 0, none⟩ = some (.int .i64 D4) ∧ wx.cell? ⟨V7, 1, none⟩ = some (.slice a24 n24 c24) ∧ wx.cell? ⟨V7, 2, none⟩ = some (.int .i64 D5) ∧ wx.cell? ⟨V7, 3, none⟩ = some (.slice a25 n25 c25) ∧ IntsL wx (.slice sa0 sn0 sc0) ls0 ∧ IntsL wx (.slice sa1 sn1 sc1) ls1 ∧ IntsL wx (.slice sa2 sn2 sc2) ls2 ∧ IntsL wx (.slice sa3 sn3 sc3) ls3 ∧ IntsL wx (.slice sa4 sn4 sc4) ls4 ∧ IntsL wx (.slice sa5 sn5 sc5) ls5 ∧ LA 12 wx D0 a20 n20 c20 P0 ∧ LA 12 wx D1 a21 n21 c21 P1 ∧ LA 12 wx D2 a22 n22 c22 P2 ∧ LA 12 wx D3 a23 n23 c23 P3 ∧ LA 12 wx D4 a24 n24 c24 P4 ∧ LA 12 wx D5 a25 n25 c25 P5))
      clear hv7 hX hB HF KS0 KS1 KS2 KS3 KS4 KS5
      clear HX
      have hHeld := Below.refl X2.heap.size X2
      go_upto_region 5 with fail
      have HH := Lib.hid hHeld
      have CC := Lib.hid (fun W => of_any 2 W)
      clear hHeld
      go_wp2_with fail
      refine (CC.out _).mono ?_
      clear CC
      rintro e wz1 ⟨rfl, hb⟩
      have hHeld := HH.out.trans (hb.mono HH.out.size)
      clear HH hb
      have hb3 := below_alloc1 wz1 (Obj.cells #[.int .i64 2, .slice none 0 0] 29)
      obtain ⟨Xh, eX⟩ : ∃ X, X = wz1.alloc (Obj.cells #[.int .i64 2, .slice none 0 0] 29) := ⟨_, rfl⟩
      have HK := Lib.hid (show Xh.heap[wz1.heap.size]? = some (Obj.cells #[.int .i64 2, .slice none 0 0] 29) from by rw [eX]; exact heap_alloc_new _ _)
      have HXh := Lib.hid (show Below X2.heap.size X2 Xh from by rw [eX]; exact hHeld.trans (hb3.mono hHeld.size))
      have HL40 := Lib.hid (LA.nil (k := 0) (w := Xh) 2)
      clear hb3 hHeld
      go_upto_region 6 with fail
      rw [← eX]
      obtain ⟨Vh, eA⟩ : ∃ A, A = wz1.heap.size := ⟨_, rfl⟩
      rw [← eA] at HK ⊢
      clear eX eA
      have hk0 := HK.out
      have hB := (HS.out Xh HXh.out).1
      have HS := Lib.hid (fun (wx : World) (hx : Below Xh.heap.size Xh wx) => (by
          have hw : Below w.heap.size w wx := hB.trans (hx.mono hB.size)
          have hold := HS.out wx (HXh.out.trans (hx.mono HXh.out.size))
          have r0 := block_below hk0 hx
          exact ⟨hw, hold.2.1, hold.2.2.1, hold.2.2.2.1, hold.2.2.2.2.1, hold.2.2.2.2.2.1, hold.2.2.2.2.2.2.1, hold.2.2.2.2.2.2.2.1, hold.2.2.2.2.2.2.2.2.1, hold.2.2.2.2.2.2.2.2.2.1, hold.2.2.2.2.2.2.2.2.2.2.1, hold.2.2.2.2.2.2.2.2.2.2.2.1, hold.2.2.2.2.2.2.2.2.2.2.2.2.1, hold.2.2.2.2.2.2.2.2.2.2.2.2.2.1, hold.2.2.2.2.2.2.2.2.2.2.2.2.2.2.1, hold.2.2.2.2.2.2.2.2.2.2.2.2.2.2.2.1, hold.2.2.2.2.2.2.2.2.2.2.2.2.2.2.2.2.1, hold.2.2.2.2.2.2.2.2.2.2.2.2.2.2.2.2.2.1, hold.2.2.2.2.2.2.2.2.2.2.2.2.2.2.2.2.2.2.1, hold.2.2.2.2.2.2.2.2.2.2.2.2.2.2.2.2.2.2.2.1, hold.2.2.2.2.2.2.2.2.2.2.2.2.2.2.2.2.2.2.2.2.1, hold.2.2.2.2.2.2.2.2.2.2.2.2.2.2.2.2.2.2.2.2.2.1, hold.2.2.2.2.2.2.2.2.2.2.2.2.2.2.2.2.2.2.2.2.2.2.1, hold.2.2.2.2.2.2.2.2.2.2.2.2.2.2.2.2.2.2.2.2.2.2.2.1, hold.2.2.2.2.2.2.2.2.2.2.2.2.2.2.2.2.2.2.2.2.2.2.2.2.1, by rw [cell_of_row _ _ 0 _ 29 (0, 0) r0]; rfl, by rw [cell_of_row _ _ 1 _ 29 (0, 0) r0]; rfl, hold.2.2.2.2.2.2.2.2.2.2.2.2.2.2.2.2.2.2.2.2.2.2.2.2.2.1, hold.2.2.2.2.2.2.2.2.2.2.2.2.2.2.2.2.2.2.2.2.2.2.2.2.2.2.1, hold.2.2.2.2.2.2.2.2.2.2.2.2.2.2.2.2.2.2.2.2.2.2.2.2.2.2.2.1, hold.2.2.2.2.2.2.2.2.2.2.2.2.2.2.2.2.2.2.2.2.2.2.2.2.2.2.2.2.1, hold.2.2.2.2.2.2.2.2.2.2.2.2.2.2.2.2.2.2.2.2.2.2.2.2.2.2.2.2.2.1, hold.2.2.2.2.2.2.2.2.2.2.2.2.2.2.2.2.2.2.2.2.2.2.2.2.2.2.2.2.2.2.1, hold.2.2.2.2.2.2.2.2.2.2.2.2.2.2.2.2.2.2.2.2.2.2.2.2.2.2.2.2.2.2.2.1, hold.2.2.2.2.2.2.2.2.2.2.2.2.2.2.2.2.2.2.2.2.2.2.2.2.2.2.2.2.2.2.2.2.1, hold.2.2.2.2.2.2.2.2.2.2.2.2.2.2.2.2.2.2.2.2.2.2.2.2.2.2.2.2.2.2.2.2.2.1, hold.2.2.2.2.2.2.2.2.2.2.2.2.2.2.2.2.2.2.2.2.2.2.2.2.2.2.2.2.2.2.2.2.2.2.1, hold.2.2.2.2.2.2.2.2.2.2.2.2.2.2.2.2.2.2.2.2.2.2.2.2.2.2.2.2.2.2.2.2.2.2.2.1, hold.2.2.2.2.2.2.2.2.2.2.2.2.2.2.2.2.2.2.2.2.2.2.2.2.2.2.2.2.2.2.2.2.2.2.2.2, HL40.out.below hx⟩ : Below w.heap.size w wx ∧ wx.cell? ⟨w.heap.size, 0, none⟩ = some (.int .i64 S0) ∧ wx.cell? ⟨w.heap.size, 1, none⟩ = some (.slice sa0 sn0 sc0) ∧ wx.cell? ⟨w.heap.size, 2, none⟩ = some (.int .i64 S1) ∧ wx.cell? ⟨w.heap.size, 3, none⟩ = some (.slice sa1 sn1 sc1) ∧ wx.cell? ⟨w.heap.size, 4, none⟩ = some (.int .i64 S2) ∧ wx.cell? ⟨w.heap.size, 5, none⟩ = some (.slice sa2 sn2 sc2) ∧ wx.cell? ⟨w.heap.size, 6, none⟩ = some (.int .i64 S3) ∧ wx.cell? ⟨w.heap.size, 7, none⟩ = some (.slice sa3 sn3 sc3) ∧ wx.cell? ⟨w.heap.size + 1, 0, none⟩ = some (.int .i64 S4) ∧ wx.cell? ⟨w.heap.size + 1, 1, none⟩ = some (.slice sa4 sn4 sc4) ∧ wx.cell? ⟨w.heap.size + 1, 2, none⟩ = some (.int .i64 S5) ∧ wx.cell? ⟨w.heap.size + 1, 3, none⟩ = some (.slice sa5 sn5 sc5) ∧ wx.cell? ⟨V5, 0, none⟩ = some (.int .i64 D0) ∧ wx.cell? ⟨V5, 1, none⟩ = some (.slice a20 n20 c20) ∧ wx.cell? ⟨V5, 2, none⟩ = some (.int .i64 D1) ∧ wx.cell? ⟨V5, 3, none⟩ = some (.slice a21 n21 c21) ∧ wx.cell? ⟨V6, 0, none⟩ = some (.int .i64 D2) ∧ wx.cell? ⟨V6, 1, none⟩ = some (.slice a22 n22 c22) ∧ wx.cell? ⟨V6, 2, none⟩ = some (.int .i64 D3) ∧ wx.cell? ⟨V6, 3, none⟩ = some (.slice a23 n23 c23) ∧ wx.cell? ⟨V7, 0, none⟩ = some (.int .i64 D4) ∧ wx.cell? ⟨V7, 1, none⟩ = some (.slice a24 n24 c24) ∧ wx.cell? ⟨V7, 2, none⟩ = some (.int .i64 D5) ∧ wx.cell? ⟨V7, 3, none⟩ = some (.slice a25 n25 c25) ∧ wx.cell? ⟨Vh, 0, none⟩ = some (.int .i64 2) ∧ wx.cell? ⟨Vh, 1, none⟩ = some (.slice none 0 0) ∧ IntsL wx (.slice sa0 sn0 sc0) ls0 ∧ IntsL wx (.slice sa1 sn1 sc1) ls1 ∧ IntsL wx (.slice sa2 sn2 sc2) ls2 ∧ IntsL wx (.slice sa3 sn3 sc3) ls3 ∧ IntsL wx (.slice sa4 sn4 sc4) ls4 ∧ IntsL wx (.slice sa5 sn5 sc5) ls5 ∧ LA 12 wx D0 a20 n20 c20 P0 ∧ LA 12 wx D1 a21 n21 c21 P1 ∧ LA 12 wx D2 a22 n22 c22 P2 ∧ LA 12 wx D3 a23 n23 c23 P3 ∧ LA 12 wx D4 a24 n24 c24 P4 ∧ LA 12 wx D5 a25 n25 c25 P5 ∧ LA 0 wx 2 none 0 0 []))
      clear hk0 hB HK
      have hHeld := Below.refl Xh.heap.size Xh
      have HH := Lib.hid hHeld
      obtain ⟨hbw, _, _, _, _, _, _, _, _, _, _, _, _, _, _, _, _, _, _, _, _, _, _, _, _, _, _, gs0, gs1, gs2, gs3, gs4, gs5, g20, g21, g22, g23, g24, g25, g40⟩ := HS.out _ hHeld
      obtain ⟨b2, E2⟩ : ∃ b, Hid (sf D0 P0 D1 P1 D2 P2 = b) := ⟨_, Lib.hid rfl⟩
      have CC := self_m (g20.mono (by omega)) (g21.mono (by omega)) (g22.mono (by omega))
      rw [E2.out] at CC
      have CC := Lib.hid CC
      clear hHeld hbw gs0 gs1 gs2 gs3 gs4 gs5 g20 g21 g22 g23 g24 g25 g40
      obtain ⟨_, f0, f1, f2, f3, f4, f5, f6, f7, f8, f9, f10, f11, f12, f13, f14, f15, f16, f17, f18, f19, f20, f21, f22, f23, f24, f25, _, _, _, _, _, _, _, _, _, _, _, _, _⟩ := HS.out _ HH.out
      go_wp2_with fail
      refine CC.out.mono ?_
      clear CC f0 f1 f2 f3 f4 f5 f6 f7 f8 f9 f10 f11 f12 f13 f14 f15 f16 f17 f18 f19 f20 f21 f22 f23 f24 f25
      rintro e wz2 ⟨rfl, hb⟩
      have hHeld := HH.out.trans (hb.mono HH.out.size)
      clear HH hb
      have HH6 := Lib.hid hHeld
      clear hHeld
      go_upto_if 42 with fail
      go_cut [] (fun wx => Hid (Below Xh.heap.size Xh wx))
      case first =>
        cases b2
        · as_aux_lemma =>
          go_wp2_with fail
          go_meet
          exact HH6
        · as_aux_lemma =>
          have hHeld := HH6.out
          clear HH6
          go_upto_region 7 with fail
          have HH := Lib.hid hHeld
          obtain ⟨hbw, _, _, _, _, _, _, _, _, _, _, _, _, _, _, _, _, _, _, _, _, _, _, _, _, _, _, gs0, gs1, gs2, gs3, gs4, gs5, g20, g21, g22, g23, g24, g25, g40⟩ := HS.out _ hHeld
          have CC := Lib.hid (owns_m g22 (by omega))
          clear hHeld hbw gs0 gs1 gs2 gs3 gs4 gs5 g20 g21 g22 g23 g24 g25 g40
          obtain ⟨_, f0, f1, f2, f3, f4, f5, f6, f7, f8, f9, f10, f11, f12, f13, f14, f15, f16, f17, f18, f19, f20, f21, f22, f23, f24, f25, _, _, _, _, _, _, _, _, _, _, _, _, _⟩ := HS.out _ HH.out
          go_wp2_with fail
          refine CC.out.mono ?_
          clear CC f0 f1 f2 f3 f4 f5 f6 f7 f8 f9 f10 f11 f12 f13 f14 f15 f16 f17 f18 f19 f20 f21 f22 f23 f24 f25
          rintro e wz3 ⟨ao3, co3, rfl, hor3, hb⟩
          have hHeld := HH.out.trans (hb.mono HH.out.size)
          clear HH hb
          obtain ⟨no3, eno⟩ : ∃ q, (Lab.owns P2).length = q := ⟨_, rfl⟩
          rw [eno]
          have ENO3 := Lib.hid eno
          have HOR3 := Lib.hid hor3
          clear eno hor3
          have HNL := Lib.hid (show (Lab.owns P2).length ≤ 1000 by have := Lab.owns_le P2; have := FS2.out.1.2.2.2.2; omega)
          rw [ENO3.out] at HNL
          have HX6 := Lib.hid hHeld
          clear hHeld
          go_wp2_with fail
          go_loopg [47] no3 (fun gh s47 wr => ∃ k : Nat, k ≤ no3 ∧ gh = no3 - k ∧ s47 = .int .i64 k ∧ Hid (Below Xh.heap.size Xh wr ∧ OR wr ao3 (Lab.owns P2)))
          case atStart => exact ⟨0, by omega, by omega, rfl, Lib.hid ⟨HX6.out, HOR3.out⟩⟩
          case round =>
            obtain ⟨k, hk, hg, rfl, hI⟩ := hrel
            have HW := Lib.hid hI.out.1
            by_cases hlt : k < no3
            · as_aux_lemma =>
              obtain ⟨x, hx⟩ : ∃ x, (Lab.owns P2)[k]? = some x := ⟨_, List.getElem?_eq_getElem (by rw [ENO3.out]; exact hlt)⟩
              have hor := hI.out.2 k x hx
              have HMX := Lib.hid (List.mem_of_getElem? hx)
              obtain ⟨bc, oc, rfl, hbc, hcx⟩ := hor
              have l1 : (k : Int) < no3 := by omega
              have l2 := w_succ k (Nat.le_trans (Nat.le_of_lt hlt) HNL.out)
              have l3 := w_succ2 k (Nat.le_trans (Nat.le_of_lt hlt) HNL.out)
              clear hx
              have EL := Lib.hid (rise_self FS0.out.1 FS2.out.1 E2.out HMX.out)
              obtain ⟨_, f0, f1, f2, f3, f4, f5, f6, f7, f8, f9, f10, f11, f12, f13, f14, f15, f16, f17, f18, f19, f20, f21, f22, f23, f24, f25, gs0, gs1, gs2, gs3, gs4, gs5, g20, g21, g22, g23, g24, g25, g40⟩ := HS.out _ HW.out
              have CA := at_m x g20
              rw [EL.out] at CA
              have CA := Lib.hid CA
              clear gs0 gs1 gs2 gs3 gs4 gs5 g20 g21 g22 g23 g24 g25 g40
              go_wp2_with fail
              refine CA.out.mono ?_
              rintro e wy201 ⟨rfl, hb⟩
              have HZ201 := Lib.hid (HW.out.trans (hb.mono HW.out.size))
              have HOZ201 := Lib.hid (hI.out.2.below hb)
              clear hb CA f0 f1 f2 f3 f4 f5 f6 f7 f8 f9 f10 f11 f12 f13 f14 f15 f16 f17 f18 f19 f20 f21 f22 f23 f24 f25
              go_wp2_with fail
              go_roundg (no3 - (k + 1))
              case rel => exact ⟨k + 1, by omega, by omega, by simp, Lib.hid ⟨HZ201.out, HOZ201.out⟩⟩
              case measure => first | omega | (simp; omega)
            · as_aux_lemma =>
              have l1 : ¬ (k : Int) < no3 := by omega
              have hHeld := HW.out
              have HM := Lib.hid hHeld
              clear hHeld
              go_wp2_with fail
              go_meet
              exact HM
      case rest =>
        have hHeld := hcut.out
        clear hcut
        go_upto_region 13 with fail
        go_cut [76] (fun s76 wx => s76 = .bool false ∧ Hid (Below Xh.heap.size Xh wx))
        case first =>
          have HH := Lib.hid hHeld
          obtain ⟨hbw, _, _, _, _, _, _, _, _, _, _, _, _, _, _, _, _, _, _, _, _, _, _, _, _, _, _, gs0, gs1, gs2, gs3, gs4, gs5, g20, g21, g22, g23, g24, g25, g40⟩ := HS.out _ hHeld
          obtain ⟨b4, E4⟩ : ∃ b, Hid (gv D0 P0 D1 P1 2 [] D2 P2 D3 P3 = b) := ⟨_, Lib.hid rfl⟩
          have CC := give_m (g20.mono (by omega)) (g21.mono (by omega)) (g40.mono (by omega)) (g22.mono (by omega)) (g23.mono (by omega))
          rw [E4.out] at CC
          have CC := Lib.hid CC
          clear hHeld hbw gs0 gs1 gs2 gs3 gs4 gs5 g20 g21 g22 g23 g24 g25 g40
          obtain ⟨_, f0, f1, f2, f3, f4, f5, f6, f7, f8, f9, f10, f11, f12, f13, f14, f15, f16, f17, f18, f19, f20, f21, f22, f23, f24, f25, _, _, _, _, _, _, _, _, _, _, _, _, _⟩ := HS.out _ HH.out
          go_wp2_with fail
          refine CC.out.mono ?_
          clear CC f0 f1 f2 f3 f4 f5 f6 f7 f8 f9 f10 f11 f12 f13 f14 f15 f16 f17 f18 f19 f20 f21 f22 f23 f24 f25
          rintro e wz4 ⟨rfl, hb⟩
          have hHeld := HH.out.trans (hb.mono HH.out.size)
          clear HH hb
          cases b4
          · skip
            have HM := Lib.hid hHeld
            clear hHeld
            go_wp2_with fail
            go_meet
            exact ⟨rfl, HM⟩
          · skip
            have hgv := give_first E4.out
            have EG1 := Lib.hid hgv.1
            have EG2 := Lib.hid hgv.2
            clear hgv
            have HH := Lib.hid hHeld
            obtain ⟨hbw, _, _, _, _, _, _, _, _, _, _, _, _, _, _, _, _, _, _, _, _, _, _, _, _, _, _, gs0, gs1, gs2, gs3, gs4, gs5, g20, g21, g22, g23, g24, g25, g40⟩ := HS.out _ hHeld
            have CC := leq_m g20 g22 (by omega) (by omega)
            rw [EG1.out] at CC
            have CC := Lib.hid CC
            clear hHeld hbw gs0 gs1 gs2 gs3 gs4 gs5 g20 g21 g22 g23 g24 g25 g40
            obtain ⟨_, f0, f1, f2, f3, f4, f5, f6, f7, f8, f9, f10, f11, f12, f13, f14, f15, f16, f17, f18, f19, f20, f21, f22, f23, f24, f25, _, _, _, _, _, _, _, _, _, _, _, _, _⟩ := HS.out _ HH.out
            go_wp2_with fail
            refine CC.out.mono ?_
            clear CC f0 f1 f2 f3 f4 f5 f6 f7 f8 f9 f10 f11 f12 f13 f14 f15 f16 f17 f18 f19 f20 f21 f22 f23 f24 f25
            rintro e wz5 ⟨rfl, hb⟩
            have hHeld := HH.out.trans (hb.mono HH.out.size)
            clear HH hb
            have HH := Lib.hid hHeld
            obtain ⟨hbw, _, _, _, _, _, _, _, _, _, _, _, _, _, _, _, _, _, _, _, _, _, _, _, _, _, _, gs0, gs1, gs2, gs3, gs4, gs5, g20, g21, g22, g23, g24, g25, g40⟩ := HS.out _ hHeld
            have CC := leq_m g23 g21 (by omega) (by omega)
            rw [EG2.out] at CC
            have CC := Lib.hid CC
            clear hHeld hbw gs0 gs1 gs2 gs3 gs4 gs5 g20 g21 g22 g23 g24 g25 g40
            obtain ⟨_, f0, f1, f2, f3, f4, f5, f6, f7, f8, f9, f10, f11, f12, f13, f14, f15, f16, f17, f18, f19, f20, f21, f22, f23, f24, f25, _, _, _, _, _, _, _, _, _, _, _, _, _⟩ := HS.out _ HH.out
            go_wp2_with fail
            refine CC.out.mono ?_
            clear CC f0 f1 f2 f3 f4 f5 f6 f7 f8 f9 f10 f11 f12 f13 f14 f15 f16 f17 f18 f19 f20 f21 f22 f23 f24 f25
            rintro e wz6 ⟨rfl, hb⟩
            have hHeld := HH.out.trans (hb.mono HH.out.size)
            clear HH hb
            have HM := Lib.hid hHeld
            clear hHeld
            go_wp2_with fail
            go_meet
            exact ⟨rfl, HM⟩
        case rest =>
          obtain ⟨rfl, hHx⟩ := hcut
          have hHeld := hHx.out
          clear hHx
          go_upto_region 15 with fail
          have HH := Lib.hid hHeld
          obtain ⟨hbw, _, _, _, _, _, _, _, _, _, _, _, _, _, _, _, _, _, _, _, _, _, _, _, _, _, _, gs0, gs1, gs2, gs3, gs4, gs5, g20, g21, g22, g23, g24, g25, g40⟩ := HS.out _ hHeld
          obtain ⟨b7, E7⟩ : ∃ b, Hid (en D0 P0 D1 P1 2 [] D4 P4 D5 P5 D2 P2 D3 P3 = b) := ⟨_, Lib.hid rfl⟩
          have CC := enter_m (g20.mono (by omega)) (g21.mono (by omega)) (g40.mono (by omega)) (g24.mono (by omega)) (g25.mono (by omega)) (g22.mono (by omega)) (g23.mono (by omega))
          rw [E7.out] at CC
          have CC := Lib.hid CC
          clear hHeld hbw gs0 gs1 gs2 gs3 gs4 gs5 g20 g21 g22 g23 g24 g25 g40
          obtain ⟨_, f0, f1, f2, f3, f4, f5, f6, f7, f8, f9, f10, f11, f12, f13, f14, f15, f16, f17, f18, f19, f20, f21, f22, f23, f24, f25, _, _, _, _, _, _, _, _, _, _, _, _, _⟩ := HS.out _ HH.out
          go_wp2_with fail
          refine CC.out.mono ?_
          clear CC f0 f1 f2 f3 f4 f5 f6 f7 f8 f9 f10 f11 f12 f13 f14 f15 f16 f17 f18 f19 f20 f21 f22 f23 f24 f25
          rintro e wz7 ⟨rfl, hb⟩
          have hHeld := HH.out.trans (hb.mono HH.out.size)
          clear HH hb
          cases b7
          · skip
            have HE := Lib.hid (HS.out _ hHeld).1
            clear hHeld
            go_wp2_with fail
            go_ret
            exact ⟨rfl, HE.out⟩
          · skip
            go_upto_region 17 with fail
            have HH := Lib.hid hHeld
            obtain ⟨hbw, _, _, _, _, _, _, _, _, _, _, _, _, _, _, _, _, _, _, _, _, _, _, _, _, _, _, gs0, gs1, gs2, gs3, gs4, gs5, g20, g21, g22, g23, g24, g25, g40⟩ := HS.out _ hHeld
            have CC := Lib.hid (owns_m g22 (by omega))
            clear hHeld hbw gs0 gs1 gs2 gs3 gs4 gs5 g20 g21 g22 g23 g24 g25 g40
            obtain ⟨_, f0, f1, f2, f3, f4, f5, f6, f7, f8, f9, f10, f11, f12, f13, f14, f15, f16, f17, f18, f19, f20, f21, f22, f23, f24, f25, _, _, _, _, _, _, _, _, _, _, _, _, _⟩ := HS.out _ HH.out
            go_wp2_with fail
            refine CC.out.mono ?_
            clear CC f0 f1 f2 f3 f4 f5 f6 f7 f8 f9 f10 f11 f12 f13 f14 f15 f16 f17 f18 f19 f20 f21 f22 f23 f24 f25
            rintro e wz8 ⟨ao8, co8, rfl, hor8, hb⟩
            have hHeld := HH.out.trans (hb.mono HH.out.size)
            clear HH hb
            obtain ⟨no8, eno⟩ : ∃ q, (Lab.owns P2).length = q := ⟨_, rfl⟩
            rw [eno]
            have ENO8 := Lib.hid eno
            have HOR8 := Lib.hid hor8
            clear eno hor8
            have HNL := Lib.hid (show (Lab.owns P2).length ≤ 1000 by have := Lab.owns_le P2; have := FS2.out.1.2.2.2.2; omega)
            rw [ENO8.out] at HNL
            have HX6 := Lib.hid hHeld
            clear hHeld
            go_wp2_with fail
            go_loopg [87] no8 (fun gh s87 wr => ∃ k : Nat, k ≤ no8 ∧ gh = no8 - k ∧ s87 = .int .i64 k ∧ Hid (Below Xh.heap.size Xh wr ∧ OR wr ao8 (Lab.owns P2)))
            case atStart => exact ⟨0, by omega, by omega, rfl, Lib.hid ⟨HX6.out, HOR8.out⟩⟩
            case round =>
              obtain ⟨k, hk, hg, rfl, hI⟩ := hrel
              have HW := Lib.hid hI.out.1
              by_cases hlt : k < no8
              · as_aux_lemma =>
                obtain ⟨x, hx⟩ : ∃ x, (Lab.owns P2)[k]? = some x := ⟨_, List.getElem?_eq_getElem (by rw [ENO8.out]; exact hlt)⟩
                have hor := hI.out.2 k x hx
                have HMX := Lib.hid (List.mem_of_getElem? hx)
                obtain ⟨bc, oc, rfl, hbc, hcx⟩ := hor
                have l1 : (k : Int) < no8 := by omega
                have l2 := w_succ k (Nat.le_trans (Nat.le_of_lt hlt) HNL.out)
                have l3 := w_succ2 k (Nat.le_trans (Nat.le_of_lt hlt) HNL.out)
                clear hx
                have hT := rise_enter FS0.out.1 FS4.out.1 FS2.out.1 E7.out HMX.out
                obtain ⟨la, ela⟩ : ∃ q, Lab.at' D0 P0 x = q := ⟨_, rfl⟩
                rw [ela] at hT
                have EL := Lib.hid ela
                clear ela
                have HT := Lib.hid hT
                clear hT
                obtain ⟨_, f0, f1, f2, f3, f4, f5, f6, f7, f8, f9, f10, f11, f12, f13, f14, f15, f16, f17, f18, f19, f20, f21, f22, f23, f24, f25, gs0, gs1, gs2, gs3, gs4, gs5, g20, g21, g22, g23, g24, g25, g40⟩ := HS.out _ HW.out
                have CA := at_m x g20
                rw [EL.out] at CA
                have CA := Lib.hid CA
                clear gs0 gs1 gs2 gs3 gs4 gs5 g20 g21 g22 g23 g24 g25 g40
                go_wp2_with fail
                refine CA.out.mono ?_
                rintro e wy202 ⟨rfl, hb⟩
                have HZ202 := Lib.hid (HW.out.trans (hb.mono HW.out.size))
                have HOZ202 := Lib.hid (hI.out.2.below hb)
                clear hb CA f0 f1 f2 f3 f4 f5 f6 f7 f8 f9 f10 f11 f12 f13 f14 f15 f16 f17 f18 f19 f20 f21 f22 f23 f24 f25
                by_cases e0 : la = 0
                · as_aux_lemma =>
                  subst e0
                  go_wp2_with fail
                  go_roundg (no8 - (k + 1))
                  case rel => exact ⟨k + 1, by omega, by omega, by simp, Lib.hid ⟨HZ202.out, HOZ202.out⟩⟩
                  case measure => first | omega | (simp; omega)
                · as_aux_lemma =>
                  have t1 : (la != 0) = true := by simp [e0]
                  have EL2 := Lib.hid (HT.out.resolve_left e0)
                  obtain ⟨_, f0, f1, f2, f3, f4, f5, f6, f7, f8, f9, f10, f11, f12, f13, f14, f15, f16, f17, f18, f19, f20, f21, f22, f23, f24, f25, gs0, gs1, gs2, gs3, gs4, gs5, g20, g21, g22, g23, g24, g25, g40⟩ := HS.out _ HZ202.out
                  have CA := at_m x g24
                  rw [EL2.out] at CA
                  have CA := Lib.hid CA
                  clear gs0 gs1 gs2 gs3 gs4 gs5 g20 g21 g22 g23 g24 g25 g40
                  go_wp2_with fail
                  refine CA.out.mono ?_
                  rintro e wy203 ⟨rfl, hb⟩
                  have HZ203 := Lib.hid (HZ202.out.trans (hb.mono HZ202.out.size))
                  have HOZ203 := Lib.hid (HOZ202.out.below hb)
                  clear hb CA f0 f1 f2 f3 f4 f5 f6 f7 f8 f9 f10 f11 f12 f13 f14 f15 f16 f17 f18 f19 f20 f21 f22 f23 f24 f25
                  go_wp2_with fail
                  go_roundg (no8 - (k + 1))
                  case rel => exact ⟨k + 1, by omega, by omega, by simp, Lib.hid ⟨HZ203.out, HOZ203.out⟩⟩
                  case measure => first | omega | (simp; omega)
              · as_aux_lemma =>
                have l1 : ¬ (k : Int) < no8 := by omega
                have hHeld := HW.out
                obtain ⟨_, f0, f1, f2, f3, f4, f5, f6, f7, f8, f9, f10, f11, f12, f13, f14, f15, f16, f17, f18, f19, f20, f21, f22, f23, f24, f25, gs0, gs1, gs2, gs3, gs4, gs5, g20, g21, g22, g23, g24, g25, g40⟩ := HS.out _ hHeld
                have HN := Lib.hid (show n20 = P0.length from g20.len)
                have HN12 := Lib.hid (show n20 ≤ 1000 from by have := HN.out; have := FS0.out.1.2.2.2.2; omega)
                have HX7 := Lib.hid hHeld
                clear hHeld gs0 gs1 gs2 gs3 gs4 gs5 g20 g21 g22 g23 g24 g25 g40
                go_wp2_with fail
                clear f0 f1 f2 f3 f4 f5 f6 f7 f8 f9 f10 f11 f12 f13 f14 f15 f16 f17 f18 f19 f20 f21 f22 f23 f24 f25
                go_loopg [108] n20 (fun gh s108 wr => ∃ k : Nat, k ≤ n20 ∧ gh = n20 - k ∧ s108 = .int .i64 k ∧ Hid (Below Xh.heap.size Xh wr))
                case atStart => exact ⟨0, by omega, by omega, rfl, HX7⟩
                case round =>
                  obtain ⟨k, hk, hg, rfl, hI⟩ := hrel
                  by_cases hlt : k < n20
                  · as_aux_lemma =>
                    obtain ⟨p, hp⟩ : ∃ p, P0[k]? = some p := ⟨_, List.getElem?_eq_getElem (by rw [← HN.out]; exact hlt)⟩
                    obtain ⟨x, lx⟩ := p
                    have HPX := Lib.hid (List.mem_of_getElem? hp)
                    obtain ⟨_, _, _, _, _, _, _, _, _, _, _, _, _, _, _, _, _, _, _, _, _, _, _, _, _, _, _, gs0, gs1, gs2, gs3, gs4, gs5, g20, g21, g22, g23, g24, g25, g40⟩ := HS.out _ hI.out
                    obtain ⟨b, off, rfl, hbb, hc0, hc1⟩ := g20.pair hp
                    simp only [] at hc0 hc1
                    clear hp gs0 gs1 gs2 gs3 gs4 gs5 g20 g21 g22 g23 g24 g25 g40
                    have l1 : (k : Int) < n20 := by omega
                    have l2 := w_succ k (Nat.le_trans (Nat.le_of_lt hlt) HN12.out)
                    have l3 := w_succ2 k (Nat.le_trans (Nat.le_of_lt hlt) HN12.out)
                    have hb3 := below_alloc1 wr (Obj.cells #[.int .u32 (x : Nat), .int .i64 lx] 61)
                    obtain ⟨Wp, eX⟩ : ∃ X, X = wr.alloc (Obj.cells #[.int .u32 (x : Nat), .int .i64 lx] 61) := ⟨_, rfl⟩
                    have HK := Lib.hid (show Wp.heap[wr.heap.size]? = some (Obj.cells #[.int .u32 (x : Nat), .int .i64 lx] 61) from by rw [eX]; exact heap_alloc_new _ _)
                    have HP := Lib.hid (show Below Xh.heap.size Xh Wp from by rw [eX]; exact hI.out.trans (hb3.mono hI.out.size))
                    clear hb3
                    go_upto_region 26 with fail
                    rw [← eX]
                    obtain ⟨Vp, eA⟩ : ∃ A, A = wr.heap.size := ⟨_, rfl⟩
                    rw [← eA] at HK ⊢
                    clear eX eA hc0 hc1 hbb
                    have HKS := Lib.hid (fun (wS : World) (h : Below Wp.heap.size Wp wS) => (⟨by rw [cell_of_row _ _ 0 _ 61 (0, 0) (block_below HK.out h)]; rfl, by rw [cell_of_row _ _ 1 _ 61 (0, 0) (block_below HK.out h)]; rfl⟩ : wS.cell? ⟨Vp, 0, none⟩ = some (.int .u32 (x : Nat)) ∧ wS.cell? ⟨Vp, 1, none⟩ = some (.int .i64 lx)))
                    obtain ⟨lw, elw⟩ : ∃ q, Lab.at' D2 P2 x = q := ⟨_, rfl⟩
                    have ELW := Lib.hid elw
                    have h0w : 0 ≤ lw := by rw [← elw]; exact (fine_at FS2.out.1 x).1
                    have HKP := Lib.hid (fun (h : lw < lx) => (rise_keeps FS0.out.1 FS4.out.1 E7.out HPX.out (by rw [elw]; exact h) (by rw [elw]; exact h0w) : Lab.at' D4 P4 x = 0))
                    clear elw h0w
                    refine region_AU (Z := fun j => false) (S := fun w' => Below Wp.heap.size Wp w') (by kernel_rfl) ((Below.refl _ _).drew) (fun hHeld => ?_)
                    refine AUS_take (by kernel_rfl) rfl (i := 0) (oi := _) (v := ?vw1) rfl (by kernel_rfl) (by kernel_rfl) (by kernel_rfl) (fun _ _ _ h => h) (Or.inl ⟨by rfl, ?hz1⟩) hHeld ?rst1
                    case hz1 => (intro wS hSw; obtain ⟨p0, p1⟩ := HKS.out wS hSw; obtain ⟨_, f0, f1, f2, f3, f4, f5, f6, f7, f8, f9, f10, f11, f12, f13, f14, f15, f16, f17, f18, f19, f20, f21, f22, f23, f24, f25, _, _, _, _, _, _, _, _, _, _, _, _, _⟩ := HS.out wS (HP.out.trans (hSw.mono HP.out.size)); clear hSw; go_simp; try with_reducible rfl)
                    simp only [Act.put, List.getElem_toArray, List.getElem_cons_zero, List.getElem_cons_succ, List.setIfInBounds_toArray, List.set_cons_zero, List.set_cons_succ]
                    refine AUS_take (by kernel_rfl) rfl (i := 1) (oi := _) (v := ?vw2) rfl (by kernel_rfl) (by kernel_rfl) (by kernel_rfl) (fun _ _ _ h => h) (Or.inl ⟨by rfl, ?hz2⟩) hHeld ?rst2
                    case hz2 => (intro wS hSw; obtain ⟨p0, p1⟩ := HKS.out wS hSw; obtain ⟨_, f0, f1, f2, f3, f4, f5, f6, f7, f8, f9, f10, f11, f12, f13, f14, f15, f16, f17, f18, f19, f20, f21, f22, f23, f24, f25, _, _, _, _, _, _, _, _, _, _, _, _, _⟩ := HS.out wS (HP.out.trans (hSw.mono HP.out.size)); clear hSw; go_simp; try with_reducible rfl)
                    simp only [Act.put, List.getElem_toArray, List.getElem_cons_zero, List.getElem_cons_succ, List.setIfInBounds_toArray, List.set_cons_zero, List.set_cons_succ]
                    refine AUS_take (by kernel_rfl) rfl (i := 2) (oi := _) (v := ?vw3) rfl (by kernel_rfl) (by kernel_rfl) (by kernel_rfl) (fun _ _ _ h => h) (Or.inl ⟨by rfl, ?hz3⟩) hHeld ?rst3
                    case hz3 => (intro wS hSw; obtain ⟨p0, p1⟩ := HKS.out wS hSw; obtain ⟨_, f0, f1, f2, f3, f4, f5, f6, f7, f8, f9, f10, f11, f12, f13, f14, f15, f16, f17, f18, f19, f20, f21, f22, f23, f24, f25, _, _, _, _, _, _, _, _, _, _, _, _, _⟩ := HS.out wS (HP.out.trans (hSw.mono HP.out.size)); clear hSw; go_simp; try with_reducible rfl)
                    simp only [Act.put, List.getElem_toArray, List.getElem_cons_zero, List.getElem_cons_succ, List.setIfInBounds_toArray, List.set_cons_zero, List.set_cons_succ]
                    refine AUS_take (by kernel_rfl) rfl (i := 3) (oi := _) (v := ?vw4) rfl (by kernel_rfl) (by kernel_rfl) (by kernel_rfl) (fun _ _ _ h => h) (Or.inl ⟨by rfl, ?hz4⟩) hHeld ?rst4
                    case hz4 => (intro wS hSw; obtain ⟨p0, p1⟩ := HKS.out wS hSw; obtain ⟨_, f0, f1, f2, f3, f4, f5, f6, f7, f8, f9, f10, f11, f12, f13, f14, f15, f16, f17, f18, f19, f20, f21, f22, f23, f24, f25, _, _, _, _, _, _, _, _, _, _, _, _, _⟩ := HS.out wS (HP.out.trans (hSw.mono HP.out.size)); clear hSw; go_simp; try with_reducible rfl)
                    simp only [Act.put, List.getElem_toArray, List.getElem_cons_zero, List.getElem_cons_succ, List.setIfInBounds_toArray, List.set_cons_zero, List.set_cons_succ]
                    refine AUS_take (by kernel_rfl) rfl (i := 5) (oi := _) (v := ?vw5) rfl (by kernel_rfl) (by kernel_rfl) (by kernel_rfl) (fun _ _ _ h => h) (Or.inl ⟨by rfl, ?hz5⟩) hHeld ?rst5
                    case hz5 => (intro wS hSw; obtain ⟨p0, p1⟩ := HKS.out wS hSw; obtain ⟨_, f0, f1, f2, f3, f4, f5, f6, f7, f8, f9, f10, f11, f12, f13, f14, f15, f16, f17, f18, f19, f20, f21, f22, f23, f24, f25, _, _, _, _, _, _, _, _, _, _, _, _, _⟩ := HS.out wS (HP.out.trans (hSw.mono HP.out.size)); clear hSw; go_simp; try with_reducible rfl)
                    simp only [Act.put, List.getElem_toArray, List.getElem_cons_zero, List.getElem_cons_succ, List.setIfInBounds_toArray, List.set_cons_zero, List.set_cons_succ]
                    refine AUS_take (by kernel_rfl) rfl (i := 6) (oi := _) (v := ?vw6) rfl (by kernel_rfl) (by kernel_rfl) (by kernel_rfl) (fun _ _ _ h => h) (Or.inl ⟨by rfl, ?hz6⟩) hHeld ?rst6
                    case hz6 => (intro wS hSw; obtain ⟨p0, p1⟩ := HKS.out wS hSw; obtain ⟨_, f0, f1, f2, f3, f4, f5, f6, f7, f8, f9, f10, f11, f12, f13, f14, f15, f16, f17, f18, f19, f20, f21, f22, f23, f24, f25, _, _, _, _, _, _, _, _, _, _, _, _, _⟩ := HS.out wS (HP.out.trans (hSw.mono HP.out.size)); clear hSw; go_simp; try with_reducible rfl)
                    simp only [Act.put, List.getElem_toArray, List.getElem_cons_zero, List.getElem_cons_succ, List.setIfInBounds_toArray, List.set_cons_zero, List.set_cons_succ]
                    have HH := Lib.hid hHeld
                    obtain ⟨_, _, _, _, _, _, _, _, _, _, _, _, _, _, _, _, _, _, _, _, _, _, _, _, _, _, _, gs0, gs1, gs2, gs3, gs4, gs5, g20, g21, g22, g23, g24, g25, g40⟩ := HS.out _ (HP.out.trans (hHeld.mono HP.out.size))
                    refine AU_one (i := 4) (o := _) (by kernel_rfl) rfl (fun K hK => ?_)
                    have CA := at_m x g22
                    rw [ELW.out] at CA
                    have CA := Lib.hid CA
                    clear hHeld gs0 gs1 gs2 gs3 gs4 gs5 g20 g21 g22 g23 g24 g25 g40
                    go_simp
                    refine CA.out.mono ?_
                    clear CA
                    rintro e wy204 ⟨rfl, hb⟩
                    have hHeld := HH.out.trans (hb.mono HH.out.size)
                    clear HH hb
                    refine hK.out _ _ (fun _ => hHeld) ?_
                    clear hK K
                    try simp only [Act.put, List.getElem_toArray, List.getElem_cons_zero, List.getElem_cons_succ, List.setIfInBounds_toArray, List.set_cons_zero, List.set_cons_succ]
                    by_cases hl : lw < lx
                    · as_aux_lemma =>
                      have EL4 := Lib.hid (HKP.out hl)
                      have t1 : decide (lw < lx) = true := by simpa using hl
                      refine AUS_take (by kernel_rfl) rfl (i := 7) (oi := _) (v := ?vw7) rfl (by kernel_rfl) (by kernel_rfl) (by kernel_rfl) (fun _ _ _ h => h) (Or.inl ⟨by rfl, ?hz7⟩) hHeld ?rst7
                      case hz7 => (intro wS hSw; obtain ⟨p0, p1⟩ := HKS.out wS hSw; obtain ⟨_, f0, f1, f2, f3, f4, f5, f6, f7, f8, f9, f10, f11, f12, f13, f14, f15, f16, f17, f18, f19, f20, f21, f22, f23, f24, f25, _, _, _, _, _, _, _, _, _, _, _, _, _⟩ := HS.out wS (HP.out.trans (hSw.mono HP.out.size)); clear hSw; go_simp; try with_reducible rfl)
                      simp only [Act.put, List.getElem_toArray, List.getElem_cons_zero, List.getElem_cons_succ, List.setIfInBounds_toArray, List.set_cons_zero, List.set_cons_succ]
                      refine AUS_take (by kernel_rfl) rfl (i := 8) (oi := _) (v := ?vw8) rfl (by kernel_rfl) (by kernel_rfl) (by kernel_rfl) (fun _ _ _ h => h) (Or.inl ⟨by rfl, ?hz8⟩) hHeld ?rst8
                      case hz8 => (intro wS hSw; obtain ⟨p0, p1⟩ := HKS.out wS hSw; obtain ⟨_, f0, f1, f2, f3, f4, f5, f6, f7, f8, f9, f10, f11, f12, f13, f14, f15, f16, f17, f18, f19, f20, f21, f22, f23, f24, f25, _, _, _, _, _, _, _, _, _, _, _, _, _⟩ := HS.out wS (HP.out.trans (hSw.mono HP.out.size)); clear hSw; go_simp; try with_reducible rfl)
                      simp only [Act.put, List.getElem_toArray, List.getElem_cons_zero, List.getElem_cons_succ, List.setIfInBounds_toArray, List.set_cons_zero, List.set_cons_succ]
                      refine AUS_take (by kernel_rfl) rfl (i := 9) (oi := _) (v := ?vw9) rfl (by kernel_rfl) (by kernel_rfl) (by kernel_rfl) (fun _ _ _ h => h) (Or.inl ⟨by rfl, ?hz9⟩) hHeld ?rst9
                      case hz9 => (intro wS hSw; obtain ⟨p0, p1⟩ := HKS.out wS hSw; obtain ⟨_, f0, f1, f2, f3, f4, f5, f6, f7, f8, f9, f10, f11, f12, f13, f14, f15, f16, f17, f18, f19, f20, f21, f22, f23, f24, f25, _, _, _, _, _, _, _, _, _, _, _, _, _⟩ := HS.out wS (HP.out.trans (hSw.mono HP.out.size)); clear hSw; go_simp; try with_reducible rfl)
                      simp only [Act.put, List.getElem_toArray, List.getElem_cons_zero, List.getElem_cons_succ, List.setIfInBounds_toArray, List.set_cons_zero, List.set_cons_succ]
                      refine AUS_take (by kernel_rfl) rfl (i := 10) (oi := _) (v := ?vw10) rfl (by kernel_rfl) (by kernel_rfl) (by kernel_rfl) (fun _ _ _ h => h) (Or.inl ⟨by rfl, ?hz10⟩) hHeld ?rst10
                      case hz10 => (intro wS hSw; obtain ⟨p0, p1⟩ := HKS.out wS hSw; obtain ⟨_, f0, f1, f2, f3, f4, f5, f6, f7, f8, f9, f10, f11, f12, f13, f14, f15, f16, f17, f18, f19, f20, f21, f22, f23, f24, f25, _, _, _, _, _, _, _, _, _, _, _, _, _⟩ := HS.out wS (HP.out.trans (hSw.mono HP.out.size)); clear hSw; go_simp; try with_reducible rfl)
                      simp only [Act.put, List.getElem_toArray, List.getElem_cons_zero, List.getElem_cons_succ, List.setIfInBounds_toArray, List.set_cons_zero, List.set_cons_succ]
                      refine AUS_take (by kernel_rfl) rfl (i := 11) (oi := _) (v := ?vw11) rfl (by kernel_rfl) (by kernel_rfl) (by kernel_rfl) (fun _ _ _ h => h) (Or.inl ⟨by rfl, ?hz11⟩) hHeld ?rst11
                      case hz11 => (intro wS hSw; obtain ⟨p0, p1⟩ := HKS.out wS hSw; obtain ⟨_, f0, f1, f2, f3, f4, f5, f6, f7, f8, f9, f10, f11, f12, f13, f14, f15, f16, f17, f18, f19, f20, f21, f22, f23, f24, f25, _, _, _, _, _, _, _, _, _, _, _, _, _⟩ := HS.out wS (HP.out.trans (hSw.mono HP.out.size)); clear hSw; go_simp; try with_reducible rfl)
                      simp only [Act.put, List.getElem_toArray, List.getElem_cons_zero, List.getElem_cons_succ, List.setIfInBounds_toArray, List.set_cons_zero, List.set_cons_succ]
                      refine AUS_take (by kernel_rfl) rfl (i := 12) (oi := _) (v := ?vw12) rfl (by kernel_rfl) (by kernel_rfl) (by kernel_rfl) (fun _ _ _ h => h) (Or.inl ⟨by rfl, ?hz12⟩) hHeld ?rst12
                      case hz12 => (intro wS hSw; obtain ⟨p0, p1⟩ := HKS.out wS hSw; obtain ⟨_, f0, f1, f2, f3, f4, f5, f6, f7, f8, f9, f10, f11, f12, f13, f14, f15, f16, f17, f18, f19, f20, f21, f22, f23, f24, f25, _, _, _, _, _, _, _, _, _, _, _, _, _⟩ := HS.out wS (HP.out.trans (hSw.mono HP.out.size)); clear hSw; go_simp; try with_reducible rfl)
                      simp only [Act.put, List.getElem_toArray, List.getElem_cons_zero, List.getElem_cons_succ, List.setIfInBounds_toArray, List.set_cons_zero, List.set_cons_succ]
                      have HH := Lib.hid hHeld
                      obtain ⟨_, _, _, _, _, _, _, _, _, _, _, _, _, _, _, _, _, _, _, _, _, _, _, _, _, _, _, gs0, gs1, gs2, gs3, gs4, gs5, g20, g21, g22, g23, g24, g25, g40⟩ := HS.out _ (HP.out.trans (hHeld.mono HP.out.size))
                      refine AU_one (i := 13) (o := _) (by kernel_rfl) rfl (fun K hK => ?_)
                      have CA := at_m x g24
                      rw [EL4.out] at CA
                      have CA := Lib.hid CA
                      clear hHeld gs0 gs1 gs2 gs3 gs4 gs5 g20 g21 g22 g23 g24 g25 g40
                      go_simp
                      refine CA.out.mono ?_
                      clear CA
                      rintro e wy205 ⟨rfl, hb⟩
                      have hHeld := HH.out.trans (hb.mono HH.out.size)
                      clear HH hb
                      refine hK.out _ _ (fun _ => hHeld) ?_
                      clear hK K
                      try simp only [Act.put, List.getElem_toArray, List.getElem_cons_zero, List.getElem_cons_succ, List.setIfInBounds_toArray, List.set_cons_zero, List.set_cons_succ]
                      refine AUS_take (by kernel_rfl) rfl (i := 14) (oi := _) (v := ?vw13) rfl (by kernel_rfl) (by kernel_rfl) (by kernel_rfl) (fun _ _ _ h => h) (Or.inl ⟨by rfl, ?hz13⟩) hHeld ?rst13
                      case hz13 => (intro wS hSw; skip; clear hSw; go_simp; try with_reducible rfl)
                      simp only [Act.put, List.getElem_toArray, List.getElem_cons_zero, List.getElem_cons_succ, List.setIfInBounds_toArray, List.set_cons_zero, List.set_cons_succ]
                      refine AUS_take (by kernel_rfl) rfl (i := 15) (oi := _) (v := ?vw14) rfl (by kernel_rfl) (by kernel_rfl) (by kernel_rfl) (fun _ _ _ h => h) (Or.inl ⟨by rfl, ?hz14⟩) hHeld ?rst14
                      case hz14 => (intro wS hSw; skip; clear hSw; go_simp; try with_reducible rfl)
                      simp only [Act.put, List.getElem_toArray, List.getElem_cons_zero, List.getElem_cons_succ, List.setIfInBounds_toArray, List.set_cons_zero, List.set_cons_succ]
                      have HZ := Lib.hid (HP.out.trans (hHeld.mono HP.out.size))
                      clear hHeld
                      refine AU_done (by kernel_rfl) ?_ _
                      simp only [OnlyN]
                      go_wp2_with fail
                      go_roundg (n20 - (k + 1))
                      case rel => exact ⟨k + 1, by omega, by omega, by simp, HZ⟩
                      case measure => first | omega | (simp; omega)
                    · as_aux_lemma =>
                      have t1 : decide (lw < lx) = false := by simpa using hl
                      refine AUS_take (by kernel_rfl) rfl (i := 7) (oi := _) (v := ?vw15) rfl (by kernel_rfl) (by kernel_rfl) (by kernel_rfl) (fun _ _ _ h => h) (Or.inl ⟨by rfl, ?hz15⟩) hHeld ?rst15
                      case hz15 => (intro wS hSw; skip; clear hSw; go_simp; try with_reducible rfl)
                      simp only [Act.put, List.getElem_toArray, List.getElem_cons_zero, List.getElem_cons_succ, List.setIfInBounds_toArray, List.set_cons_zero, List.set_cons_succ]
                      refine AUS_take (by kernel_rfl) rfl (i := 8) (oi := _) (v := ?vw16) rfl (by kernel_rfl) (by kernel_rfl) (by kernel_rfl) (fun _ _ _ h => h) (Or.inl ⟨by rfl, ?hz16⟩) hHeld ?rst16
                      case hz16 => (intro wS hSw; skip; clear hSw; go_simp; try with_reducible rfl)
                      simp only [Act.put, List.getElem_toArray, List.getElem_cons_zero, List.getElem_cons_succ, List.setIfInBounds_toArray, List.set_cons_zero, List.set_cons_succ]
                      refine AUS_take (by kernel_rfl) rfl (i := 9) (oi := _) (v := undef) rfl (by kernel_rfl) (by kernel_rfl) (by kernel_rfl) (fun _ _ _ h => h) (Or.inr ⟨by rfl, rfl⟩) hHeld ?rst17
                      try simp only [Act.put, List.getElem_toArray, List.getElem_cons_zero, List.getElem_cons_succ, List.setIfInBounds_toArray, List.set_cons_zero, List.set_cons_succ]
                      refine AUS_take (by kernel_rfl) rfl (i := 10) (oi := _) (v := undef) rfl (by kernel_rfl) (by kernel_rfl) (by kernel_rfl) (fun _ _ _ h => h) (Or.inr ⟨by rfl, rfl⟩) hHeld ?rst18
                      try simp only [Act.put, List.getElem_toArray, List.getElem_cons_zero, List.getElem_cons_succ, List.setIfInBounds_toArray, List.set_cons_zero, List.set_cons_succ]
                      refine AUS_take (by kernel_rfl) rfl (i := 11) (oi := _) (v := undef) rfl (by kernel_rfl) (by kernel_rfl) (by kernel_rfl) (fun _ _ _ h => h) (Or.inr ⟨by rfl, rfl⟩) hHeld ?rst19
                      try simp only [Act.put, List.getElem_toArray, List.getElem_cons_zero, List.getElem_cons_succ, List.setIfInBounds_toArray, List.set_cons_zero, List.set_cons_succ]
                      refine AUS_take (by kernel_rfl) rfl (i := 12) (oi := _) (v := undef) rfl (by kernel_rfl) (by kernel_rfl) (by kernel_rfl) (fun _ _ _ h => h) (Or.inr ⟨by rfl, rfl⟩) hHeld ?rst20
                      try simp only [Act.put, List.getElem_toArray, List.getElem_cons_zero, List.getElem_cons_succ, List.setIfInBounds_toArray, List.set_cons_zero, List.set_cons_succ]
                      refine AUS_take (by kernel_rfl) rfl (i := 13) (oi := _) (v := undef) rfl (by kernel_rfl) (by kernel_rfl) (by kernel_rfl) (fun _ _ _ h => h) (Or.inr ⟨by rfl, rfl⟩) hHeld ?rst21
                      try simp only [Act.put, List.getElem_toArray, List.getElem_cons_zero, List.getElem_cons_succ, List.setIfInBounds_toArray, List.set_cons_zero, List.set_cons_succ]
                      refine AUS_take (by kernel_rfl) rfl (i := 14) (oi := _) (v := undef) rfl (by kernel_rfl) (by kernel_rfl) (by kernel_rfl) (fun _ _ _ h => h) (Or.inr ⟨by rfl, rfl⟩) hHeld ?rst22
                      try simp only [Act.put, List.getElem_toArray, List.getElem_cons_zero, List.getElem_cons_succ, List.setIfInBounds_toArray, List.set_cons_zero, List.set_cons_succ]
                      refine AUS_take (by kernel_rfl) rfl (i := 15) (oi := _) (v := ?vw23) rfl (by kernel_rfl) (by kernel_rfl) (by kernel_rfl) (fun _ _ _ h => h) (Or.inl ⟨by rfl, ?hz23⟩) hHeld ?rst23
                      case hz23 => (intro wS hSw; skip; clear hSw; go_simp; try with_reducible rfl)
                      simp only [Act.put, List.getElem_toArray, List.getElem_cons_zero, List.getElem_cons_succ, List.setIfInBounds_toArray, List.set_cons_zero, List.set_cons_succ]
                      have HZ := Lib.hid (HP.out.trans (hHeld.mono HP.out.size))
                      clear hHeld
                      refine AU_done (by kernel_rfl) ?_ _
                      simp only [OnlyN]
                      go_wp2_with fail
                      go_roundg (n20 - (k + 1))
                      case rel => exact ⟨k + 1, by omega, by omega, by simp, HZ⟩
                      case measure => first | omega | (simp; omega)
                  · as_aux_lemma =>
                    have l1 : ¬ (k : Int) < n20 := by omega
                    have hHeld := hI.out
                    have HE := Lib.hid (HS.out _ hHeld).1
                    clear hHeld
                    go_wp2_with fail
                    go_ret
                    exact ⟨rfl, HE.out⟩
end Go.Proofs.Ytmbdglhihakkjaa
