import Derived.Test.YtlkhbbdigljpjaaUe
namespace Go.Proofs.Ytlkhbbdigljpjaa
open Go.RowKit
set_option linter.unusedVariables false
set_option linter.unusedSimpArgs false

set_option maxRecDepth 100000 in
set_option maxHeartbeats 4000000 in
theorem dual_law (S0 S1 S2 : Int) (v0 v1 v2 : Value) (w : World) (h0 : Ints w v0) (h1 : Ints w v1) (h2 : Ints w v2) :
    Calls Try.prog 9 #[.agg #[.int .i64 S0, v0], .agg #[.int .i64 S1, v1], .agg #[.int .i64 S2, v2]] w fun e w' => e = .returned (.bool true) ∧ Below w.heap.size w w' := by
  obtain ⟨va0, vn0, vc0, rfl⟩ : ∃ a n c, v0 = .slice a n c := by rcases h0 with ⟨a, c, rfl⟩ | ⟨b, off, cap, n, ls, rfl, _⟩ <;> exact ⟨_, _, _, rfl⟩
  obtain ⟨va1, vn1, vc1, rfl⟩ : ∃ a n c, v1 = .slice a n c := by rcases h1 with ⟨a, c, rfl⟩ | ⟨b, off, cap, n, ls, rfl, _⟩ <;> exact ⟨_, _, _, rfl⟩
  obtain ⟨va2, vn2, vc2, rfl⟩ : ∃ a n c, v2 = .slice a n c := by rcases h2 with ⟨a, c, rfl⟩ | ⟨b, off, cap, n, ls, rfl, _⟩ <;> exact ⟨_, _, _, rfl⟩
  have HI0 := Lib.hid h0
  have HI1 := Lib.hid h1
  have HI2 := Lib.hid h2
  have HFit := Lib.hid (fun (W : World) => fit_any W)
  obtain ⟨W0, e0⟩ : ∃ W0, W0 = (((w.alloc (Obj.cells #[.int .i64 S0, .slice va0 vn0 vc0] 29)).alloc (Obj.cells #[.int .i64 S1, .slice va1 vn1 vc1] 29)).alloc (Obj.cells #[.int .i64 S2, .slice va2 vn2 vc2] 29)) := ⟨_, rfl⟩
  have hB : Below w.heap.size w W0 := by rw [e0]; exact (((Below.refl _ _).alloc (Nat.le_refl _) _).alloc (by simp <;> omega) _).alloc (by simp <;> omega) _
  have hk0 : W0.heap[w.heap.size]? = some (Obj.cells #[.int .i64 S0, .slice va0 vn0 vc0] 29) := by
    rw [e0]
    rw [Below.heap_alloc _ _ _ (by simp <;> omega)]
    rw [Below.heap_alloc _ _ _ (by simp <;> omega)]
    have := heap_alloc_new w (Obj.cells #[.int .i64 S0, .slice va0 vn0 vc0] 29); simpa using this
  have hk1 : W0.heap[w.heap.size + 1]? = some (Obj.cells #[.int .i64 S1, .slice va1 vn1 vc1] 29) := by
    rw [e0]
    rw [Below.heap_alloc _ _ _ (by simp <;> omega)]
    have := heap_alloc_new (w.alloc (Obj.cells #[.int .i64 S0, .slice va0 vn0 vc0] 29)) (Obj.cells #[.int .i64 S1, .slice va1 vn1 vc1] 29); simpa using this
  have hk2 : W0.heap[w.heap.size + 2]? = some (Obj.cells #[.int .i64 S2, .slice va2 vn2 vc2] 29) := by
    rw [e0]
    have := heap_alloc_new ((w.alloc (Obj.cells #[.int .i64 S0, .slice va0 vn0 vc0] 29)).alloc (Obj.cells #[.int .i64 S1, .slice va1 vn1 vc1] 29)) (Obj.cells #[.int .i64 S2, .slice va2 vn2 vc2] 29); simpa using this
  have HB := Lib.hid hB
  have HK := Lib.hid (show W0.heap[w.heap.size]? = some (Obj.cells #[.int .i64 S0, .slice va0 vn0 vc0] 29) ∧ W0.heap[w.heap.size + 1]? = some (Obj.cells #[.int .i64 S1, .slice va1 vn1 vc1] 29) ∧ W0.heap[w.heap.size + 2]? = some (Obj.cells #[.int .i64 S2, .slice va2 vn2 vc2] 29) from ⟨hk0, hk1, hk2⟩)
  clear h0 h1 h2 hB hk0 hk1 hk2
  go_enter Try.func9, Try.ntmps9
  go_wp2_with fail
  rw [← e0]
  clear e0
  refine (HFit.out _).mono ?_
  rintro e w1 ⟨rfl, hb1⟩
  have hS : ∀ wx, Below w1.heap.size w1 wx → Below w.heap.size w wx ∧ wx.cell? ⟨w.heap.size, 0, none⟩ = some (.int .i64 S0) ∧ wx.cell? ⟨w.heap.size, 1, none⟩ = some (.slice va0 vn0 vc0) ∧ wx.cell? ⟨w.heap.size + 1, 0, none⟩ = some (.int .i64 S1) ∧ wx.cell? ⟨w.heap.size + 1, 1, none⟩ = some (.slice va1 vn1 vc1) ∧ wx.cell? ⟨w.heap.size + 2, 0, none⟩ = some (.int .i64 S2) ∧ wx.cell? ⟨w.heap.size + 2, 1, none⟩ = some (.slice va2 vn2 vc2) := fun wx hx => by
    have h0 := hb1.trans (hx.mono hb1.size)
    have r0 : wx.heap[w.heap.size]? = some (Obj.cells #[.int .i64 S0, .slice va0 vn0 vc0] 29) := by rw [h0.block _ (Array.getElem?_eq_some_iff.1 HK.out.1).1]; exact HK.out.1
    have r1 : wx.heap[w.heap.size + 1]? = some (Obj.cells #[.int .i64 S1, .slice va1 vn1 vc1] 29) := by rw [h0.block _ (Array.getElem?_eq_some_iff.1 HK.out.2.1).1]; exact HK.out.2.1
    have r2 : wx.heap[w.heap.size + 2]? = some (Obj.cells #[.int .i64 S2, .slice va2 vn2 vc2] 29) := by rw [h0.block _ (Array.getElem?_eq_some_iff.1 HK.out.2.2).1]; exact HK.out.2.2
    exact ⟨HB.out.trans (h0.mono HB.out.size), by rw [cell_of_row _ _ 0 _ 29 (0, 0) r0]; rfl, by rw [cell_of_row _ _ 1 _ 29 (0, 0) r0]; rfl, by rw [cell_of_row _ _ 0 _ 29 (0, 0) r1]; rfl, by rw [cell_of_row _ _ 1 _ 29 (0, 0) r1]; rfl, by rw [cell_of_row _ _ 0 _ 29 (0, 0) r2]; rfl, by rw [cell_of_row _ _ 1 _ 29 (0, 0) r2]; rfl⟩
  have HS := Lib.hid hS
  clear hS hb1
  go_upto_region 3 with fail
  have hcall := Lib.hid ((Below.refl w1.heap.size w1).drew)
  have C0 := Lib.hid (fun (W : World) (h : Below w1.heap.size w1 W) => seed_form S0 (.slice va0 vn0 vc0) W (HI0.out.below (HS.out W h).1))
  have C1 := Lib.hid (fun (W : World) (h : Below w1.heap.size w1 W) => seed_form S1 (.slice va1 vn1 vc1) W (HI1.out.below (HS.out W h).1))
  have C2 := Lib.hid (fun (W : World) (h : Below w1.heap.size w1 W) => seed_form S2 (.slice va2 vn2 vc2) W (HI2.out.below (HS.out W h).1))
  have SS := Lib.hid (fun (wx : World) (h : Below w1.heap.size w1 wx) => ((HS.out wx h).2 : wx.cell? ⟨w.heap.size, 0, none⟩ = some (.int .i64 S0) ∧ wx.cell? ⟨w.heap.size, 1, none⟩ = some (.slice va0 vn0 vc0) ∧ wx.cell? ⟨w.heap.size + 1, 0, none⟩ = some (.int .i64 S1) ∧ wx.cell? ⟨w.heap.size + 1, 1, none⟩ = some (.slice va1 vn1 vc1) ∧ wx.cell? ⟨w.heap.size + 2, 0, none⟩ = some (.int .i64 S2) ∧ wx.cell? ⟨w.heap.size + 2, 1, none⟩ = some (.slice va2 vn2 vc2)))
  go_cut [7, 8, 9, 12, 13, 14, 15, 16, 17] (fun s7 s8 s9 s12 s13 s14 s15 s16 s17 wx => ∃ A0 D0 ps0 a0 n0 c0 A1 D1 ps1 a1 n1 c1 A2 D2 ps2 a2 n2 c2, s7 = .pointer (some ⟨A0, 0, none⟩) ∧ s8 = .pointer (some ⟨A1, 0, none⟩) ∧ s9 = .pointer (some ⟨A2, 0, none⟩) ∧ Hid (Lbl wx A0 D0 (.slice a0 n0 c0) ps0 ∧ Lbl wx A1 D1 (.slice a1 n1 c1) ps1 ∧ Lbl wx A2 D2 (.slice a2 n2 c2) ps2 ∧ Lab.Fine D0 ps0 ∧ Lab.Fine D1 ps1 ∧ Lab.Fine D2 ps2 ∧ Below w1.heap.size w1 wx))
  case first =>
    refine wp_region_any (by kernel_rfl) ?_
    refine wpAny_inv (I := fun L a wz => ∃ y7 y8 y9 y12 y13 y14 y15 y16 y17 : Value, a = { tmps := #[.agg #[.int .i64 S0, .slice va0 vn0 vc0], .agg #[.int .i64 S1, .slice va1 vn1 vc1], .agg #[.int .i64 S2, .slice va2 vn2 vc2], .pointer (some ⟨w.heap.size, 0, none⟩), .pointer (some ⟨w.heap.size + 1, 0, none⟩), .pointer (some ⟨w.heap.size + 2, 0, none⟩), .bool false, y7, y8, y9, .bool true, .bool false, y12, y13, y14, y15, y16, y17, undef, undef, undef, undef, undef, undef, undef, undef, undef, undef, undef, undef, undef, undef, undef, undef, undef, undef, undef, undef, undef, undef, undef, undef, undef, undef, undef, undef, undef, undef, undef, undef, undef, undef, undef, undef, undef, undef, undef, undef, undef, undef, undef, undef, undef, undef, undef, undef, undef, undef, undef, undef, undef, undef, undef, undef, undef, undef, undef, undef], defers := [] } ∧ Hid (L.size = 12 ∧ Below w1.heap.size w1 wz ∧ (L[0]? = some true → y12 = .agg #[.int .i64 S0, .slice va0 vn0 vc0]) ∧ (L[1]? = some true → LV w1 wz Lab.Fine y13) ∧ (L[2]? = some true → y14 = .agg #[.int .i64 S1, .slice va1 vn1 vc1]) ∧ (L[3]? = some true → LV w1 wz Lab.Fine y15) ∧ (L[4]? = some true → y16 = .agg #[.int .i64 S2, .slice va2 vn2 vc2]) ∧ (L[5]? = some true → LV w1 wz Lab.Fine y17) ∧ (L[6]? = some true → AV w1 wz y7) ∧ (L[7]? = some true → AV w1 wz y8) ∧ (L[8]? = some true → AV w1 wz y9) ∧ (L[6]? = some true → L[7]? = some true → y7 ≠ y8) ∧ (L[6]? = some true → L[8]? = some true → y7 ≠ y9) ∧ (L[7]? = some true → L[8]? = some true → y8 ≠ y9) ∧ (L[9]? = some true → SV wz y7 y13) ∧ (L[10]? = some true → SV wz y8 y15) ∧ (L[11]? = some true → SV wz y9 y17) ∧ (L[9]? = some true → (L[6]? = some true ∧ L[1]? = some true)) ∧ (L[10]? = some true → (L[7]? = some true ∧ L[3]? = some true)) ∧ (L[11]? = some true → (L[8]? = some true ∧ L[5]? = some true)))) ?step ?fin _ _ _ _ ⟨_, _, _, _, _, _, _, _, _, rfl, Lib.hid ⟨by rfl, Below.drew (Below.refl _ _), gone (by rfl), gone (by rfl), gone (by rfl), gone (by rfl), gone (by rfl), gone (by rfl), gone (by rfl), gone (by rfl), gone (by rfl), gone (by rfl), gone (by rfl), gone (by rfl), gone (by rfl), gone (by rfl), gone (by rfl), gone (by rfl), gone (by rfl), gone (by rfl)⟩⟩ (by decide)
    case step =>
      intro L a wz i o hI ho hL hdeps K hK
      obtain ⟨y7, y8, y9, y12, y13, y14, y15, y16, y17, rfl, hinv⟩ := hI
      have hi : i < 12 := by have := (Array.getElem?_eq_some_iff.1 ho).1; exact this
      obtain ⟨hN, hbel, z0, z1, z2, z3, z4, z5, z6, z7, z8, z9, z10, z11, z12, z13, z14, z15, z16, z17⟩ := hinv.out
      obtain rfl | rfl | rfl | rfl | rfl | rfl | rfl | rfl | rfl | rfl | rfl | rfl : i = 0 ∨ i = 1 ∨ i = 2 ∨ i = 3 ∨ i = 4 ∨ i = 5 ∨ i = 6 ∨ i = 7 ∨ i = 8 ∨ i = 9 ∨ i = 10 ∨ i = 11 := by omega
      · obtain rfl := Option.some.inj ho
        obtain ⟨b0, b1, _⟩ := SS.out wz hbel
        clear ho
        have Z := hinv
        clear hinv hbel hN hdeps z0 z1 z2 z3 z4 z5 z6 z7 z8 z9 z10 z11 z12 z13 z14 z15 z16 z17
        go_simp
        obtain ⟨hN, hbel, z0, z1, z2, z3, z4, z5, z6, z7, z8, z9, z10, z11, z12, z13, z14, z15, z16, z17⟩ := Z.out
        exact hK _ _ ⟨_, _, _, _, _, _, _, _, _, rfl, Lib.hid ⟨by simpa using hN, hbel, fun _ => rfl, fun g0 => (z1 ((set_other (by decide)).symm.trans g0)), fun g0 => (z2 ((set_other (by decide)).symm.trans g0)), fun g0 => (z3 ((set_other (by decide)).symm.trans g0)), fun g0 => (z4 ((set_other (by decide)).symm.trans g0)), fun g0 => (z5 ((set_other (by decide)).symm.trans g0)), fun g0 => (z6 ((set_other (by decide)).symm.trans g0)), fun g0 => (z7 ((set_other (by decide)).symm.trans g0)), fun g0 => (z8 ((set_other (by decide)).symm.trans g0)), fun g0 g1 => (z9 ((set_other (by decide)).symm.trans g0) ((set_other (by decide)).symm.trans g1)), fun g0 g1 => (z10 ((set_other (by decide)).symm.trans g0) ((set_other (by decide)).symm.trans g1)), fun g0 g1 => (z11 ((set_other (by decide)).symm.trans g0) ((set_other (by decide)).symm.trans g1)), fun g0 => (z12 ((set_other (by decide)).symm.trans g0)), fun g0 => (z13 ((set_other (by decide)).symm.trans g0)), fun g0 => (z14 ((set_other (by decide)).symm.trans g0)), fun g0 => ⟨set_keep (z15 ((set_other (by decide)).symm.trans g0)).1, set_keep (z15 ((set_other (by decide)).symm.trans g0)).2⟩, fun g0 => ⟨set_keep (z16 ((set_other (by decide)).symm.trans g0)).1, set_keep (z16 ((set_other (by decide)).symm.trans g0)).2⟩, fun g0 => ⟨set_keep (z17 ((set_other (by decide)).symm.trans g0)).1, set_keep (z17 ((set_other (by decide)).symm.trans g0)).2⟩⟩⟩
      · obtain rfl := Option.some.inj ho
        have e0 := z0 (dep (by simp [Region.binds] at hdeps ⊢; simp [hdeps]))
        subst e0
        have CC := Lib.hid (C0.out wz hbel)
        have Z := hinv
        clear hinv ho hbel hN hdeps z0 z1 z2 z3 z4 z5 z6 z7 z8 z9 z10 z11 z12 z13 z14 z15 z16 z17
        go_simp
        refine CC.out.mono ?_
        rintro e wq ⟨D, a, n, c, ps, rfl, hg, how, hb'⟩
        obtain ⟨hN, hbel, z0, z1, z2, z3, z4, z5, z6, z7, z8, z9, z10, z11, z12, z13, z14, z15, z16, z17⟩ := Z.out
        exact hK _ _ ⟨_, _, _, _, _, _, _, _, _, rfl, Lib.hid ⟨by simpa using hN, hbel.trans (hb'.mono hbel.size), fun g0 => (z0 ((set_other (by decide)).symm.trans g0)), fun _ => ⟨D, a, n, c, ps, rfl, hg, owns_mono how hbel.size⟩, fun g0 => (z2 ((set_other (by decide)).symm.trans g0)), fun g0 => (z3 ((set_other (by decide)).symm.trans g0)).below hb', fun g0 => (z4 ((set_other (by decide)).symm.trans g0)), fun g0 => (z5 ((set_other (by decide)).symm.trans g0)).below hb', fun g0 => (z6 ((set_other (by decide)).symm.trans g0)).below hb', fun g0 => (z7 ((set_other (by decide)).symm.trans g0)).below hb', fun g0 => (z8 ((set_other (by decide)).symm.trans g0)).below hb', fun g0 g1 => (z9 ((set_other (by decide)).symm.trans g0) ((set_other (by decide)).symm.trans g1)), fun g0 g1 => (z10 ((set_other (by decide)).symm.trans g0) ((set_other (by decide)).symm.trans g1)), fun g0 g1 => (z11 ((set_other (by decide)).symm.trans g0) ((set_other (by decide)).symm.trans g1)), fun g0 => not_done hL (z15 ((set_other (by decide)).symm.trans g0)).2, fun g0 => (z13 ((set_other (by decide)).symm.trans g0)).below hb', fun g0 => (z14 ((set_other (by decide)).symm.trans g0)).below hb', fun g0 => ⟨set_keep (z15 ((set_other (by decide)).symm.trans g0)).1, set_keep (z15 ((set_other (by decide)).symm.trans g0)).2⟩, fun g0 => ⟨set_keep (z16 ((set_other (by decide)).symm.trans g0)).1, set_keep (z16 ((set_other (by decide)).symm.trans g0)).2⟩, fun g0 => ⟨set_keep (z17 ((set_other (by decide)).symm.trans g0)).1, set_keep (z17 ((set_other (by decide)).symm.trans g0)).2⟩⟩⟩
      · obtain rfl := Option.some.inj ho
        obtain ⟨_, _, b0, b1, _⟩ := SS.out wz hbel
        clear ho
        have Z := hinv
        clear hinv hbel hN hdeps z0 z1 z2 z3 z4 z5 z6 z7 z8 z9 z10 z11 z12 z13 z14 z15 z16 z17
        go_simp
        obtain ⟨hN, hbel, z0, z1, z2, z3, z4, z5, z6, z7, z8, z9, z10, z11, z12, z13, z14, z15, z16, z17⟩ := Z.out
        exact hK _ _ ⟨_, _, _, _, _, _, _, _, _, rfl, Lib.hid ⟨by simpa using hN, hbel, fun g0 => (z0 ((set_other (by decide)).symm.trans g0)), fun g0 => (z1 ((set_other (by decide)).symm.trans g0)), fun _ => rfl, fun g0 => (z3 ((set_other (by decide)).symm.trans g0)), fun g0 => (z4 ((set_other (by decide)).symm.trans g0)), fun g0 => (z5 ((set_other (by decide)).symm.trans g0)), fun g0 => (z6 ((set_other (by decide)).symm.trans g0)), fun g0 => (z7 ((set_other (by decide)).symm.trans g0)), fun g0 => (z8 ((set_other (by decide)).symm.trans g0)), fun g0 g1 => (z9 ((set_other (by decide)).symm.trans g0) ((set_other (by decide)).symm.trans g1)), fun g0 g1 => (z10 ((set_other (by decide)).symm.trans g0) ((set_other (by decide)).symm.trans g1)), fun g0 g1 => (z11 ((set_other (by decide)).symm.trans g0) ((set_other (by decide)).symm.trans g1)), fun g0 => (z12 ((set_other (by decide)).symm.trans g0)), fun g0 => (z13 ((set_other (by decide)).symm.trans g0)), fun g0 => (z14 ((set_other (by decide)).symm.trans g0)), fun g0 => ⟨set_keep (z15 ((set_other (by decide)).symm.trans g0)).1, set_keep (z15 ((set_other (by decide)).symm.trans g0)).2⟩, fun g0 => ⟨set_keep (z16 ((set_other (by decide)).symm.trans g0)).1, set_keep (z16 ((set_other (by decide)).symm.trans g0)).2⟩, fun g0 => ⟨set_keep (z17 ((set_other (by decide)).symm.trans g0)).1, set_keep (z17 ((set_other (by decide)).symm.trans g0)).2⟩⟩⟩
      · obtain rfl := Option.some.inj ho
        have e2 := z2 (dep (by simp [Region.binds] at hdeps ⊢; simp [hdeps]))
        subst e2
        have CC := Lib.hid (C1.out wz hbel)
        have Z := hinv
        clear hinv ho hbel hN hdeps z0 z1 z2 z3 z4 z5 z6 z7 z8 z9 z10 z11 z12 z13 z14 z15 z16 z17
        go_simp
        refine CC.out.mono ?_
        rintro e wq ⟨D, a, n, c, ps, rfl, hg, how, hb'⟩
        obtain ⟨hN, hbel, z0, z1, z2, z3, z4, z5, z6, z7, z8, z9, z10, z11, z12, z13, z14, z15, z16, z17⟩ := Z.out
        exact hK _ _ ⟨_, _, _, _, _, _, _, _, _, rfl, Lib.hid ⟨by simpa using hN, hbel.trans (hb'.mono hbel.size), fun g0 => (z0 ((set_other (by decide)).symm.trans g0)), fun g0 => (z1 ((set_other (by decide)).symm.trans g0)).below hb', fun g0 => (z2 ((set_other (by decide)).symm.trans g0)), fun _ => ⟨D, a, n, c, ps, rfl, hg, owns_mono how hbel.size⟩, fun g0 => (z4 ((set_other (by decide)).symm.trans g0)), fun g0 => (z5 ((set_other (by decide)).symm.trans g0)).below hb', fun g0 => (z6 ((set_other (by decide)).symm.trans g0)).below hb', fun g0 => (z7 ((set_other (by decide)).symm.trans g0)).below hb', fun g0 => (z8 ((set_other (by decide)).symm.trans g0)).below hb', fun g0 g1 => (z9 ((set_other (by decide)).symm.trans g0) ((set_other (by decide)).symm.trans g1)), fun g0 g1 => (z10 ((set_other (by decide)).symm.trans g0) ((set_other (by decide)).symm.trans g1)), fun g0 g1 => (z11 ((set_other (by decide)).symm.trans g0) ((set_other (by decide)).symm.trans g1)), fun g0 => (z12 ((set_other (by decide)).symm.trans g0)).below hb', fun g0 => not_done hL (z16 ((set_other (by decide)).symm.trans g0)).2, fun g0 => (z14 ((set_other (by decide)).symm.trans g0)).below hb', fun g0 => ⟨set_keep (z15 ((set_other (by decide)).symm.trans g0)).1, set_keep (z15 ((set_other (by decide)).symm.trans g0)).2⟩, fun g0 => ⟨set_keep (z16 ((set_other (by decide)).symm.trans g0)).1, set_keep (z16 ((set_other (by decide)).symm.trans g0)).2⟩, fun g0 => ⟨set_keep (z17 ((set_other (by decide)).symm.trans g0)).1, set_keep (z17 ((set_other (by decide)).symm.trans g0)).2⟩⟩⟩
      · obtain rfl := Option.some.inj ho
        obtain ⟨_, _, _, _, b0, b1⟩ := SS.out wz hbel
        clear ho
        have Z := hinv
        clear hinv hbel hN hdeps z0 z1 z2 z3 z4 z5 z6 z7 z8 z9 z10 z11 z12 z13 z14 z15 z16 z17
        go_simp
        obtain ⟨hN, hbel, z0, z1, z2, z3, z4, z5, z6, z7, z8, z9, z10, z11, z12, z13, z14, z15, z16, z17⟩ := Z.out
        exact hK _ _ ⟨_, _, _, _, _, _, _, _, _, rfl, Lib.hid ⟨by simpa using hN, hbel, fun g0 => (z0 ((set_other (by decide)).symm.trans g0)), fun g0 => (z1 ((set_other (by decide)).symm.trans g0)), fun g0 => (z2 ((set_other (by decide)).symm.trans g0)), fun g0 => (z3 ((set_other (by decide)).symm.trans g0)), fun _ => rfl, fun g0 => (z5 ((set_other (by decide)).symm.trans g0)), fun g0 => (z6 ((set_other (by decide)).symm.trans g0)), fun g0 => (z7 ((set_other (by decide)).symm.trans g0)), fun g0 => (z8 ((set_other (by decide)).symm.trans g0)), fun g0 g1 => (z9 ((set_other (by decide)).symm.trans g0) ((set_other (by decide)).symm.trans g1)), fun g0 g1 => (z10 ((set_other (by decide)).symm.trans g0) ((set_other (by decide)).symm.trans g1)), fun g0 g1 => (z11 ((set_other (by decide)).symm.trans g0) ((set_other (by decide)).symm.trans g1)), fun g0 => (z12 ((set_other (by decide)).symm.trans g0)), fun g0 => (z13 ((set_other (by decide)).symm.trans g0)), fun g0 => (z14 ((set_other (by decide)).symm.trans g0)), fun g0 => ⟨set_keep (z15 ((set_other (by decide)).symm.trans g0)).1, set_keep (z15 ((set_other (by decide)).symm.trans g0)).2⟩, fun g0 => ⟨set_keep (z16 ((set_other (by decide)).symm.trans g0)).1, set_keep (z16 ((set_other (by decide)).symm.trans g0)).2⟩, fun g0 => ⟨set_keep (z17 ((set_other (by decide)).symm.trans g0)).1, set_keep (z17 ((set_other (by decide)).symm.trans g0)).2⟩⟩⟩
      · obtain rfl := Option.some.inj ho
        have e4 := z4 (dep (by simp [Region.binds] at hdeps ⊢; simp [hdeps]))
        subst e4
        have CC := Lib.hid (C2.out wz hbel)
        have Z := hinv
        clear hinv ho hbel hN hdeps z0 z1 z2 z3 z4 z5 z6 z7 z8 z9 z10 z11 z12 z13 z14 z15 z16 z17
        go_simp
        refine CC.out.mono ?_
        rintro e wq ⟨D, a, n, c, ps, rfl, hg, how, hb'⟩
        obtain ⟨hN, hbel, z0, z1, z2, z3, z4, z5, z6, z7, z8, z9, z10, z11, z12, z13, z14, z15, z16, z17⟩ := Z.out
        exact hK _ _ ⟨_, _, _, _, _, _, _, _, _, rfl, Lib.hid ⟨by simpa using hN, hbel.trans (hb'.mono hbel.size), fun g0 => (z0 ((set_other (by decide)).symm.trans g0)), fun g0 => (z1 ((set_other (by decide)).symm.trans g0)).below hb', fun g0 => (z2 ((set_other (by decide)).symm.trans g0)), fun g0 => (z3 ((set_other (by decide)).symm.trans g0)).below hb', fun g0 => (z4 ((set_other (by decide)).symm.trans g0)), fun _ => ⟨D, a, n, c, ps, rfl, hg, owns_mono how hbel.size⟩, fun g0 => (z6 ((set_other (by decide)).symm.trans g0)).below hb', fun g0 => (z7 ((set_other (by decide)).symm.trans g0)).below hb', fun g0 => (z8 ((set_other (by decide)).symm.trans g0)).below hb', fun g0 g1 => (z9 ((set_other (by decide)).symm.trans g0) ((set_other (by decide)).symm.trans g1)), fun g0 g1 => (z10 ((set_other (by decide)).symm.trans g0) ((set_other (by decide)).symm.trans g1)), fun g0 g1 => (z11 ((set_other (by decide)).symm.trans g0) ((set_other (by decide)).symm.trans g1)), fun g0 => (z12 ((set_other (by decide)).symm.trans g0)).below hb', fun g0 => (z13 ((set_other (by decide)).symm.trans g0)).below hb', fun g0 => not_done hL (z17 ((set_other (by decide)).symm.trans g0)).2, fun g0 => ⟨set_keep (z15 ((set_other (by decide)).symm.trans g0)).1, set_keep (z15 ((set_other (by decide)).symm.trans g0)).2⟩, fun g0 => ⟨set_keep (z16 ((set_other (by decide)).symm.trans g0)).1, set_keep (z16 ((set_other (by decide)).symm.trans g0)).2⟩, fun g0 => ⟨set_keep (z17 ((set_other (by decide)).symm.trans g0)).1, set_keep (z17 ((set_other (by decide)).symm.trans g0)).2⟩⟩⟩
      · obtain rfl := Option.some.inj ho
        have Z := hinv
        clear hinv ho hbel hN hdeps z0 z1 z2 z3 z4 z5 z6 z7 z8 z9 z10 z11 z12 z13 z14 z15 z16 z17
        go_simp
        obtain ⟨hN, hbel, z0, z1, z2, z3, z4, z5, z6, z7, z8, z9, z10, z11, z12, z13, z14, z15, z16, z17⟩ := Z.out
        have hb' := below_alloc1 wz (Obj.cells #[.int .i64 0, .slice none 0 0] 24)
        exact hK _ _ ⟨_, _, _, _, _, _, _, _, _, rfl, Lib.hid ⟨by simpa using hN, hbel.trans (hb'.mono hbel.size), fun g0 => (z0 ((set_other (by decide)).symm.trans g0)), fun g0 => (z1 ((set_other (by decide)).symm.trans g0)).below hb', fun g0 => (z2 ((set_other (by decide)).symm.trans g0)), fun g0 => (z3 ((set_other (by decide)).symm.trans g0)).below hb', fun g0 => (z4 ((set_other (by decide)).symm.trans g0)), fun g0 => (z5 ((set_other (by decide)).symm.trans g0)).below hb', fun _ => AV.new _ _ _ _ hbel.size, fun g0 => (z7 ((set_other (by decide)).symm.trans g0)).below hb', fun g0 => (z8 ((set_other (by decide)).symm.trans g0)).below hb', fun g0 g1 => ((z7 ((set_other (by decide)).symm.trans g1)).ne).symm, fun g0 g1 => ((z8 ((set_other (by decide)).symm.trans g1)).ne).symm, fun g0 g1 => (z11 ((set_other (by decide)).symm.trans g0) ((set_other (by decide)).symm.trans g1)), fun g0 => not_done hL (z15 ((set_other (by decide)).symm.trans g0)).1, fun g0 => (z13 ((set_other (by decide)).symm.trans g0)).below hb', fun g0 => (z14 ((set_other (by decide)).symm.trans g0)).below hb', fun g0 => ⟨set_keep (z15 ((set_other (by decide)).symm.trans g0)).1, set_keep (z15 ((set_other (by decide)).symm.trans g0)).2⟩, fun g0 => ⟨set_keep (z16 ((set_other (by decide)).symm.trans g0)).1, set_keep (z16 ((set_other (by decide)).symm.trans g0)).2⟩, fun g0 => ⟨set_keep (z17 ((set_other (by decide)).symm.trans g0)).1, set_keep (z17 ((set_other (by decide)).symm.trans g0)).2⟩⟩⟩
      · obtain rfl := Option.some.inj ho
        have Z := hinv
        clear hinv ho hbel hN hdeps z0 z1 z2 z3 z4 z5 z6 z7 z8 z9 z10 z11 z12 z13 z14 z15 z16 z17
        go_simp
        obtain ⟨hN, hbel, z0, z1, z2, z3, z4, z5, z6, z7, z8, z9, z10, z11, z12, z13, z14, z15, z16, z17⟩ := Z.out
        have hb' := below_alloc1 wz (Obj.cells #[.int .i64 0, .slice none 0 0] 24)
        exact hK _ _ ⟨_, _, _, _, _, _, _, _, _, rfl, Lib.hid ⟨by simpa using hN, hbel.trans (hb'.mono hbel.size), fun g0 => (z0 ((set_other (by decide)).symm.trans g0)), fun g0 => (z1 ((set_other (by decide)).symm.trans g0)).below hb', fun g0 => (z2 ((set_other (by decide)).symm.trans g0)), fun g0 => (z3 ((set_other (by decide)).symm.trans g0)).below hb', fun g0 => (z4 ((set_other (by decide)).symm.trans g0)), fun g0 => (z5 ((set_other (by decide)).symm.trans g0)).below hb', fun g0 => (z6 ((set_other (by decide)).symm.trans g0)).below hb', fun _ => AV.new _ _ _ _ hbel.size, fun g0 => (z8 ((set_other (by decide)).symm.trans g0)).below hb', fun g0 g1 => (z6 ((set_other (by decide)).symm.trans g0)).ne, fun g0 g1 => (z10 ((set_other (by decide)).symm.trans g0) ((set_other (by decide)).symm.trans g1)), fun g0 g1 => ((z8 ((set_other (by decide)).symm.trans g1)).ne).symm, fun g0 => (z12 ((set_other (by decide)).symm.trans g0)).below hb', fun g0 => not_done hL (z16 ((set_other (by decide)).symm.trans g0)).1, fun g0 => (z14 ((set_other (by decide)).symm.trans g0)).below hb', fun g0 => ⟨set_keep (z15 ((set_other (by decide)).symm.trans g0)).1, set_keep (z15 ((set_other (by decide)).symm.trans g0)).2⟩, fun g0 => ⟨set_keep (z16 ((set_other (by decide)).symm.trans g0)).1, set_keep (z16 ((set_other (by decide)).symm.trans g0)).2⟩, fun g0 => ⟨set_keep (z17 ((set_other (by decide)).symm.trans g0)).1, set_keep (z17 ((set_other (by decide)).symm.trans g0)).2⟩⟩⟩
      · obtain rfl := Option.some.inj ho
        have Z := hinv
        clear hinv ho hbel hN hdeps z0 z1 z2 z3 z4 z5 z6 z7 z8 z9 z10 z11 z12 z13 z14 z15 z16 z17
        go_simp
        obtain ⟨hN, hbel, z0, z1, z2, z3, z4, z5, z6, z7, z8, z9, z10, z11, z12, z13, z14, z15, z16, z17⟩ := Z.out
        have hb' := below_alloc1 wz (Obj.cells #[.int .i64 0, .slice none 0 0] 24)
        exact hK _ _ ⟨_, _, _, _, _, _, _, _, _, rfl, Lib.hid ⟨by simpa using hN, hbel.trans (hb'.mono hbel.size), fun g0 => (z0 ((set_other (by decide)).symm.trans g0)), fun g0 => (z1 ((set_other (by decide)).symm.trans g0)).below hb', fun g0 => (z2 ((set_other (by decide)).symm.trans g0)), fun g0 => (z3 ((set_other (by decide)).symm.trans g0)).below hb', fun g0 => (z4 ((set_other (by decide)).symm.trans g0)), fun g0 => (z5 ((set_other (by decide)).symm.trans g0)).below hb', fun g0 => (z6 ((set_other (by decide)).symm.trans g0)).below hb', fun g0 => (z7 ((set_other (by decide)).symm.trans g0)).below hb', fun _ => AV.new _ _ _ _ hbel.size, fun g0 g1 => (z9 ((set_other (by decide)).symm.trans g0) ((set_other (by decide)).symm.trans g1)), fun g0 g1 => (z6 ((set_other (by decide)).symm.trans g0)).ne, fun g0 g1 => (z7 ((set_other (by decide)).symm.trans g0)).ne, fun g0 => (z12 ((set_other (by decide)).symm.trans g0)).below hb', fun g0 => (z13 ((set_other (by decide)).symm.trans g0)).below hb', fun g0 => not_done hL (z17 ((set_other (by decide)).symm.trans g0)).1, fun g0 => ⟨set_keep (z15 ((set_other (by decide)).symm.trans g0)).1, set_keep (z15 ((set_other (by decide)).symm.trans g0)).2⟩, fun g0 => ⟨set_keep (z16 ((set_other (by decide)).symm.trans g0)).1, set_keep (z16 ((set_other (by decide)).symm.trans g0)).2⟩, fun g0 => ⟨set_keep (z17 ((set_other (by decide)).symm.trans g0)).1, set_keep (z17 ((set_other (by decide)).symm.trans g0)).2⟩⟩⟩
      · obtain rfl := Option.some.inj ho
        have hds : L[6]? = some true ∧ L[7]? = some true ∧ L[8]? = some true ∧ L[1]? = some true := by
          simp [Region.binds] at hdeps
          refine ⟨?_, ?_, ?_, ?_⟩ <;> (refine dep ?_; simp [hdeps])
        obtain ⟨d6, d7, d8, d1⟩ := hds
        obtain ⟨A0, hA1, hA2, x0, u0, hA3⟩ := z6 d6
        obtain ⟨D, a, n, c, ps, hc1, hc2, hc3⟩ := z1 d1
        subst hA1
        subst hc1
        obtain ⟨s0, s1, s2, s3, s4, _⟩ := old2 wz A0 24 _ _ (.int .i64 D) (.slice a n c) hA3
        have S4 := Lib.hid s4
        have HA3 := Lib.hid hA3
        have HA2 := Lib.hid hA2
        have Z := hinv
        clear hinv ho hbel hN hdeps s4 hA2 hA3 hc2 hc3 z0 z1 z2 z3 z4 z5 z6 z7 z8 z9 z10 z11 z12 z13 z14 z15 z16 z17
        go_simp
        obtain ⟨hN, hbel, z0, z1, z2, z3, z4, z5, z6, z7, z8, z9, z10, z11, z12, z13, z14, z15, z16, z17⟩ := Z.out
        have hA4 := heap_setCell_same wz A0 0 _ 24 (.int .i64 D) HA3.out
        simp only [List.setIfInBounds_toArray, List.set_cons_zero] at hA4
        exact hK _ _ ⟨_, _, _, _, _, _, _, _, _, rfl, Lib.hid ⟨by simpa using hN, (hbel.setCell (p := ⟨A0, 0, none⟩) HA2.out _).setCell (p := ⟨A0, 1, none⟩) HA2.out _, fun g0 => (z0 ((set_other (by decide)).symm.trans g0)), fun g0 => ((z1 ((set_other (by decide)).symm.trans g0)).set HA3.out).set hA4, fun g0 => (z2 ((set_other (by decide)).symm.trans g0)), fun g0 => ((z3 ((set_other (by decide)).symm.trans g0)).set HA3.out).set hA4, fun g0 => (z4 ((set_other (by decide)).symm.trans g0)), fun g0 => ((z5 ((set_other (by decide)).symm.trans g0)).set HA3.out).set hA4, fun _ => ⟨A0, rfl, HA2.out, _, _, S4.out⟩, fun g0 => ((z7 ((set_other (by decide)).symm.trans g0)).set ((z9 d6 d7)).symm).set ((z9 d6 d7)).symm, fun g0 => ((z8 ((set_other (by decide)).symm.trans g0)).set ((z10 d6 d8)).symm).set ((z10 d6 d8)).symm, fun g0 g1 => (z9 ((set_other (by decide)).symm.trans g0) ((set_other (by decide)).symm.trans g1)), fun g0 g1 => (z10 ((set_other (by decide)).symm.trans g0) ((set_other (by decide)).symm.trans g1)), fun g0 g1 => (z11 ((set_other (by decide)).symm.trans g0) ((set_other (by decide)).symm.trans g1)), fun _ => ⟨A0, D, .slice a n c, rfl, rfl, S4.out⟩, fun g0 => ((z13 ((set_other (by decide)).symm.trans g0)).set ((z9 d6 d7)).symm).set ((z9 d6 d7)).symm, fun g0 => ((z14 ((set_other (by decide)).symm.trans g0)).set ((z10 d6 d8)).symm).set ((z10 d6 d8)).symm, fun _ => ⟨set_keep d6, set_keep d1⟩, fun g0 => ⟨set_keep (z16 ((set_other (by decide)).symm.trans g0)).1, set_keep (z16 ((set_other (by decide)).symm.trans g0)).2⟩, fun g0 => ⟨set_keep (z17 ((set_other (by decide)).symm.trans g0)).1, set_keep (z17 ((set_other (by decide)).symm.trans g0)).2⟩⟩⟩
      · obtain rfl := Option.some.inj ho
        have hds : L[7]? = some true ∧ L[6]? = some true ∧ L[8]? = some true ∧ L[3]? = some true := by
          simp [Region.binds] at hdeps
          refine ⟨?_, ?_, ?_, ?_⟩ <;> (refine dep ?_; simp [hdeps])
        obtain ⟨d7, d6, d8, d3⟩ := hds
        obtain ⟨A0, hA1, hA2, x0, u0, hA3⟩ := z7 d7
        obtain ⟨D, a, n, c, ps, hc1, hc2, hc3⟩ := z3 d3
        subst hA1
        subst hc1
        obtain ⟨s0, s1, s2, s3, s4, _⟩ := old2 wz A0 24 _ _ (.int .i64 D) (.slice a n c) hA3
        have S4 := Lib.hid s4
        have HA3 := Lib.hid hA3
        have HA2 := Lib.hid hA2
        have Z := hinv
        clear hinv ho hbel hN hdeps s4 hA2 hA3 hc2 hc3 z0 z1 z2 z3 z4 z5 z6 z7 z8 z9 z10 z11 z12 z13 z14 z15 z16 z17
        go_simp
        obtain ⟨hN, hbel, z0, z1, z2, z3, z4, z5, z6, z7, z8, z9, z10, z11, z12, z13, z14, z15, z16, z17⟩ := Z.out
        have hA4 := heap_setCell_same wz A0 0 _ 24 (.int .i64 D) HA3.out
        simp only [List.setIfInBounds_toArray, List.set_cons_zero] at hA4
        exact hK _ _ ⟨_, _, _, _, _, _, _, _, _, rfl, Lib.hid ⟨by simpa using hN, (hbel.setCell (p := ⟨A0, 0, none⟩) HA2.out _).setCell (p := ⟨A0, 1, none⟩) HA2.out _, fun g0 => (z0 ((set_other (by decide)).symm.trans g0)), fun g0 => ((z1 ((set_other (by decide)).symm.trans g0)).set HA3.out).set hA4, fun g0 => (z2 ((set_other (by decide)).symm.trans g0)), fun g0 => ((z3 ((set_other (by decide)).symm.trans g0)).set HA3.out).set hA4, fun g0 => (z4 ((set_other (by decide)).symm.trans g0)), fun g0 => ((z5 ((set_other (by decide)).symm.trans g0)).set HA3.out).set hA4, fun g0 => ((z6 ((set_other (by decide)).symm.trans g0)).set (z9 d6 d7)).set (z9 d6 d7), fun _ => ⟨A0, rfl, HA2.out, _, _, S4.out⟩, fun g0 => ((z8 ((set_other (by decide)).symm.trans g0)).set ((z11 d7 d8)).symm).set ((z11 d7 d8)).symm, fun g0 g1 => (z9 ((set_other (by decide)).symm.trans g0) ((set_other (by decide)).symm.trans g1)), fun g0 g1 => (z10 ((set_other (by decide)).symm.trans g0) ((set_other (by decide)).symm.trans g1)), fun g0 g1 => (z11 ((set_other (by decide)).symm.trans g0) ((set_other (by decide)).symm.trans g1)), fun g0 => ((z12 ((set_other (by decide)).symm.trans g0)).set (z9 d6 d7)).set (z9 d6 d7), fun _ => ⟨A0, D, .slice a n c, rfl, rfl, S4.out⟩, fun g0 => ((z14 ((set_other (by decide)).symm.trans g0)).set ((z11 d7 d8)).symm).set ((z11 d7 d8)).symm, fun g0 => ⟨set_keep (z15 ((set_other (by decide)).symm.trans g0)).1, set_keep (z15 ((set_other (by decide)).symm.trans g0)).2⟩, fun _ => ⟨set_keep d7, set_keep d3⟩, fun g0 => ⟨set_keep (z17 ((set_other (by decide)).symm.trans g0)).1, set_keep (z17 ((set_other (by decide)).symm.trans g0)).2⟩⟩⟩
      · obtain rfl := Option.some.inj ho
        have hds : L[8]? = some true ∧ L[6]? = some true ∧ L[7]? = some true ∧ L[5]? = some true := by
          simp [Region.binds] at hdeps
          refine ⟨?_, ?_, ?_, ?_⟩ <;> (refine dep ?_; simp [hdeps])
        obtain ⟨d8, d6, d7, d5⟩ := hds
        obtain ⟨A0, hA1, hA2, x0, u0, hA3⟩ := z8 d8
        obtain ⟨D, a, n, c, ps, hc1, hc2, hc3⟩ := z5 d5
        subst hA1
        subst hc1
        obtain ⟨s0, s1, s2, s3, s4, _⟩ := old2 wz A0 24 _ _ (.int .i64 D) (.slice a n c) hA3
        have S4 := Lib.hid s4
        have HA3 := Lib.hid hA3
        have HA2 := Lib.hid hA2
        have Z := hinv
        clear hinv ho hbel hN hdeps s4 hA2 hA3 hc2 hc3 z0 z1 z2 z3 z4 z5 z6 z7 z8 z9 z10 z11 z12 z13 z14 z15 z16 z17
        go_simp
        obtain ⟨hN, hbel, z0, z1, z2, z3, z4, z5, z6, z7, z8, z9, z10, z11, z12, z13, z14, z15, z16, z17⟩ := Z.out
        have hA4 := heap_setCell_same wz A0 0 _ 24 (.int .i64 D) HA3.out
        simp only [List.setIfInBounds_toArray, List.set_cons_zero] at hA4
        exact hK _ _ ⟨_, _, _, _, _, _, _, _, _, rfl, Lib.hid ⟨by simpa using hN, (hbel.setCell (p := ⟨A0, 0, none⟩) HA2.out _).setCell (p := ⟨A0, 1, none⟩) HA2.out _, fun g0 => (z0 ((set_other (by decide)).symm.trans g0)), fun g0 => ((z1 ((set_other (by decide)).symm.trans g0)).set HA3.out).set hA4, fun g0 => (z2 ((set_other (by decide)).symm.trans g0)), fun g0 => ((z3 ((set_other (by decide)).symm.trans g0)).set HA3.out).set hA4, fun g0 => (z4 ((set_other (by decide)).symm.trans g0)), fun g0 => ((z5 ((set_other (by decide)).symm.trans g0)).set HA3.out).set hA4, fun g0 => ((z6 ((set_other (by decide)).symm.trans g0)).set (z10 d6 d8)).set (z10 d6 d8), fun g0 => ((z7 ((set_other (by decide)).symm.trans g0)).set (z11 d7 d8)).set (z11 d7 d8), fun _ => ⟨A0, rfl, HA2.out, _, _, S4.out⟩, fun g0 g1 => (z9 ((set_other (by decide)).symm.trans g0) ((set_other (by decide)).symm.trans g1)), fun g0 g1 => (z10 ((set_other (by decide)).symm.trans g0) ((set_other (by decide)).symm.trans g1)), fun g0 g1 => (z11 ((set_other (by decide)).symm.trans g0) ((set_other (by decide)).symm.trans g1)), fun g0 => ((z12 ((set_other (by decide)).symm.trans g0)).set (z10 d6 d8)).set (z10 d6 d8), fun g0 => ((z13 ((set_other (by decide)).symm.trans g0)).set (z11 d7 d8)).set (z11 d7 d8), fun _ => ⟨A0, D, .slice a n c, rfl, rfl, S4.out⟩, fun g0 => ⟨set_keep (z15 ((set_other (by decide)).symm.trans g0)).1, set_keep (z15 ((set_other (by decide)).symm.trans g0)).2⟩, fun g0 => ⟨set_keep (z16 ((set_other (by decide)).symm.trans g0)).1, set_keep (z16 ((set_other (by decide)).symm.trans g0)).2⟩, fun _ => ⟨set_keep d8, set_keep d5⟩⟩⟩
    case fin =>
      intro L a wz hI hr
      obtain ⟨y7, y8, y9, y12, y13, y14, y15, y16, y17, rfl, hinv⟩ := hI
      obtain ⟨hN, hbel, z0, z1, z2, z3, z4, z5, z6, z7, z8, z9, z10, z11, z12, z13, z14, z15, z16, z17⟩ := hinv.out
      have f0 : L[0]? = some true := by
        cases hb : L[0]? with
        | none => have := (Array.getElem?_eq_none_iff.1 hb); omega
        | some b =>
          cases b with
          | true => rfl
          | false =>
            exact (ready_nil hr hb (by rfl) (by simp [Region.binds])).elim
      have f1 : L[1]? = some true := by
        cases hb : L[1]? with
        | none => have := (Array.getElem?_eq_none_iff.1 hb); omega
        | some b =>
          cases b with
          | true => rfl
          | false =>
            exact (ready_nil hr hb (by rfl) (by simp [Region.binds, f0])).elim
      have f2 : L[2]? = some true := by
        cases hb : L[2]? with
        | none => have := (Array.getElem?_eq_none_iff.1 hb); omega
        | some b =>
          cases b with
          | true => rfl
          | false =>
            exact (ready_nil hr hb (by rfl) (by simp [Region.binds, f0, f1])).elim
      have f3 : L[3]? = some true := by
        cases hb : L[3]? with
        | none => have := (Array.getElem?_eq_none_iff.1 hb); omega
        | some b =>
          cases b with
          | true => rfl
          | false =>
            exact (ready_nil hr hb (by rfl) (by simp [Region.binds, f0, f1, f2])).elim
      have f4 : L[4]? = some true := by
        cases hb : L[4]? with
        | none => have := (Array.getElem?_eq_none_iff.1 hb); omega
        | some b =>
          cases b with
          | true => rfl
          | false =>
            exact (ready_nil hr hb (by rfl) (by simp [Region.binds, f0, f1, f2, f3])).elim
      have f5 : L[5]? = some true := by
        cases hb : L[5]? with
        | none => have := (Array.getElem?_eq_none_iff.1 hb); omega
        | some b =>
          cases b with
          | true => rfl
          | false =>
            exact (ready_nil hr hb (by rfl) (by simp [Region.binds, f0, f1, f2, f3, f4])).elim
      have f6 : L[6]? = some true := by
        cases hb : L[6]? with
        | none => have := (Array.getElem?_eq_none_iff.1 hb); omega
        | some b =>
          cases b with
          | true => rfl
          | false =>
            exact (ready_nil hr hb (by rfl) (by simp [Region.binds, f0, f1, f2, f3, f4, f5])).elim
      have f7 : L[7]? = some true := by
        cases hb : L[7]? with
        | none => have := (Array.getElem?_eq_none_iff.1 hb); omega
        | some b =>
          cases b with
          | true => rfl
          | false =>
            exact (ready_nil hr hb (by rfl) (by simp [Region.binds, f0, f1, f2, f3, f4, f5, f6])).elim
      have f8 : L[8]? = some true := by
        cases hb : L[8]? with
        | none => have := (Array.getElem?_eq_none_iff.1 hb); omega
        | some b =>
          cases b with
          | true => rfl
          | false =>
            exact (ready_nil hr hb (by rfl) (by simp [Region.binds, f0, f1, f2, f3, f4, f5, f6, f7])).elim
      have f9 : L[9]? = some true := by
        cases hb : L[9]? with
        | none => have := (Array.getElem?_eq_none_iff.1 hb); omega
        | some b =>
          cases b with
          | true => rfl
          | false =>
            exact (ready_nil hr hb (by rfl) (by simp [Region.binds, f0, f1, f2, f3, f4, f5, f6, f7, f8])).elim
      have f10 : L[10]? = some true := by
        cases hb : L[10]? with
        | none => have := (Array.getElem?_eq_none_iff.1 hb); omega
        | some b =>
          cases b with
          | true => rfl
          | false =>
            exact (ready_nil hr hb (by rfl) (by simp [Region.binds, f0, f1, f2, f3, f4, f5, f6, f7, f8, f9])).elim
      have f11 : L[11]? = some true := by
        cases hb : L[11]? with
        | none => have := (Array.getElem?_eq_none_iff.1 hb); omega
        | some b =>
          cases b with
          | true => rfl
          | false =>
            exact (ready_nil hr hb (by rfl) (by simp [Region.binds, f0, f1, f2, f3, f4, f5, f6, f7, f8, f9, f10])).elim
      obtain ⟨A0, D0, v0, hp0, hy0, hh0⟩ := z12 f9
      obtain ⟨D0', a0, n0, c0, ps0, hz0, hg0, ho0⟩ := z1 f1
      rw [hy0] at hz0
      obtain ⟨rfl, rfl⟩ : D0 = D0' ∧ v0 = .slice a0 n0 c0 := by simpa using hz0
      obtain ⟨A1, D1, v1, hp1, hy1, hh1⟩ := z13 f10
      obtain ⟨D1', a1, n1, c1, ps1, hz1, hg1, ho1⟩ := z3 f3
      rw [hy1] at hz1
      obtain ⟨rfl, rfl⟩ : D1 = D1' ∧ v1 = .slice a1 n1 c1 := by simpa using hz1
      obtain ⟨A2, D2, v2, hp2, hy2, hh2⟩ := z14 f11
      obtain ⟨D2', a2, n2, c2, ps2, hz2, hg2, ho2⟩ := z5 f5
      rw [hy2] at hz2
      obtain ⟨rfl, rfl⟩ : D2 = D2' ∧ v2 = .slice a2 n2 c2 := by simpa using hz2
      subst hp0 hp1 hp2
      have HF := Lib.hid (show Lbl wz A0 D0 (.slice a0 n0 c0) ps0 ∧ Lbl wz A1 D1 (.slice a1 n1 c1) ps1 ∧ Lbl wz A2 D2 (.slice a2 n2 c2) ps2 ∧ Lab.Fine D0 ps0 ∧ Lab.Fine D1 ps1 ∧ Lab.Fine D2 ps2 ∧ Below w1.heap.size w1 wz from ⟨⟨hh0, rc_of_owns ho0 (by have := hg0.2.2.2.2; omega)⟩, ⟨hh1, rc_of_owns ho1 (by have := hg1.2.2.2.2; omega)⟩, ⟨hh2, rc_of_owns ho2 (by have := hg2.2.2.2.2; omega)⟩, hg0, hg1, hg2, hbel⟩)
      go_wp2_with fail
      go_meet
      exact ⟨_, _, _, _, _, _, _, _, _, _, _, _, _, _, _, _, _, _, rfl, rfl, rfl, HF⟩
  case rest =>
    obtain ⟨A0, D0, ps0, a0, n0, c0, A1, D1, ps1, a1, n1, c1, A2, D2, ps2, a2, n2, c2, rfl, rfl, rfl, HF⟩ := hcut
    have HBw := Lib.hid (HS.out w1 (Below.refl _ _)).1
    clear HS SS C0 C1 C2 hcall HI0 HI1 HI2 HK HB HFit
    obtain ⟨X, rfl⟩ : ∃ X, X = wc := ⟨_, rfl⟩
    obtain ⟨L0, L1, L2, F0, F1, F2, hbx⟩ := HF.out
    have HX := Lib.hid (HBw.out.trans (hbx.mono HBw.out.size))
    have O0 := Lib.hid F0.1
    have l0 := F0.2.2.2.2
    have O1 := Lib.hid F1.1
    have l1 := F1.2.2.2.2
    have O2 := Lib.hid F2.1
    have l2 := F2.2.2.2.2
    go_upto_region 4 with fail
    obtain ⟨Mmab, eMmab⟩ : ∃ X, min D0 D1 = X := ⟨_, rfl⟩
    obtain ⟨Zmab, eZmab⟩ : ∃ X, Lab.mt D0 ps0 D1 ps1 = X := ⟨_, rfl⟩
    have Omab := Lib.hid (show Lab.Ok Mmab Zmab by rw [← eMmab, ← eZmab]; exact Lab.mt_ok O0.out O1.out)
    have lZmab : Zmab.length ≤ 24 := by rw [← eZmab]; have := Lab.mt_len D0 ps0 D1 ps1; omega
    obtain ⟨Mjab, eMjab⟩ : ∃ X, max D0 D1 = X := ⟨_, rfl⟩
    obtain ⟨Zjab, eZjab⟩ : ∃ X, Lab.jn D0 ps0 D1 ps1 = X := ⟨_, rfl⟩
    have Ojab := Lib.hid (show Lab.Ok Mjab Zjab by rw [← eMjab, ← eZjab]; exact Lab.jn_ok O0.out O1.out)
    have lZjab : Zjab.length ≤ 24 := by rw [← eZjab]; have := Lab.jn_len D0 ps0 D1 ps1; omega
    obtain ⟨Mjba, eMjba⟩ : ∃ X, max D1 D0 = X := ⟨_, rfl⟩
    obtain ⟨Zjba, eZjba⟩ : ∃ X, Lab.jn D1 ps1 D0 ps0 = X := ⟨_, rfl⟩
    have Ojba := Lib.hid (show Lab.Ok Mjba Zjba by rw [← eMjba, ← eZjba]; exact Lab.jn_ok O1.out O0.out)
    have lZjba : Zjba.length ≤ 24 := by rw [← eZjba]; have := Lab.jn_len D1 ps1 D0 ps0; omega
    obtain ⟨Mmba, eMmba⟩ : ∃ X, min D1 D0 = X := ⟨_, rfl⟩
    obtain ⟨Zmba, eZmba⟩ : ∃ X, Lab.mt D1 ps1 D0 ps0 = X := ⟨_, rfl⟩
    have Omba := Lib.hid (show Lab.Ok Mmba Zmba by rw [← eMmba, ← eZmba]; exact Lab.mt_ok O1.out O0.out)
    have lZmba : Zmba.length ≤ 24 := by rw [← eZmba]; have := Lab.mt_len D1 ps1 D0 ps0; omega
    obtain ⟨Mjbc, eMjbc⟩ : ∃ X, max D1 D2 = X := ⟨_, rfl⟩
    obtain ⟨Zjbc, eZjbc⟩ : ∃ X, Lab.jn D1 ps1 D2 ps2 = X := ⟨_, rfl⟩
    have Ojbc := Lib.hid (show Lab.Ok Mjbc Zjbc by rw [← eMjbc, ← eZjbc]; exact Lab.jn_ok O1.out O2.out)
    have lZjbc : Zjbc.length ≤ 24 := by rw [← eZjbc]; have := Lab.jn_len D1 ps1 D2 ps2; omega
    obtain ⟨Mmbc, eMmbc⟩ : ∃ X, min D1 D2 = X := ⟨_, rfl⟩
    obtain ⟨Zmbc, eZmbc⟩ : ∃ X, Lab.mt D1 ps1 D2 ps2 = X := ⟨_, rfl⟩
    have Ombc := Lib.hid (show Lab.Ok Mmbc Zmbc by rw [← eMmbc, ← eZmbc]; exact Lab.mt_ok O1.out O2.out)
    have lZmbc : Zmbc.length ≤ 24 := by rw [← eZmbc]; have := Lab.mt_len D1 ps1 D2 ps2; omega
    obtain ⟨Mjm, eMjm⟩ : ∃ X, max D0 Mmab = X := ⟨_, rfl⟩
    obtain ⟨Zjm, eZjm⟩ : ∃ X, Lab.jn D0 ps0 Mmab Zmab = X := ⟨_, rfl⟩
    have Ojm := Lib.hid (show Lab.Ok Mjm Zjm by rw [← eMjm, ← eZjm]; exact Lab.jn_ok O0.out Omab.out)
    have lZjm : Zjm.length ≤ 36 := by rw [← eZjm]; have := Lab.jn_len D0 ps0 Mmab Zmab; omega
    obtain ⟨Mmj, eMmj⟩ : ∃ X, min D0 Mjab = X := ⟨_, rfl⟩
    obtain ⟨Zmj, eZmj⟩ : ∃ X, Lab.mt D0 ps0 Mjab Zjab = X := ⟨_, rfl⟩
    have Omj := Lib.hid (show Lab.Ok Mmj Zmj by rw [← eMmj, ← eZmj]; exact Lab.mt_ok O0.out Ojab.out)
    have lZmj : Zmj.length ≤ 36 := by rw [← eZmj]; have := Lab.mt_len D0 ps0 Mjab Zjab; omega
    obtain ⟨Mjl, eMjl⟩ : ∃ X, max D0 Mjbc = X := ⟨_, rfl⟩
    obtain ⟨Zjl, eZjl⟩ : ∃ X, Lab.jn D0 ps0 Mjbc Zjbc = X := ⟨_, rfl⟩
    have Ojl := Lib.hid (show Lab.Ok Mjl Zjl by rw [← eMjl, ← eZjl]; exact Lab.jn_ok O0.out Ojbc.out)
    have lZjl : Zjl.length ≤ 36 := by rw [← eZjl]; have := Lab.jn_len D0 ps0 Mjbc Zjbc; omega
    obtain ⟨Mjr, eMjr⟩ : ∃ X, max Mjab D2 = X := ⟨_, rfl⟩
    obtain ⟨Zjr, eZjr⟩ : ∃ X, Lab.jn Mjab Zjab D2 ps2 = X := ⟨_, rfl⟩
    have Ojr := Lib.hid (show Lab.Ok Mjr Zjr by rw [← eMjr, ← eZjr]; exact Lab.jn_ok Ojab.out O2.out)
    have lZjr : Zjr.length ≤ 36 := by rw [← eZjr]; have := Lab.jn_len Mjab Zjab D2 ps2; omega
    obtain ⟨Mml, eMml⟩ : ∃ X, min D0 Mmbc = X := ⟨_, rfl⟩
    obtain ⟨Zml, eZml⟩ : ∃ X, Lab.mt D0 ps0 Mmbc Zmbc = X := ⟨_, rfl⟩
    have Oml := Lib.hid (show Lab.Ok Mml Zml by rw [← eMml, ← eZml]; exact Lab.mt_ok O0.out Ombc.out)
    have lZml : Zml.length ≤ 36 := by rw [← eZml]; have := Lab.mt_len D0 ps0 Mmbc Zmbc; omega
    obtain ⟨Mmr, eMmr⟩ : ∃ X, min Mmab D2 = X := ⟨_, rfl⟩
    obtain ⟨Zmr, eZmr⟩ : ∃ X, Lab.mt Mmab Zmab D2 ps2 = X := ⟨_, rfl⟩
    have Omr := Lib.hid (show Lab.Ok Mmr Zmr by rw [← eMmr, ← eZmr]; exact Lab.mt_ok Omab.out O2.out)
    have lZmr : Zmr.length ≤ 36 := by rw [← eZmr]; have := Lab.mt_len Mmab Zmab D2 ps2; omega
    have E1 := Lib.hid (show Mjm = D0 ∧ Zjm = ps0 by rw [← eMjm, ← eZjm, ← eMmab, ← eZmab]; exact absorb_jm O0.out O1.out)
    have E2 := Lib.hid (show Mmj = D0 ∧ Zmj = ps0 by rw [← eMmj, ← eZmj, ← eMjab, ← eZjab]; exact absorb_mj O0.out O1.out)
    have E3 := Lib.hid (show Mjab = Mjba ∧ Zjab = Zjba by rw [← eMjab, ← eMjba, ← eZjab, ← eZjba]; exact comm_j O0.out O1.out)
    have E4 := Lib.hid (show Mmab = Mmba ∧ Zmab = Zmba by rw [← eMmab, ← eMmba, ← eZmab, ← eZmba]; exact comm_m O0.out O1.out)
    have E5 := Lib.hid (show Mjl = Mjr ∧ Zjl = Zjr by rw [← eMjl, ← eMjr, ← eZjl, ← eZjr, ← eMjbc, ← eZjbc, ← eMjab, ← eZjab]; exact assoc_j O0.out O1.out O2.out)
    have E6 := Lib.hid (show Mml = Mmr ∧ Zml = Zmr by rw [← eMml, ← eMmr, ← eZml, ← eZmr, ← eMmbc, ← eZmbc, ← eMmab, ← eZmab]; exact assoc_m O0.out O1.out O2.out)
    have Pmab := Lib.hid (fun (W : World) (v0 : Value) (v1 : Value) (r0 : RC W.heap.size W v0 ps0) (r1 : RC W.heap.size W v1 ps1) => (by rw [← eMmab, ← eZmab]; exact meet_c O0.out O1.out r0 r1 (by omega) : Calls Try.prog 16 #[.agg #[.int .i64 D0, v0], .agg #[.int .i64 D1, v1]] W (LG W Mmab Zmab)))
    have Pjm := Lib.hid (fun (W : World) (v0 : Value) (v1 : Value) (r0 : RC W.heap.size W v0 ps0) (r1 : RC W.heap.size W v1 Zmab) => (by rw [← eMjm, ← eZjm]; exact join_c O0.out Omab.out r0 r1 (by omega) : Calls Try.prog 15 #[.agg #[.int .i64 D0, v0], .agg #[.int .i64 Mmab, v1]] W (LG W Mjm Zjm)))
    have Pjab := Lib.hid (fun (W : World) (v0 : Value) (v1 : Value) (r0 : RC W.heap.size W v0 ps0) (r1 : RC W.heap.size W v1 ps1) => (by rw [← eMjab, ← eZjab]; exact join_c O0.out O1.out r0 r1 (by omega) : Calls Try.prog 15 #[.agg #[.int .i64 D0, v0], .agg #[.int .i64 D1, v1]] W (LG W Mjab Zjab)))
    have Pmj := Lib.hid (fun (W : World) (v0 : Value) (v1 : Value) (r0 : RC W.heap.size W v0 ps0) (r1 : RC W.heap.size W v1 Zjab) => (by rw [← eMmj, ← eZmj]; exact meet_c O0.out Ojab.out r0 r1 (by omega) : Calls Try.prog 16 #[.agg #[.int .i64 D0, v0], .agg #[.int .i64 Mjab, v1]] W (LG W Mmj Zmj)))
    have Pjba := Lib.hid (fun (W : World) (v0 : Value) (v1 : Value) (r0 : RC W.heap.size W v0 ps1) (r1 : RC W.heap.size W v1 ps0) => (by rw [← eMjba, ← eZjba]; exact join_c O1.out O0.out r0 r1 (by omega) : Calls Try.prog 15 #[.agg #[.int .i64 D1, v0], .agg #[.int .i64 D0, v1]] W (LG W Mjba Zjba)))
    have Pmba := Lib.hid (fun (W : World) (v0 : Value) (v1 : Value) (r0 : RC W.heap.size W v0 ps1) (r1 : RC W.heap.size W v1 ps0) => (by rw [← eMmba, ← eZmba]; exact meet_c O1.out O0.out r0 r1 (by omega) : Calls Try.prog 16 #[.agg #[.int .i64 D1, v0], .agg #[.int .i64 D0, v1]] W (LG W Mmba Zmba)))
    have Pjbc := Lib.hid (fun (W : World) (v0 : Value) (v1 : Value) (r0 : RC W.heap.size W v0 ps1) (r1 : RC W.heap.size W v1 ps2) => (by rw [← eMjbc, ← eZjbc]; exact join_c O1.out O2.out r0 r1 (by omega) : Calls Try.prog 15 #[.agg #[.int .i64 D1, v0], .agg #[.int .i64 D2, v1]] W (LG W Mjbc Zjbc)))
    have Pjl := Lib.hid (fun (W : World) (v0 : Value) (v1 : Value) (r0 : RC W.heap.size W v0 ps0) (r1 : RC W.heap.size W v1 Zjbc) => (by rw [← eMjl, ← eZjl]; exact join_c O0.out Ojbc.out r0 r1 (by omega) : Calls Try.prog 15 #[.agg #[.int .i64 D0, v0], .agg #[.int .i64 Mjbc, v1]] W (LG W Mjl Zjl)))
    have Pjr := Lib.hid (fun (W : World) (v0 : Value) (v1 : Value) (r0 : RC W.heap.size W v0 Zjab) (r1 : RC W.heap.size W v1 ps2) => (by rw [← eMjr, ← eZjr]; exact join_c Ojab.out O2.out r0 r1 (by omega) : Calls Try.prog 15 #[.agg #[.int .i64 Mjab, v0], .agg #[.int .i64 D2, v1]] W (LG W Mjr Zjr)))
    have Pmbc := Lib.hid (fun (W : World) (v0 : Value) (v1 : Value) (r0 : RC W.heap.size W v0 ps1) (r1 : RC W.heap.size W v1 ps2) => (by rw [← eMmbc, ← eZmbc]; exact meet_c O1.out O2.out r0 r1 (by omega) : Calls Try.prog 16 #[.agg #[.int .i64 D1, v0], .agg #[.int .i64 D2, v1]] W (LG W Mmbc Zmbc)))
    have Pml := Lib.hid (fun (W : World) (v0 : Value) (v1 : Value) (r0 : RC W.heap.size W v0 ps0) (r1 : RC W.heap.size W v1 Zmbc) => (by rw [← eMml, ← eZml]; exact meet_c O0.out Ombc.out r0 r1 (by omega) : Calls Try.prog 16 #[.agg #[.int .i64 D0, v0], .agg #[.int .i64 Mmbc, v1]] W (LG W Mml Zml)))
    have Pmr := Lib.hid (fun (W : World) (v0 : Value) (v1 : Value) (r0 : RC W.heap.size W v0 Zmab) (r1 : RC W.heap.size W v1 ps2) => (by rw [← eMmr, ← eZmr]; exact meet_c Omab.out O2.out r0 r1 (by omega) : Calls Try.prog 16 #[.agg #[.int .i64 Mmab, v0], .agg #[.int .i64 D2, v1]] W (LG W Mmr Zmr)))
    have KS := Lib.hid (fun (wx : World) (h : Below X.heap.size X wx) => (⟨(L0).below h, (L1).below h, (L2).below h, (HX.out).trans (h.mono (HX.out).size)⟩ : Lbl wx A0 D0 (.slice a0 n0 c0) ps0 ∧ Lbl wx A1 D1 (.slice a1 n1 c1) ps1 ∧ Lbl wx A2 D2 (.slice a2 n2 c2) ps2 ∧ Below w.heap.size w wx))
    have SC := Lib.hid (fun (wx : World) (h : Below X.heap.size X wx) => (⟨(KS.out wx h).1.cells.1, (KS.out wx h).1.cells.2, (KS.out wx h).2.1.cells.1, (KS.out wx h).2.1.cells.2, (KS.out wx h).2.2.1.cells.1, (KS.out wx h).2.2.1.cells.2⟩ : wx.cell? ⟨A0, 0, none⟩ = some (.int .i64 D0) ∧ wx.cell? ⟨A0, 1, none⟩ = some ((.slice a0 n0 c0)) ∧ wx.cell? ⟨A1, 0, none⟩ = some (.int .i64 D1) ∧ wx.cell? ⟨A1, 1, none⟩ = some ((.slice a1 n1 c1)) ∧ wx.cell? ⟨A2, 0, none⟩ = some (.int .i64 D2) ∧ wx.cell? ⟨A2, 1, none⟩ = some ((.slice a2 n2 c2))))
    clear eMmab eZmab eMjab eZjab eMjba eZjba eMmba eZmba eMjbc eZjbc eMmbc eZmbc eMjm eZjm eMmj eZmj eMjl eZjl eMjr eZjr eMml eZml eMmr eZmr L0 L1 L2 F0 F1 F2 hbx HF HBw O0 O1 O2 HX Omab Ojm Ojab Omj Ojba Omba Ojbc Ojl Ojr Ombc Oml Omr
    have st0 := Lib.hid (show 0 = 0 from rfl)
    have hcall := Lib.hid ((Below.refl X.heap.size X).drew)
    refine wp_region_held_drew (S := fun w' => w'.cell? ⟨A0, 0, none⟩ = some (.int .i64 D0) ∧ w'.cell? ⟨A0, 1, none⟩ = some ((.slice a0 n0 c0)) ∧ w'.cell? ⟨A1, 0, none⟩ = some (.int .i64 D1) ∧ w'.cell? ⟨A1, 1, none⟩ = some ((.slice a1 n1 c1)) ∧ w'.cell? ⟨A2, 0, none⟩ = some (.int .i64 D2) ∧ w'.cell? ⟨A2, 1, none⟩ = some ((.slice a2 n2 c2))) (by kernel_rfl) (SC.out _ hcall.out) (fun hHeld => ?_)
    refine wpAnyH_take (i := 0) (oi := { dst := some 18, op := Op.load 24 (Operand.tmp 7), type := 24, pos := "law.go:126", after := #[], guard := none }) (v := ?vv1) rfl (by kernel_rfl) (by kernel_rfl) (by kernel_rfl) (fun _ _ _ h => h) (Or.inl ⟨by rfl, ?hy1⟩) hHeld ?rest1
    case hy1 => (intro wS hSw; (try dsimp only at hSw); go_simp; try with_reducible rfl)
    simp only [Act.put, List.setIfInBounds_toArray, List.set_cons_zero, List.set_cons_succ]
    refine wpAnyH_take (i := 1) (oi := { dst := some 19, op := Op.load 24 (Operand.tmp 7), type := 24, pos := "law.go:126", after := #[], guard := none }) (v := ?vv2) rfl (by kernel_rfl) (by kernel_rfl) (by kernel_rfl) (fun _ _ _ h => h) (Or.inl ⟨by rfl, ?hy2⟩) hHeld ?rest2
    case hy2 => (intro wS hSw; (try dsimp only at hSw); go_simp; try with_reducible rfl)
    simp only [Act.put, List.setIfInBounds_toArray, List.set_cons_zero, List.set_cons_succ]
    refine wpAnyH_take (i := 2) (oi := { dst := some 20, op := Op.load 24 (Operand.tmp 8), type := 24, pos := "law.go:126", after := #[], guard := none }) (v := ?vv3) rfl (by kernel_rfl) (by kernel_rfl) (by kernel_rfl) (fun _ _ _ h => h) (Or.inl ⟨by rfl, ?hy3⟩) hHeld ?rest3
    case hy3 => (intro wS hSw; (try dsimp only at hSw); go_simp; try with_reducible rfl)
    simp only [Act.put, List.setIfInBounds_toArray, List.set_cons_zero, List.set_cons_succ]
    refine wpAnyH_take (i := 5) (oi := { dst := some 23, op := Op.load 24 (Operand.tmp 7), type := 24, pos := "law.go:126", after := #[], guard := none }) (v := ?vv4) rfl (by kernel_rfl) (by kernel_rfl) (by kernel_rfl) (fun _ _ _ h => h) (Or.inl ⟨by rfl, ?hy4⟩) hHeld ?rest4
    case hy4 => (intro wS hSw; (try dsimp only at hSw); go_simp; try with_reducible rfl)
    simp only [Act.put, List.setIfInBounds_toArray, List.set_cons_zero, List.set_cons_succ]
    refine wpAnyH_ready (rs := [3]) (by kernel_rfl) (by simp) ?_
    refine AllReadyH.cons (o := { dst := some 21, op := Op.call { callee := Callee.value (Operand.func 16), args := #[Operand.tmp 19, Operand.tmp 20], argTypes := #[24, 24] }, type := 24, pos := "law.go:126", after := #[{ on := 1, ground := Ground.data }, { on := 2, ground := Ground.data }], guard := none }) rfl (fun K hK => ?_) AllReadyH.nil
    go_simp
    with_reducible refine (Pmab.out _ _ _ (KS.out _ hcall.out).1.rc (KS.out _ hcall.out).2.1.rc).mono ?_
    rintro e wq ⟨a1, n1, c1, rfl, ho, hb'⟩
    have R1 := Lib.hid (rc_of_owns ho (by omega))
    clear ho
    replace hcall := Lib.hid (hcall.out.trans (hb'.mono hcall.out.size))
    clear hb' hHeld
    try go_wp2_with fail
    refine hK.out _ _ (SC.out _ hcall.out) (fun hHeld => ?_)
    clear hK K
    try simp only [Act.put, List.setIfInBounds_toArray, List.set_cons_zero, List.set_cons_succ]
    refine wpAnyH_ready (rs := [4]) (by kernel_rfl) (by simp) ?_
    refine AllReadyH.cons (o := { dst := some 22, op := Op.call { callee := Callee.value (Operand.func 15), args := #[Operand.tmp 18, Operand.tmp 21], argTypes := #[24, 24] }, type := 24, pos := "law.go:126", after := #[{ on := 0, ground := Ground.data }, { on := 3, ground := Ground.data }, { on := 3, ground := Ground.chain }], guard := none }) rfl (fun K hK => ?_) AllReadyH.nil
    go_simp
    with_reducible refine (Pjm.out _ _ _ (KS.out _ hcall.out).1.rc R1.out).mono ?_
    rintro e wq ⟨a2, n2, c2, rfl, ho, hb'⟩
    have R2 := Lib.hid (rc_of_owns ho (by omega))
    clear ho
    replace hcall := Lib.hid (hcall.out.trans (hb'.mono hcall.out.size))
    clear hb' hHeld
    try go_wp2_with fail
    refine hK.out _ _ (SC.out _ hcall.out) (fun hHeld => ?_)
    clear hK K
    try simp only [Act.put, List.setIfInBounds_toArray, List.set_cons_zero, List.set_cons_succ]
    refine wpAnyH_ready (rs := [6]) (by kernel_rfl) (by simp) ?_
    refine AllReadyH.cons (o := { dst := some 24, op := Op.call { callee := Callee.value (Operand.func 18), args := #[Operand.tmp 22, Operand.tmp 23], argTypes := #[24, 24] }, type := 4, pos := "law.go:126", after := #[{ on := 4, ground := Ground.data }, { on := 5, ground := Ground.data }, { on := 4, ground := Ground.chain }], guard := none }) rfl (fun K hK => ?_) AllReadyH.nil
    go_simp
    with_reducible refine (same_yes R2.out (KS.out _ hcall.out).1.rc E1.out).mono ?_
    rintro e wq ⟨rfl, hb'⟩
    replace hcall := Lib.hid (hcall.out.trans (hb'.mono hcall.out.size))
    clear hb' hHeld
    try go_wp2_with fail
    refine hK.out _ _ (SC.out _ hcall.out) (fun hHeld => ?_)
    clear hK K
    try simp only [Act.put, List.setIfInBounds_toArray, List.set_cons_zero, List.set_cons_succ]
    refine wpAnyH_take (i := 7) (oi := { dst := some 25, op := Op.move (Operand.tmp 24), type := 4, pos := "law.go:126", after := #[{ on := 6, ground := Ground.data }, { on := 6, ground := Ground.chain }], guard := none }) (v := ?vv5) rfl (by kernel_rfl) (by kernel_rfl) (by kernel_rfl) (fun _ _ _ h => h) (Or.inl ⟨by rfl, ?hy5⟩) hHeld ?rest5
    case hy5 => (intro wS hSw; (try dsimp only at hSw); go_simp; try with_reducible rfl)
    simp only [Act.put, List.setIfInBounds_toArray, List.set_cons_zero, List.set_cons_succ]
    refine wpAnyH_take (i := 8) (oi := { dst := some 26, op := Op.load 24 (Operand.tmp 7), type := 24, pos := "law.go:126", after := #[{ on := 7, ground := Ground.guard }], guard := some (7, true) }) (v := ?vv6) rfl (by kernel_rfl) (by kernel_rfl) (by kernel_rfl) (fun _ _ _ h => h) (Or.inl ⟨by rfl, ?hy6⟩) hHeld ?rest6
    case hy6 => (intro wS hSw; (try dsimp only at hSw); go_simp; try with_reducible rfl)
    simp only [Act.put, List.setIfInBounds_toArray, List.set_cons_zero, List.set_cons_succ]
    refine wpAnyH_take (i := 9) (oi := { dst := some 27, op := Op.load 24 (Operand.tmp 7), type := 24, pos := "law.go:126", after := #[{ on := 7, ground := Ground.guard }], guard := some (7, true) }) (v := ?vv7) rfl (by kernel_rfl) (by kernel_rfl) (by kernel_rfl) (fun _ _ _ h => h) (Or.inl ⟨by rfl, ?hy7⟩) hHeld ?rest7
    case hy7 => (intro wS hSw; (try dsimp only at hSw); go_simp; try with_reducible rfl)
    simp only [Act.put, List.setIfInBounds_toArray, List.set_cons_zero, List.set_cons_succ]
    refine wpAnyH_take (i := 10) (oi := { dst := some 28, op := Op.load 24 (Operand.tmp 8), type := 24, pos := "law.go:126", after := #[{ on := 7, ground := Ground.guard }], guard := some (7, true) }) (v := ?vv8) rfl (by kernel_rfl) (by kernel_rfl) (by kernel_rfl) (fun _ _ _ h => h) (Or.inl ⟨by rfl, ?hy8⟩) hHeld ?rest8
    case hy8 => (intro wS hSw; (try dsimp only at hSw); go_simp; try with_reducible rfl)
    simp only [Act.put, List.setIfInBounds_toArray, List.set_cons_zero, List.set_cons_succ]
    refine wpAnyH_take (i := 13) (oi := { dst := some 31, op := Op.load 24 (Operand.tmp 7), type := 24, pos := "law.go:126", after := #[{ on := 7, ground := Ground.guard }], guard := some (7, true) }) (v := ?vv9) rfl (by kernel_rfl) (by kernel_rfl) (by kernel_rfl) (fun _ _ _ h => h) (Or.inl ⟨by rfl, ?hy9⟩) hHeld ?rest9
    case hy9 => (intro wS hSw; (try dsimp only at hSw); go_simp; try with_reducible rfl)
    simp only [Act.put, List.setIfInBounds_toArray, List.set_cons_zero, List.set_cons_succ]
    refine wpAnyH_ready (rs := [11]) (by kernel_rfl) (by simp) ?_
    refine AllReadyH.cons (o := { dst := some 29, op := Op.call { callee := Callee.value (Operand.func 15), args := #[Operand.tmp 27, Operand.tmp 28], argTypes := #[24, 24] }, type := 24, pos := "law.go:126", after := #[{ on := 9, ground := Ground.data }, { on := 10, ground := Ground.data }, { on := 7, ground := Ground.chain }, { on := 7, ground := Ground.guard }], guard := some (7, true) }) rfl (fun K hK => ?_) AllReadyH.nil
    go_simp
    with_reducible refine (Pjab.out _ _ _ (KS.out _ hcall.out).1.rc (KS.out _ hcall.out).2.1.rc).mono ?_
    rintro e wq ⟨a3, n3, c3, rfl, ho, hb'⟩
    have R3 := Lib.hid (rc_of_owns ho (by omega))
    clear ho
    replace hcall := Lib.hid (hcall.out.trans (hb'.mono hcall.out.size))
    clear hb' hHeld
    try go_wp2_with fail
    refine hK.out _ _ (SC.out _ hcall.out) (fun hHeld => ?_)
    clear hK K
    try simp only [Act.put, List.setIfInBounds_toArray, List.set_cons_zero, List.set_cons_succ]
    refine wpAnyH_ready (rs := [12]) (by kernel_rfl) (by simp) ?_
    refine AllReadyH.cons (o := { dst := some 30, op := Op.call { callee := Callee.value (Operand.func 16), args := #[Operand.tmp 26, Operand.tmp 29], argTypes := #[24, 24] }, type := 24, pos := "law.go:126", after := #[{ on := 8, ground := Ground.data }, { on := 11, ground := Ground.data }, { on := 11, ground := Ground.chain }, { on := 7, ground := Ground.guard }], guard := some (7, true) }) rfl (fun K hK => ?_) AllReadyH.nil
    go_simp
    with_reducible refine (Pmj.out _ _ _ (KS.out _ hcall.out).1.rc R3.out).mono ?_
    rintro e wq ⟨a4, n4, c4, rfl, ho, hb'⟩
    have R4 := Lib.hid (rc_of_owns ho (by omega))
    clear ho
    replace hcall := Lib.hid (hcall.out.trans (hb'.mono hcall.out.size))
    clear hb' hHeld
    try go_wp2_with fail
    refine hK.out _ _ (SC.out _ hcall.out) (fun hHeld => ?_)
    clear hK K
    try simp only [Act.put, List.setIfInBounds_toArray, List.set_cons_zero, List.set_cons_succ]
    refine wpAnyH_ready (rs := [14]) (by kernel_rfl) (by simp) ?_
    refine AllReadyH.cons (o := { dst := some 32, op := Op.call { callee := Callee.value (Operand.func 18), args := #[Operand.tmp 30, Operand.tmp 31], argTypes := #[24, 24] }, type := 4, pos := "law.go:126", after := #[{ on := 12, ground := Ground.data }, { on := 13, ground := Ground.data }, { on := 12, ground := Ground.chain }, { on := 7, ground := Ground.guard }], guard := some (7, true) }) rfl (fun K hK => ?_) AllReadyH.nil
    go_simp
    with_reducible refine (same_yes R4.out (KS.out _ hcall.out).1.rc E2.out).mono ?_
    rintro e wq ⟨rfl, hb'⟩
    replace hcall := Lib.hid (hcall.out.trans (hb'.mono hcall.out.size))
    clear hb' hHeld
    try go_wp2_with fail
    refine hK.out _ _ (SC.out _ hcall.out) (fun hHeld => ?_)
    clear hK K
    try simp only [Act.put, List.setIfInBounds_toArray, List.set_cons_zero, List.set_cons_succ]
    refine wpAnyH_take (i := 15) (oi := { dst := some 33, op := Op.pick (Operand.tmp 25) (Operand.tmp 32) (Operand.const (Value.bool false)), type := 4, pos := "law.go:126", after := #[{ on := 7, ground := Ground.data }, { on := 14, ground := Ground.data }], guard := none }) (v := ?vv10) rfl (by kernel_rfl) (by kernel_rfl) (by kernel_rfl) (fun _ _ _ h => h) (Or.inl ⟨by rfl, ?hy10⟩) hHeld ?rest10
    case hy10 => (intro wS hSw; (try dsimp only at hSw); go_simp; try with_reducible rfl)
    simp only [Act.put, List.setIfInBounds_toArray, List.set_cons_zero, List.set_cons_succ]
    refine wpAnyH_take (i := 16) (oi := { dst := some 34, op := Op.move (Operand.tmp 33), type := 4, pos := "law.go:126", after := #[{ on := 15, ground := Ground.data }, { on := 14, ground := Ground.chain }], guard := none }) (v := ?vv11) rfl (by kernel_rfl) (by kernel_rfl) (by kernel_rfl) (fun _ _ _ h => h) (Or.inl ⟨by rfl, ?hy11⟩) hHeld ?rest11
    case hy11 => (intro wS hSw; (try dsimp only at hSw); go_simp; try with_reducible rfl)
    simp only [Act.put, List.setIfInBounds_toArray, List.set_cons_zero, List.set_cons_succ]
    refine wpAnyH_take (i := 17) (oi := { dst := some 35, op := Op.load 24 (Operand.tmp 7), type := 24, pos := "law.go:126", after := #[{ on := 16, ground := Ground.guard }], guard := some (16, true) }) (v := ?vv12) rfl (by kernel_rfl) (by kernel_rfl) (by kernel_rfl) (fun _ _ _ h => h) (Or.inl ⟨by rfl, ?hy12⟩) hHeld ?rest12
    case hy12 => (intro wS hSw; (try dsimp only at hSw); go_simp; try with_reducible rfl)
    simp only [Act.put, List.setIfInBounds_toArray, List.set_cons_zero, List.set_cons_succ]
    refine wpAnyH_take (i := 18) (oi := { dst := some 36, op := Op.load 24 (Operand.tmp 8), type := 24, pos := "law.go:126", after := #[{ on := 16, ground := Ground.guard }], guard := some (16, true) }) (v := ?vv13) rfl (by kernel_rfl) (by kernel_rfl) (by kernel_rfl) (fun _ _ _ h => h) (Or.inl ⟨by rfl, ?hy13⟩) hHeld ?rest13
    case hy13 => (intro wS hSw; (try dsimp only at hSw); go_simp; try with_reducible rfl)
    simp only [Act.put, List.setIfInBounds_toArray, List.set_cons_zero, List.set_cons_succ]
    refine wpAnyH_take (i := 20) (oi := { dst := some 38, op := Op.load 24 (Operand.tmp 8), type := 24, pos := "law.go:126", after := #[{ on := 16, ground := Ground.guard }], guard := some (16, true) }) (v := ?vv14) rfl (by kernel_rfl) (by kernel_rfl) (by kernel_rfl) (fun _ _ _ h => h) (Or.inl ⟨by rfl, ?hy14⟩) hHeld ?rest14
    case hy14 => (intro wS hSw; (try dsimp only at hSw); go_simp; try with_reducible rfl)
    simp only [Act.put, List.setIfInBounds_toArray, List.set_cons_zero, List.set_cons_succ]
    refine wpAnyH_take (i := 21) (oi := { dst := some 39, op := Op.load 24 (Operand.tmp 7), type := 24, pos := "law.go:126", after := #[{ on := 16, ground := Ground.guard }], guard := some (16, true) }) (v := ?vv15) rfl (by kernel_rfl) (by kernel_rfl) (by kernel_rfl) (fun _ _ _ h => h) (Or.inl ⟨by rfl, ?hy15⟩) hHeld ?rest15
    case hy15 => (intro wS hSw; (try dsimp only at hSw); go_simp; try with_reducible rfl)
    simp only [Act.put, List.setIfInBounds_toArray, List.set_cons_zero, List.set_cons_succ]
    refine wpAnyH_ready (rs := [19]) (by kernel_rfl) (by simp) ?_
    refine AllReadyH.cons (o := { dst := some 37, op := Op.call { callee := Callee.value (Operand.func 15), args := #[Operand.tmp 35, Operand.tmp 36], argTypes := #[24, 24] }, type := 24, pos := "law.go:126", after := #[{ on := 17, ground := Ground.data }, { on := 18, ground := Ground.data }, { on := 16, ground := Ground.chain }, { on := 16, ground := Ground.guard }], guard := some (16, true) }) rfl (fun K hK => ?_) AllReadyH.nil
    go_simp
    with_reducible refine (Pjab.out _ _ _ (KS.out _ hcall.out).1.rc (KS.out _ hcall.out).2.1.rc).mono ?_
    rintro e wq ⟨a5, n5, c5, rfl, ho, hb'⟩
    have R5 := Lib.hid (rc_of_owns ho (by omega))
    clear ho
    replace hcall := Lib.hid (hcall.out.trans (hb'.mono hcall.out.size))
    clear hb' hHeld
    try go_wp2_with fail
    refine hK.out _ _ (SC.out _ hcall.out) (fun hHeld => ?_)
    clear hK K
    try simp only [Act.put, List.setIfInBounds_toArray, List.set_cons_zero, List.set_cons_succ]
    refine wpAnyH_ready (rs := [22]) (by kernel_rfl) (by simp) ?_
    refine AllReadyH.cons (o := { dst := some 40, op := Op.call { callee := Callee.value (Operand.func 15), args := #[Operand.tmp 38, Operand.tmp 39], argTypes := #[24, 24] }, type := 24, pos := "law.go:126", after := #[{ on := 20, ground := Ground.data }, { on := 21, ground := Ground.data }, { on := 19, ground := Ground.chain }, { on := 16, ground := Ground.guard }], guard := some (16, true) }) rfl (fun K hK => ?_) AllReadyH.nil
    go_simp
    with_reducible refine (Pjba.out _ _ _ (KS.out _ hcall.out).2.1.rc (KS.out _ hcall.out).1.rc).mono ?_
    rintro e wq ⟨a6, n6, c6, rfl, ho, hb'⟩
    have R6 := Lib.hid (rc_of_owns ho (by omega))
    clear ho
    replace R5 := Lib.hid ((R5.out.below hb').mono hb'.size)
    replace hcall := Lib.hid (hcall.out.trans (hb'.mono hcall.out.size))
    clear hb' hHeld
    try go_wp2_with fail
    refine hK.out _ _ (SC.out _ hcall.out) (fun hHeld => ?_)
    clear hK K
    try simp only [Act.put, List.setIfInBounds_toArray, List.set_cons_zero, List.set_cons_succ]
    refine wpAnyH_ready (rs := [23]) (by kernel_rfl) (by simp) ?_
    refine AllReadyH.cons (o := { dst := some 41, op := Op.call { callee := Callee.value (Operand.func 18), args := #[Operand.tmp 37, Operand.tmp 40], argTypes := #[24, 24] }, type := 4, pos := "law.go:126", after := #[{ on := 19, ground := Ground.data }, { on := 22, ground := Ground.data }, { on := 22, ground := Ground.chain }, { on := 16, ground := Ground.guard }], guard := some (16, true) }) rfl (fun K hK => ?_) AllReadyH.nil
    go_simp
    with_reducible refine (same_yes R5.out R6.out E3.out).mono ?_
    rintro e wq ⟨rfl, hb'⟩
    replace hcall := Lib.hid (hcall.out.trans (hb'.mono hcall.out.size))
    clear hb' hHeld
    try go_wp2_with fail
    refine hK.out _ _ (SC.out _ hcall.out) (fun hHeld => ?_)
    clear hK K
    try simp only [Act.put, List.setIfInBounds_toArray, List.set_cons_zero, List.set_cons_succ]
    refine wpAnyH_take (i := 24) (oi := { dst := some 42, op := Op.pick (Operand.tmp 34) (Operand.tmp 41) (Operand.const (Value.bool false)), type := 4, pos := "law.go:126", after := #[{ on := 16, ground := Ground.data }, { on := 23, ground := Ground.data }], guard := none }) (v := ?vv16) rfl (by kernel_rfl) (by kernel_rfl) (by kernel_rfl) (fun _ _ _ h => h) (Or.inl ⟨by rfl, ?hy16⟩) hHeld ?rest16
    case hy16 => (intro wS hSw; (try dsimp only at hSw); go_simp; try with_reducible rfl)
    simp only [Act.put, List.setIfInBounds_toArray, List.set_cons_zero, List.set_cons_succ]
    refine wpAnyH_take (i := 25) (oi := { dst := some 43, op := Op.move (Operand.tmp 42), type := 4, pos := "law.go:126", after := #[{ on := 24, ground := Ground.data }, { on := 23, ground := Ground.chain }], guard := none }) (v := ?vv17) rfl (by kernel_rfl) (by kernel_rfl) (by kernel_rfl) (fun _ _ _ h => h) (Or.inl ⟨by rfl, ?hy17⟩) hHeld ?rest17
    case hy17 => (intro wS hSw; (try dsimp only at hSw); go_simp; try with_reducible rfl)
    simp only [Act.put, List.setIfInBounds_toArray, List.set_cons_zero, List.set_cons_succ]
    refine wpAnyH_take (i := 26) (oi := { dst := some 44, op := Op.load 24 (Operand.tmp 7), type := 24, pos := "law.go:126", after := #[{ on := 25, ground := Ground.guard }], guard := some (25, true) }) (v := ?vv18) rfl (by kernel_rfl) (by kernel_rfl) (by kernel_rfl) (fun _ _ _ h => h) (Or.inl ⟨by rfl, ?hy18⟩) hHeld ?rest18
    case hy18 => (intro wS hSw; (try dsimp only at hSw); go_simp; try with_reducible rfl)
    simp only [Act.put, List.setIfInBounds_toArray, List.set_cons_zero, List.set_cons_succ]
    refine wpAnyH_take (i := 27) (oi := { dst := some 45, op := Op.load 24 (Operand.tmp 8), type := 24, pos := "law.go:126", after := #[{ on := 25, ground := Ground.guard }], guard := some (25, true) }) (v := ?vv19) rfl (by kernel_rfl) (by kernel_rfl) (by kernel_rfl) (fun _ _ _ h => h) (Or.inl ⟨by rfl, ?hy19⟩) hHeld ?rest19
    case hy19 => (intro wS hSw; (try dsimp only at hSw); go_simp; try with_reducible rfl)
    simp only [Act.put, List.setIfInBounds_toArray, List.set_cons_zero, List.set_cons_succ]
    refine wpAnyH_take (i := 29) (oi := { dst := some 47, op := Op.load 24 (Operand.tmp 8), type := 24, pos := "law.go:126", after := #[{ on := 25, ground := Ground.guard }], guard := some (25, true) }) (v := ?vv20) rfl (by kernel_rfl) (by kernel_rfl) (by kernel_rfl) (fun _ _ _ h => h) (Or.inl ⟨by rfl, ?hy20⟩) hHeld ?rest20
    case hy20 => (intro wS hSw; (try dsimp only at hSw); go_simp; try with_reducible rfl)
    simp only [Act.put, List.setIfInBounds_toArray, List.set_cons_zero, List.set_cons_succ]
    refine wpAnyH_take (i := 30) (oi := { dst := some 48, op := Op.load 24 (Operand.tmp 7), type := 24, pos := "law.go:126", after := #[{ on := 25, ground := Ground.guard }], guard := some (25, true) }) (v := ?vv21) rfl (by kernel_rfl) (by kernel_rfl) (by kernel_rfl) (fun _ _ _ h => h) (Or.inl ⟨by rfl, ?hy21⟩) hHeld ?rest21
    case hy21 => (intro wS hSw; (try dsimp only at hSw); go_simp; try with_reducible rfl)
    simp only [Act.put, List.setIfInBounds_toArray, List.set_cons_zero, List.set_cons_succ]
    refine wpAnyH_ready (rs := [28]) (by kernel_rfl) (by simp) ?_
    refine AllReadyH.cons (o := { dst := some 46, op := Op.call { callee := Callee.value (Operand.func 16), args := #[Operand.tmp 44, Operand.tmp 45], argTypes := #[24, 24] }, type := 24, pos := "law.go:126", after := #[{ on := 26, ground := Ground.data }, { on := 27, ground := Ground.data }, { on := 25, ground := Ground.chain }, { on := 25, ground := Ground.guard }], guard := some (25, true) }) rfl (fun K hK => ?_) AllReadyH.nil
    go_simp
    with_reducible refine (Pmab.out _ _ _ (KS.out _ hcall.out).1.rc (KS.out _ hcall.out).2.1.rc).mono ?_
    rintro e wq ⟨a7, n7, c7, rfl, ho, hb'⟩
    have R7 := Lib.hid (rc_of_owns ho (by omega))
    clear ho
    replace hcall := Lib.hid (hcall.out.trans (hb'.mono hcall.out.size))
    clear hb' hHeld
    try go_wp2_with fail
    refine hK.out _ _ (SC.out _ hcall.out) (fun hHeld => ?_)
    clear hK K
    try simp only [Act.put, List.setIfInBounds_toArray, List.set_cons_zero, List.set_cons_succ]
    refine wpAnyH_ready (rs := [31]) (by kernel_rfl) (by simp) ?_
    refine AllReadyH.cons (o := { dst := some 49, op := Op.call { callee := Callee.value (Operand.func 16), args := #[Operand.tmp 47, Operand.tmp 48], argTypes := #[24, 24] }, type := 24, pos := "law.go:126", after := #[{ on := 29, ground := Ground.data }, { on := 30, ground := Ground.data }, { on := 28, ground := Ground.chain }, { on := 25, ground := Ground.guard }], guard := some (25, true) }) rfl (fun K hK => ?_) AllReadyH.nil
    go_simp
    with_reducible refine (Pmba.out _ _ _ (KS.out _ hcall.out).2.1.rc (KS.out _ hcall.out).1.rc).mono ?_
    rintro e wq ⟨a8, n8, c8, rfl, ho, hb'⟩
    have R8 := Lib.hid (rc_of_owns ho (by omega))
    clear ho
    replace R7 := Lib.hid ((R7.out.below hb').mono hb'.size)
    replace hcall := Lib.hid (hcall.out.trans (hb'.mono hcall.out.size))
    clear hb' hHeld
    try go_wp2_with fail
    refine hK.out _ _ (SC.out _ hcall.out) (fun hHeld => ?_)
    clear hK K
    try simp only [Act.put, List.setIfInBounds_toArray, List.set_cons_zero, List.set_cons_succ]
    refine wpAnyH_ready (rs := [32]) (by kernel_rfl) (by simp) ?_
    refine AllReadyH.cons (o := { dst := some 50, op := Op.call { callee := Callee.value (Operand.func 18), args := #[Operand.tmp 46, Operand.tmp 49], argTypes := #[24, 24] }, type := 4, pos := "law.go:126", after := #[{ on := 28, ground := Ground.data }, { on := 31, ground := Ground.data }, { on := 31, ground := Ground.chain }, { on := 25, ground := Ground.guard }], guard := some (25, true) }) rfl (fun K hK => ?_) AllReadyH.nil
    go_simp
    with_reducible refine (same_yes R7.out R8.out E4.out).mono ?_
    rintro e wq ⟨rfl, hb'⟩
    replace hcall := Lib.hid (hcall.out.trans (hb'.mono hcall.out.size))
    clear hb' hHeld
    try go_wp2_with fail
    refine hK.out _ _ (SC.out _ hcall.out) (fun hHeld => ?_)
    clear hK K
    try simp only [Act.put, List.setIfInBounds_toArray, List.set_cons_zero, List.set_cons_succ]
    refine wpAnyH_take (i := 33) (oi := { dst := some 51, op := Op.pick (Operand.tmp 43) (Operand.tmp 50) (Operand.const (Value.bool false)), type := 4, pos := "law.go:126", after := #[{ on := 25, ground := Ground.data }, { on := 32, ground := Ground.data }], guard := none }) (v := ?vv22) rfl (by kernel_rfl) (by kernel_rfl) (by kernel_rfl) (fun _ _ _ h => h) (Or.inl ⟨by rfl, ?hy22⟩) hHeld ?rest22
    case hy22 => (intro wS hSw; (try dsimp only at hSw); go_simp; try with_reducible rfl)
    simp only [Act.put, List.setIfInBounds_toArray, List.set_cons_zero, List.set_cons_succ]
    refine wpAnyH_take (i := 34) (oi := { dst := some 52, op := Op.move (Operand.tmp 51), type := 4, pos := "law.go:126", after := #[{ on := 33, ground := Ground.data }, { on := 32, ground := Ground.chain }], guard := none }) (v := ?vv23) rfl (by kernel_rfl) (by kernel_rfl) (by kernel_rfl) (fun _ _ _ h => h) (Or.inl ⟨by rfl, ?hy23⟩) hHeld ?rest23
    case hy23 => (intro wS hSw; (try dsimp only at hSw); go_simp; try with_reducible rfl)
    simp only [Act.put, List.setIfInBounds_toArray, List.set_cons_zero, List.set_cons_succ]
    refine wpAnyH_take (i := 35) (oi := { dst := some 53, op := Op.load 24 (Operand.tmp 7), type := 24, pos := "law.go:126", after := #[{ on := 34, ground := Ground.guard }], guard := some (34, true) }) (v := ?vv24) rfl (by kernel_rfl) (by kernel_rfl) (by kernel_rfl) (fun _ _ _ h => h) (Or.inl ⟨by rfl, ?hy24⟩) hHeld ?rest24
    case hy24 => (intro wS hSw; (try dsimp only at hSw); go_simp; try with_reducible rfl)
    simp only [Act.put, List.setIfInBounds_toArray, List.set_cons_zero, List.set_cons_succ]
    refine wpAnyH_take (i := 36) (oi := { dst := some 54, op := Op.load 24 (Operand.tmp 8), type := 24, pos := "law.go:126", after := #[{ on := 34, ground := Ground.guard }], guard := some (34, true) }) (v := ?vv25) rfl (by kernel_rfl) (by kernel_rfl) (by kernel_rfl) (fun _ _ _ h => h) (Or.inl ⟨by rfl, ?hy25⟩) hHeld ?rest25
    case hy25 => (intro wS hSw; (try dsimp only at hSw); go_simp; try with_reducible rfl)
    simp only [Act.put, List.setIfInBounds_toArray, List.set_cons_zero, List.set_cons_succ]
    refine wpAnyH_take (i := 37) (oi := { dst := some 55, op := Op.load 24 (Operand.tmp 9), type := 24, pos := "law.go:126", after := #[{ on := 34, ground := Ground.guard }], guard := some (34, true) }) (v := ?vv26) rfl (by kernel_rfl) (by kernel_rfl) (by kernel_rfl) (fun _ _ _ h => h) (Or.inl ⟨by rfl, ?hy26⟩) hHeld ?rest26
    case hy26 => (intro wS hSw; (try dsimp only at hSw); go_simp; try with_reducible rfl)
    simp only [Act.put, List.setIfInBounds_toArray, List.set_cons_zero, List.set_cons_succ]
    refine wpAnyH_take (i := 40) (oi := { dst := some 58, op := Op.load 24 (Operand.tmp 7), type := 24, pos := "law.go:126", after := #[{ on := 34, ground := Ground.guard }], guard := some (34, true) }) (v := ?vv27) rfl (by kernel_rfl) (by kernel_rfl) (by kernel_rfl) (fun _ _ _ h => h) (Or.inl ⟨by rfl, ?hy27⟩) hHeld ?rest27
    case hy27 => (intro wS hSw; (try dsimp only at hSw); go_simp; try with_reducible rfl)
    simp only [Act.put, List.setIfInBounds_toArray, List.set_cons_zero, List.set_cons_succ]
    refine wpAnyH_take (i := 41) (oi := { dst := some 59, op := Op.load 24 (Operand.tmp 8), type := 24, pos := "law.go:126", after := #[{ on := 34, ground := Ground.guard }], guard := some (34, true) }) (v := ?vv28) rfl (by kernel_rfl) (by kernel_rfl) (by kernel_rfl) (fun _ _ _ h => h) (Or.inl ⟨by rfl, ?hy28⟩) hHeld ?rest28
    case hy28 => (intro wS hSw; (try dsimp only at hSw); go_simp; try with_reducible rfl)
    simp only [Act.put, List.setIfInBounds_toArray, List.set_cons_zero, List.set_cons_succ]
    refine wpAnyH_take (i := 43) (oi := { dst := some 61, op := Op.load 24 (Operand.tmp 9), type := 24, pos := "law.go:126", after := #[{ on := 34, ground := Ground.guard }], guard := some (34, true) }) (v := ?vv29) rfl (by kernel_rfl) (by kernel_rfl) (by kernel_rfl) (fun _ _ _ h => h) (Or.inl ⟨by rfl, ?hy29⟩) hHeld ?rest29
    case hy29 => (intro wS hSw; (try dsimp only at hSw); go_simp; try with_reducible rfl)
    simp only [Act.put, List.setIfInBounds_toArray, List.set_cons_zero, List.set_cons_succ]
    refine wpAnyH_ready (rs := [38]) (by kernel_rfl) (by simp) ?_
    refine AllReadyH.cons (o := { dst := some 56, op := Op.call { callee := Callee.value (Operand.func 15), args := #[Operand.tmp 54, Operand.tmp 55], argTypes := #[24, 24] }, type := 24, pos := "law.go:126", after := #[{ on := 36, ground := Ground.data }, { on := 37, ground := Ground.data }, { on := 34, ground := Ground.chain }, { on := 34, ground := Ground.guard }], guard := some (34, true) }) rfl (fun K hK => ?_) AllReadyH.nil
    go_simp
    with_reducible refine (Pjbc.out _ _ _ (KS.out _ hcall.out).2.1.rc (KS.out _ hcall.out).2.2.1.rc).mono ?_
    rintro e wq ⟨a9, n9, c9, rfl, ho, hb'⟩
    have R9 := Lib.hid (rc_of_owns ho (by omega))
    clear ho
    replace hcall := Lib.hid (hcall.out.trans (hb'.mono hcall.out.size))
    clear hb' hHeld
    try go_wp2_with fail
    refine hK.out _ _ (SC.out _ hcall.out) (fun hHeld => ?_)
    clear hK K
    try simp only [Act.put, List.setIfInBounds_toArray, List.set_cons_zero, List.set_cons_succ]
    refine wpAnyH_ready (rs := [39]) (by kernel_rfl) (by simp) ?_
    refine AllReadyH.cons (o := { dst := some 57, op := Op.call { callee := Callee.value (Operand.func 15), args := #[Operand.tmp 53, Operand.tmp 56], argTypes := #[24, 24] }, type := 24, pos := "law.go:126", after := #[{ on := 35, ground := Ground.data }, { on := 38, ground := Ground.data }, { on := 38, ground := Ground.chain }, { on := 34, ground := Ground.guard }], guard := some (34, true) }) rfl (fun K hK => ?_) AllReadyH.nil
    go_simp
    with_reducible refine (Pjl.out _ _ _ (KS.out _ hcall.out).1.rc R9.out).mono ?_
    rintro e wq ⟨a10, n10, c10, rfl, ho, hb'⟩
    have R10 := Lib.hid (rc_of_owns ho (by omega))
    clear ho
    replace hcall := Lib.hid (hcall.out.trans (hb'.mono hcall.out.size))
    clear hb' hHeld
    try go_wp2_with fail
    refine hK.out _ _ (SC.out _ hcall.out) (fun hHeld => ?_)
    clear hK K
    try simp only [Act.put, List.setIfInBounds_toArray, List.set_cons_zero, List.set_cons_succ]
    refine wpAnyH_ready (rs := [42]) (by kernel_rfl) (by simp) ?_
    refine AllReadyH.cons (o := { dst := some 60, op := Op.call { callee := Callee.value (Operand.func 15), args := #[Operand.tmp 58, Operand.tmp 59], argTypes := #[24, 24] }, type := 24, pos := "law.go:126", after := #[{ on := 40, ground := Ground.data }, { on := 41, ground := Ground.data }, { on := 39, ground := Ground.chain }, { on := 34, ground := Ground.guard }], guard := some (34, true) }) rfl (fun K hK => ?_) AllReadyH.nil
    go_simp
    with_reducible refine (Pjab.out _ _ _ (KS.out _ hcall.out).1.rc (KS.out _ hcall.out).2.1.rc).mono ?_
    rintro e wq ⟨a11, n11, c11, rfl, ho, hb'⟩
    have R11 := Lib.hid (rc_of_owns ho (by omega))
    clear ho
    replace R10 := Lib.hid ((R10.out.below hb').mono hb'.size)
    replace hcall := Lib.hid (hcall.out.trans (hb'.mono hcall.out.size))
    clear hb' hHeld
    try go_wp2_with fail
    refine hK.out _ _ (SC.out _ hcall.out) (fun hHeld => ?_)
    clear hK K
    try simp only [Act.put, List.setIfInBounds_toArray, List.set_cons_zero, List.set_cons_succ]
    refine wpAnyH_ready (rs := [44]) (by kernel_rfl) (by simp) ?_
    refine AllReadyH.cons (o := { dst := some 62, op := Op.call { callee := Callee.value (Operand.func 15), args := #[Operand.tmp 60, Operand.tmp 61], argTypes := #[24, 24] }, type := 24, pos := "law.go:126", after := #[{ on := 42, ground := Ground.data }, { on := 43, ground := Ground.data }, { on := 42, ground := Ground.chain }, { on := 34, ground := Ground.guard }], guard := some (34, true) }) rfl (fun K hK => ?_) AllReadyH.nil
    go_simp
    with_reducible refine (Pjr.out _ _ _ R11.out (KS.out _ hcall.out).2.2.1.rc).mono ?_
    rintro e wq ⟨a12, n12, c12, rfl, ho, hb'⟩
    have R12 := Lib.hid (rc_of_owns ho (by omega))
    clear ho
    replace R10 := Lib.hid ((R10.out.below hb').mono hb'.size)
    replace hcall := Lib.hid (hcall.out.trans (hb'.mono hcall.out.size))
    clear hb' hHeld
    try go_wp2_with fail
    refine hK.out _ _ (SC.out _ hcall.out) (fun hHeld => ?_)
    clear hK K
    try simp only [Act.put, List.setIfInBounds_toArray, List.set_cons_zero, List.set_cons_succ]
    refine wpAnyH_ready (rs := [45]) (by kernel_rfl) (by simp) ?_
    refine AllReadyH.cons (o := { dst := some 63, op := Op.call { callee := Callee.value (Operand.func 18), args := #[Operand.tmp 57, Operand.tmp 62], argTypes := #[24, 24] }, type := 4, pos := "law.go:126", after := #[{ on := 39, ground := Ground.data }, { on := 44, ground := Ground.data }, { on := 44, ground := Ground.chain }, { on := 34, ground := Ground.guard }], guard := some (34, true) }) rfl (fun K hK => ?_) AllReadyH.nil
    go_simp
    with_reducible refine (same_yes R10.out R12.out E5.out).mono ?_
    rintro e wq ⟨rfl, hb'⟩
    replace hcall := Lib.hid (hcall.out.trans (hb'.mono hcall.out.size))
    clear hb' hHeld
    try go_wp2_with fail
    refine hK.out _ _ (SC.out _ hcall.out) (fun hHeld => ?_)
    clear hK K
    try simp only [Act.put, List.setIfInBounds_toArray, List.set_cons_zero, List.set_cons_succ]
    refine wpAnyH_take (i := 46) (oi := { dst := some 64, op := Op.pick (Operand.tmp 52) (Operand.tmp 63) (Operand.const (Value.bool false)), type := 4, pos := "law.go:126", after := #[{ on := 34, ground := Ground.data }, { on := 45, ground := Ground.data }], guard := none }) (v := ?vv30) rfl (by kernel_rfl) (by kernel_rfl) (by kernel_rfl) (fun _ _ _ h => h) (Or.inl ⟨by rfl, ?hy30⟩) hHeld ?rest30
    case hy30 => (intro wS hSw; (try dsimp only at hSw); go_simp; try with_reducible rfl)
    simp only [Act.put, List.setIfInBounds_toArray, List.set_cons_zero, List.set_cons_succ]
    refine wpAnyH_take (i := 47) (oi := { dst := some 65, op := Op.move (Operand.tmp 64), type := 4, pos := "law.go:126", after := #[{ on := 46, ground := Ground.data }, { on := 45, ground := Ground.chain }], guard := none }) (v := ?vv31) rfl (by kernel_rfl) (by kernel_rfl) (by kernel_rfl) (fun _ _ _ h => h) (Or.inl ⟨by rfl, ?hy31⟩) hHeld ?rest31
    case hy31 => (intro wS hSw; (try dsimp only at hSw); go_simp; try with_reducible rfl)
    simp only [Act.put, List.setIfInBounds_toArray, List.set_cons_zero, List.set_cons_succ]
    refine wpAnyH_take (i := 48) (oi := { dst := some 66, op := Op.load 24 (Operand.tmp 7), type := 24, pos := "law.go:126", after := #[{ on := 47, ground := Ground.guard }], guard := some (47, true) }) (v := ?vv32) rfl (by kernel_rfl) (by kernel_rfl) (by kernel_rfl) (fun _ _ _ h => h) (Or.inl ⟨by rfl, ?hy32⟩) hHeld ?rest32
    case hy32 => (intro wS hSw; (try dsimp only at hSw); go_simp; try with_reducible rfl)
    simp only [Act.put, List.setIfInBounds_toArray, List.set_cons_zero, List.set_cons_succ]
    refine wpAnyH_take (i := 49) (oi := { dst := some 67, op := Op.load 24 (Operand.tmp 8), type := 24, pos := "law.go:126", after := #[{ on := 47, ground := Ground.guard }], guard := some (47, true) }) (v := ?vv33) rfl (by kernel_rfl) (by kernel_rfl) (by kernel_rfl) (fun _ _ _ h => h) (Or.inl ⟨by rfl, ?hy33⟩) hHeld ?rest33
    case hy33 => (intro wS hSw; (try dsimp only at hSw); go_simp; try with_reducible rfl)
    simp only [Act.put, List.setIfInBounds_toArray, List.set_cons_zero, List.set_cons_succ]
    refine wpAnyH_take (i := 50) (oi := { dst := some 68, op := Op.load 24 (Operand.tmp 9), type := 24, pos := "law.go:126", after := #[{ on := 47, ground := Ground.guard }], guard := some (47, true) }) (v := ?vv34) rfl (by kernel_rfl) (by kernel_rfl) (by kernel_rfl) (fun _ _ _ h => h) (Or.inl ⟨by rfl, ?hy34⟩) hHeld ?rest34
    case hy34 => (intro wS hSw; (try dsimp only at hSw); go_simp; try with_reducible rfl)
    simp only [Act.put, List.setIfInBounds_toArray, List.set_cons_zero, List.set_cons_succ]
    refine wpAnyH_take (i := 53) (oi := { dst := some 71, op := Op.load 24 (Operand.tmp 7), type := 24, pos := "law.go:126", after := #[{ on := 47, ground := Ground.guard }], guard := some (47, true) }) (v := ?vv35) rfl (by kernel_rfl) (by kernel_rfl) (by kernel_rfl) (fun _ _ _ h => h) (Or.inl ⟨by rfl, ?hy35⟩) hHeld ?rest35
    case hy35 => (intro wS hSw; (try dsimp only at hSw); go_simp; try with_reducible rfl)
    simp only [Act.put, List.setIfInBounds_toArray, List.set_cons_zero, List.set_cons_succ]
    refine wpAnyH_take (i := 54) (oi := { dst := some 72, op := Op.load 24 (Operand.tmp 8), type := 24, pos := "law.go:126", after := #[{ on := 47, ground := Ground.guard }], guard := some (47, true) }) (v := ?vv36) rfl (by kernel_rfl) (by kernel_rfl) (by kernel_rfl) (fun _ _ _ h => h) (Or.inl ⟨by rfl, ?hy36⟩) hHeld ?rest36
    case hy36 => (intro wS hSw; (try dsimp only at hSw); go_simp; try with_reducible rfl)
    simp only [Act.put, List.setIfInBounds_toArray, List.set_cons_zero, List.set_cons_succ]
    refine wpAnyH_take (i := 56) (oi := { dst := some 74, op := Op.load 24 (Operand.tmp 9), type := 24, pos := "law.go:126", after := #[{ on := 47, ground := Ground.guard }], guard := some (47, true) }) (v := ?vv37) rfl (by kernel_rfl) (by kernel_rfl) (by kernel_rfl) (fun _ _ _ h => h) (Or.inl ⟨by rfl, ?hy37⟩) hHeld ?rest37
    case hy37 => (intro wS hSw; (try dsimp only at hSw); go_simp; try with_reducible rfl)
    simp only [Act.put, List.setIfInBounds_toArray, List.set_cons_zero, List.set_cons_succ]
    refine wpAnyH_ready (rs := [51]) (by kernel_rfl) (by simp) ?_
    refine AllReadyH.cons (o := { dst := some 69, op := Op.call { callee := Callee.value (Operand.func 16), args := #[Operand.tmp 67, Operand.tmp 68], argTypes := #[24, 24] }, type := 24, pos := "law.go:126", after := #[{ on := 49, ground := Ground.data }, { on := 50, ground := Ground.data }, { on := 47, ground := Ground.chain }, { on := 47, ground := Ground.guard }], guard := some (47, true) }) rfl (fun K hK => ?_) AllReadyH.nil
    go_simp
    with_reducible refine (Pmbc.out _ _ _ (KS.out _ hcall.out).2.1.rc (KS.out _ hcall.out).2.2.1.rc).mono ?_
    rintro e wq ⟨a13, n13, c13, rfl, ho, hb'⟩
    have R13 := Lib.hid (rc_of_owns ho (by omega))
    clear ho
    replace hcall := Lib.hid (hcall.out.trans (hb'.mono hcall.out.size))
    clear hb' hHeld
    try go_wp2_with fail
    refine hK.out _ _ (SC.out _ hcall.out) (fun hHeld => ?_)
    clear hK K
    try simp only [Act.put, List.setIfInBounds_toArray, List.set_cons_zero, List.set_cons_succ]
    refine wpAnyH_ready (rs := [52]) (by kernel_rfl) (by simp) ?_
    refine AllReadyH.cons (o := { dst := some 70, op := Op.call { callee := Callee.value (Operand.func 16), args := #[Operand.tmp 66, Operand.tmp 69], argTypes := #[24, 24] }, type := 24, pos := "law.go:126", after := #[{ on := 48, ground := Ground.data }, { on := 51, ground := Ground.data }, { on := 51, ground := Ground.chain }, { on := 47, ground := Ground.guard }], guard := some (47, true) }) rfl (fun K hK => ?_) AllReadyH.nil
    go_simp
    with_reducible refine (Pml.out _ _ _ (KS.out _ hcall.out).1.rc R13.out).mono ?_
    rintro e wq ⟨a14, n14, c14, rfl, ho, hb'⟩
    have R14 := Lib.hid (rc_of_owns ho (by omega))
    clear ho
    replace hcall := Lib.hid (hcall.out.trans (hb'.mono hcall.out.size))
    clear hb' hHeld
    try go_wp2_with fail
    refine hK.out _ _ (SC.out _ hcall.out) (fun hHeld => ?_)
    clear hK K
    try simp only [Act.put, List.setIfInBounds_toArray, List.set_cons_zero, List.set_cons_succ]
    refine wpAnyH_ready (rs := [55]) (by kernel_rfl) (by simp) ?_
    refine AllReadyH.cons (o := { dst := some 73, op := Op.call { callee := Callee.value (Operand.func 16), args := #[Operand.tmp 71, Operand.tmp 72], argTypes := #[24, 24] }, type := 24, pos := "law.go:126", after := #[{ on := 53, ground := Ground.data }, { on := 54, ground := Ground.data }, { on := 52, ground := Ground.chain }, { on := 47, ground := Ground.guard }], guard := some (47, true) }) rfl (fun K hK => ?_) AllReadyH.nil
    go_simp
    with_reducible refine (Pmab.out _ _ _ (KS.out _ hcall.out).1.rc (KS.out _ hcall.out).2.1.rc).mono ?_
    rintro e wq ⟨a15, n15, c15, rfl, ho, hb'⟩
    have R15 := Lib.hid (rc_of_owns ho (by omega))
    clear ho
    replace R14 := Lib.hid ((R14.out.below hb').mono hb'.size)
    replace hcall := Lib.hid (hcall.out.trans (hb'.mono hcall.out.size))
    clear hb' hHeld
    try go_wp2_with fail
    refine hK.out _ _ (SC.out _ hcall.out) (fun hHeld => ?_)
    clear hK K
    try simp only [Act.put, List.setIfInBounds_toArray, List.set_cons_zero, List.set_cons_succ]
    refine wpAnyH_ready (rs := [57]) (by kernel_rfl) (by simp) ?_
    refine AllReadyH.cons (o := { dst := some 75, op := Op.call { callee := Callee.value (Operand.func 16), args := #[Operand.tmp 73, Operand.tmp 74], argTypes := #[24, 24] }, type := 24, pos := "law.go:126", after := #[{ on := 55, ground := Ground.data }, { on := 56, ground := Ground.data }, { on := 55, ground := Ground.chain }, { on := 47, ground := Ground.guard }], guard := some (47, true) }) rfl (fun K hK => ?_) AllReadyH.nil
    go_simp
    with_reducible refine (Pmr.out _ _ _ R15.out (KS.out _ hcall.out).2.2.1.rc).mono ?_
    rintro e wq ⟨a16, n16, c16, rfl, ho, hb'⟩
    have R16 := Lib.hid (rc_of_owns ho (by omega))
    clear ho
    replace R14 := Lib.hid ((R14.out.below hb').mono hb'.size)
    replace hcall := Lib.hid (hcall.out.trans (hb'.mono hcall.out.size))
    clear hb' hHeld
    try go_wp2_with fail
    refine hK.out _ _ (SC.out _ hcall.out) (fun hHeld => ?_)
    clear hK K
    try simp only [Act.put, List.setIfInBounds_toArray, List.set_cons_zero, List.set_cons_succ]
    refine wpAnyH_ready (rs := [58]) (by kernel_rfl) (by simp) ?_
    refine AllReadyH.cons (o := { dst := some 76, op := Op.call { callee := Callee.value (Operand.func 18), args := #[Operand.tmp 70, Operand.tmp 75], argTypes := #[24, 24] }, type := 4, pos := "law.go:126", after := #[{ on := 52, ground := Ground.data }, { on := 57, ground := Ground.data }, { on := 57, ground := Ground.chain }, { on := 47, ground := Ground.guard }], guard := some (47, true) }) rfl (fun K hK => ?_) AllReadyH.nil
    go_simp
    with_reducible refine (same_yes R14.out R16.out E6.out).mono ?_
    rintro e wq ⟨rfl, hb'⟩
    replace hcall := Lib.hid (hcall.out.trans (hb'.mono hcall.out.size))
    clear hb' hHeld
    try go_wp2_with fail
    refine hK.out _ _ (SC.out _ hcall.out) (fun hHeld => ?_)
    clear hK K
    try simp only [Act.put, List.setIfInBounds_toArray, List.set_cons_zero, List.set_cons_succ]
    refine wpAnyH_take (i := 59) (oi := { dst := some 77, op := Op.pick (Operand.tmp 65) (Operand.tmp 76) (Operand.const (Value.bool false)), type := 4, pos := "law.go:126", after := #[{ on := 47, ground := Ground.data }, { on := 58, ground := Ground.data }], guard := none }) (v := ?vv38) rfl (by kernel_rfl) (by kernel_rfl) (by kernel_rfl) (fun _ _ _ h => h) (Or.inl ⟨by rfl, ?hy38⟩) hHeld ?rest38
    case hy38 => (intro wS hSw; (try dsimp only at hSw); go_simp; try with_reducible rfl)
    simp only [Act.put, List.setIfInBounds_toArray, List.set_cons_zero, List.set_cons_succ]
    refine wpAnyH_take (i := 60) (oi := { dst := some 6, op := Op.assign (Operand.tmp 77), type := 4, pos := "law.go:126", after := #[{ on := 59, ground := Ground.data }, { on := 58, ground := Ground.chain }, { on := 0, ground := Ground.phase }, { on := 1, ground := Ground.phase }, { on := 2, ground := Ground.phase }, { on := 3, ground := Ground.phase }, { on := 4, ground := Ground.phase }, { on := 5, ground := Ground.phase }, { on := 6, ground := Ground.phase }, { on := 7, ground := Ground.phase }, { on := 8, ground := Ground.phase }, { on := 9, ground := Ground.phase }, { on := 10, ground := Ground.phase }, { on := 11, ground := Ground.phase }, { on := 12, ground := Ground.phase }, { on := 13, ground := Ground.phase }, { on := 14, ground := Ground.phase }, { on := 15, ground := Ground.phase }, { on := 16, ground := Ground.phase }, { on := 17, ground := Ground.phase }, { on := 18, ground := Ground.phase }, { on := 19, ground := Ground.phase }, { on := 20, ground := Ground.phase }, { on := 21, ground := Ground.phase }, { on := 22, ground := Ground.phase }, { on := 23, ground := Ground.phase }, { on := 24, ground := Ground.phase }, { on := 25, ground := Ground.phase }, { on := 26, ground := Ground.phase }, { on := 27, ground := Ground.phase }, { on := 28, ground := Ground.phase }, { on := 29, ground := Ground.phase }, { on := 30, ground := Ground.phase }, { on := 31, ground := Ground.phase }, { on := 32, ground := Ground.phase }, { on := 33, ground := Ground.phase }, { on := 34, ground := Ground.phase }, { on := 35, ground := Ground.phase }, { on := 36, ground := Ground.phase }, { on := 37, ground := Ground.phase }, { on := 38, ground := Ground.phase }, { on := 39, ground := Ground.phase }, { on := 40, ground := Ground.phase }, { on := 41, ground := Ground.phase }, { on := 42, ground := Ground.phase }, { on := 43, ground := Ground.phase }, { on := 44, ground := Ground.phase }, { on := 45, ground := Ground.phase }, { on := 46, ground := Ground.phase }, { on := 47, ground := Ground.phase }, { on := 48, ground := Ground.phase }, { on := 49, ground := Ground.phase }, { on := 50, ground := Ground.phase }, { on := 51, ground := Ground.phase }, { on := 52, ground := Ground.phase }, { on := 53, ground := Ground.phase }, { on := 54, ground := Ground.phase }, { on := 55, ground := Ground.phase }, { on := 56, ground := Ground.phase }, { on := 57, ground := Ground.phase }, { on := 58, ground := Ground.phase }, { on := 59, ground := Ground.phase }], guard := none }) (v := ?vv39) rfl (by kernel_rfl) (by kernel_rfl) (by kernel_rfl) (fun _ _ _ h => h) (Or.inl ⟨by rfl, ?hy39⟩) hHeld ?rest39
    case hy39 => (intro wS hSw; (try dsimp only at hSw); go_simp; try with_reducible rfl)
    simp only [Act.put, List.setIfInBounds_toArray, List.set_cons_zero, List.set_cons_succ]
    refine wpAnyH_done (by kernel_rfl) ?_ _
    all_goals
      go_wp2_with fail
      go_ret
      exact ⟨by first | rfl | simp, (KS.out _ hcall.out).2.2.2⟩
end Go.Proofs.Ytlkhbbdigljpjaa
