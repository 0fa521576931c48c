import Derived.Test.YtlkhbbdigljpjaaUe
namespace Go.Proofs.Ytlkhbbdigljpjaa
open Go.RowKit
set_option linter.unusedVariables false
set_option linter.unusedSimpArgs false

set_option maxRecDepth 100000 in
set_option maxHeartbeats 4000000 in
theorem dual_law (S0 S1 S2 : Int) (v0 v1 v2 : Value) (w : World) (h0 : Ints w v0) (h1 : Ints w v1) (h2 : Ints w v2) :
    Calls Try.prog 9 #[.agg #[.int .i64 S0, v0], .agg #[.int .i64 S1, v1], .agg #[.int .i64 S2, v2]] w fun e w' => e = .returned (.bool true) ∧ Below w.heap.size w w' := by
  obtain ⟨va0, vn0, vc0, rfl⟩ : ∃ a n c, v0 = .slice a n c := by rcases h0 with ⟨a, c, rfl⟩ | ⟨b, off, cap, n, ls, rfl, _⟩ <;> exact ⟨_, _, _, rfl⟩
  obtain ⟨va1, vn1, vc1, rfl⟩ : ∃ a n c, v1 = .slice a n c := by rcases h1 with ⟨a, c, rfl⟩ | ⟨b, off, cap, n, ls, rfl, _⟩ <;> exact ⟨_, _, _, rfl⟩
  obtain ⟨va2, vn2, vc2, rfl⟩ : ∃ a n c, v2 = .slice a n c := by rcases h2 with ⟨a, c, rfl⟩ | ⟨b, off, cap, n, ls, rfl, _⟩ <;> exact ⟨_, _, _, rfl⟩
  have HI0 := Lib.hid h0
  have HI1 := Lib.hid h1
  have HI2 := Lib.hid h2
  have HFit := Lib.hid (fun (W : World) => fit_any W)
  obtain ⟨W0, e0⟩ : ∃ W0, W0 = (((w.alloc (Obj.cells #[.int .i64 S0, .slice va0 vn0 vc0] 29)).alloc (Obj.cells #[.int .i64 S1, .slice va1 vn1 vc1] 29)).alloc (Obj.cells #[.int .i64 S2, .slice va2 vn2 vc2] 29)) := ⟨_, rfl⟩
  have hB : Below w.heap.size w W0 := by rw [e0]; exact (((Below.refl _ _).alloc (Nat.le_refl _) _).alloc (by simp <;> omega) _).alloc (by simp <;> omega) _
  have hk0 : W0.heap[w.heap.size]? = some (Obj.cells #[.int .i64 S0, .slice va0 vn0 vc0] 29) := by
    rw [e0]
    rw [Below.heap_alloc _ _ _ (by simp <;> omega)]
    rw [Below.heap_alloc _ _ _ (by simp <;> omega)]
    have := heap_alloc_new w (Obj.cells #[.int .i64 S0, .slice va0 vn0 vc0] 29); simpa using this
  have hk1 : W0.heap[w.heap.size + 1]? = some (Obj.cells #[.int .i64 S1, .slice va1 vn1 vc1] 29) := by
    rw [e0]
    rw [Below.heap_alloc _ _ _ (by simp <;> omega)]
    have := heap_alloc_new (w.alloc (Obj.cells #[.int .i64 S0, .slice va0 vn0 vc0] 29)) (Obj.cells #[.int .i64 S1, .slice va1 vn1 vc1] 29); simpa using this
  have hk2 : W0.heap[w.heap.size + 2]? = some (Obj.cells #[.int .i64 S2, .slice va2 vn2 vc2] 29) := by
    rw [e0]
    have := heap_alloc_new ((w.alloc (Obj.cells #[.int .i64 S0, .slice va0 vn0 vc0] 29)).alloc (Obj.cells #[.int .i64 S1, .slice va1 vn1 vc1] 29)) (Obj.cells #[.int .i64 S2, .slice va2 vn2 vc2] 29); simpa using this
  have HB := Lib.hid hB
  have HK := Lib.hid (show W0.heap[w.heap.size]? = some (Obj.cells #[.int .i64 S0, .slice va0 vn0 vc0] 29) ∧ W0.heap[w.heap.size + 1]? = some (Obj.cells #[.int .i64 S1, .slice va1 vn1 vc1] 29) ∧ W0.heap[w.heap.size + 2]? = some (Obj.cells #[.int .i64 S2, .slice va2 vn2 vc2] 29) from ⟨hk0, hk1, hk2⟩)
  clear h0 h1 h2 hB hk0 hk1 hk2
  go_enter Try.func9, Try.ntmps9
  go_wp2_with fail
  rw [← e0]
  clear e0
  refine (HFit.out _).mono ?_
  rintro e w1 ⟨rfl, hb1⟩
  have hS : ∀ wx, Below w1.heap.size w1 wx → Below w.heap.size w wx ∧ wx.cell? ⟨w.heap.size, 0, none⟩ = some (.int .i64 S0) ∧ wx.cell? ⟨w.heap.size, 1, none⟩ = some (.slice va0 vn0 vc0) ∧ wx.cell? ⟨w.heap.size + 1, 0, none⟩ = some (.int .i64 S1) ∧ wx.cell? ⟨w.heap.size + 1, 1, none⟩ = some (.slice va1 vn1 vc1) ∧ wx.cell? ⟨w.heap.size + 2, 0, none⟩ = some (.int .i64 S2) ∧ wx.cell? ⟨w.heap.size + 2, 1, none⟩ = some (.slice va2 vn2 vc2) := fun wx hx => by
    have h0 := hb1.trans (hx.mono hb1.size)
    have r0 : wx.heap[w.heap.size]? = some (Obj.cells #[.int .i64 S0, .slice va0 vn0 vc0] 29) := by rw [h0.block _ (Array.getElem?_eq_some_iff.1 HK.out.1).1]; exact HK.out.1
    have r1 : wx.heap[w.heap.size + 1]? = some (Obj.cells #[.int .i64 S1, .slice va1 vn1 vc1] 29) := by rw [h0.block _ (Array.getElem?_eq_some_iff.1 HK.out.2.1).1]; exact HK.out.2.1
    have r2 : wx.heap[w.heap.size + 2]? = some (Obj.cells #[.int .i64 S2, .slice va2 vn2 vc2] 29) := by rw [h0.block _ (Array.getElem?_eq_some_iff.1 HK.out.2.2).1]; exact HK.out.2.2
    exact ⟨HB.out.trans (h0.mono HB.out.size), by rw [cell_of_row _ _ 0 _ 29 (0, 0) r0]; rfl, by rw [cell_of_row _ _ 1 _ 29 (0, 0) r0]; rfl, by rw [cell_of_row _ _ 0 _ 29 (0, 0) r1]; rfl, by rw [cell_of_row _ _ 1 _ 29 (0, 0) r1]; rfl, by rw [cell_of_row _ _ 0 _ 29 (0, 0) r2]; rfl, by rw [cell_of_row _ _ 1 _ 29 (0, 0) r2]; rfl⟩
  have HS := Lib.hid hS
  clear hS hb1
  go_upto_region 3 with fail
  have hcall := Lib.hid ((Below.refl w1.heap.size w1).drew)
  have C0 := Lib.hid (fun (W : World) (h : Below w1.heap.size w1 W) => seed_form S0 (.slice va0 vn0 vc0) W (HI0.out.below (HS.out W h).1))
  have C1 := Lib.hid (fun (W : World) (h : Below w1.heap.size w1 W) => seed_form S1 (.slice va1 vn1 vc1) W (HI1.out.below (HS.out W h).1))
  have C2 := Lib.hid (fun (W : World) (h : Below w1.heap.size w1 W) => seed_form S2 (.slice va2 vn2 vc2) W (HI2.out.below (HS.out W h).1))
  have SS := Lib.hid (fun (wx : World) (h : Below w1.heap.size w1 wx) => ((HS.out wx h).2 : wx.cell? ⟨w.heap.size, 0, none⟩ = some (.int .i64 S0) ∧ wx.cell? ⟨w.heap.size, 1, none⟩ = some (.slice va0 vn0 vc0) ∧ wx.cell? ⟨w.heap.size + 1, 0, none⟩ = some (.int .i64 S1) ∧ wx.cell? ⟨w.heap.size + 1, 1, none⟩ = some (.slice va1 vn1 vc1) ∧ wx.cell? ⟨w.heap.size + 2, 0, none⟩ = some (.int .i64 S2) ∧ wx.cell? ⟨w.heap.size + 2, 1, none⟩ = some (.slice va2 vn2 vc2)))
  go_cut [7, 8, 9, 12, 13, 14, 15, 16, 17] (fun s7 s8 s9 s12 s13 s14 s15 s16 s17 wx => ∃ A0 D0 ps0 a0 n0 c0 A1 D1 ps1 a1 n1 c1 A2 D2 ps2 a2 n2 c2, s7 = .pointer (some ⟨A0, 0, none⟩) ∧ s8 = .pointer (some ⟨A1, 0, none⟩) ∧ s9 = .pointer (some ⟨A2, 0, none⟩) ∧ Hid (Lbl wx A0 D0 (.slice a0 n0 c0) ps0 ∧ Lbl wx A1 D1 (.slice a1 n1 c1) ps1 ∧ Lbl wx A2 D2 (.slice a2 n2 c2) ps2 ∧ Lab.Fine D0 ps0 ∧ Lab.Fine D1 ps1 ∧ Lab.Fine D2 ps2 ∧ Below w1.heap.size w1 wx))
  case first =>
    refine wp_region_any (by kernel_rfl) ?_
    refine wpAny_inv (I := fun L a wz => ∃ y7 y8 y9 y12 y13 y14 y15 y16 y17 : Value, a = { tmps := #[.agg #[.int .i64 S0, .slice va0 vn0 vc0], .agg #[.int .i64 S1, .slice va1 vn1 vc1], .agg #[.int .i64 S2, .slice va2 vn2 vc2], .pointer (some ⟨w.heap.size, 0, none⟩), .pointer (some ⟨w.heap.size + 1, 0, none⟩), .pointer (some ⟨w.heap.size + 2, 0, none⟩), .bool false, y7, y8, y9, .bool true, .bool false, y12, y13, y14, y15, y16, y17, undef, undef, undef, undef, undef, undef, undef, undef, undef, undef, undef, undef, undef, undef, undef, undef, undef, undef, undef, undef, undef, undef, undef, undef, undef, undef, undef, undef, undef, undef, undef, undef, undef, undef, undef, undef, undef, undef, undef, undef, undef, undef, undef, undef, undef, undef, undef, undef, undef, undef, undef, undef, undef, undef, undef, undef, undef, undef, undef, undef], defers := [] } ∧ Hid (L.size = 12 ∧ Below w1.heap.size w1 wz ∧ (L[0]? = some true → y12 = .agg #[.int .i64 S0, .slice va0 vn0 vc0]) ∧ (L[1]? = some true → LV w1 wz Lab.Fine y13) ∧ (L[2]? = some true → y14 = .agg #[.int .i64 S1, .slice va1 vn1 vc1]) ∧ (L[3]? = some true → LV w1 wz Lab.Fine y15) ∧ (L[4]? = some true → y16 = .agg #[.int .i64 S2, .slice va2 vn2 vc2]) ∧ (L[5]? = some true → LV w1 wz Lab.Fine y17) ∧ (L[6]? = some true → AV w1 wz y7) ∧ (L[7]? = some true → AV w1 wz y8) ∧ (L[8]? = some true → AV w1 wz y9) ∧ (L[6]? = some true → L[7]? = some true → y7 ≠ y8) ∧ (L[6]? = some true → L[8]? = some true → y7 ≠ y9) ∧ (L[7]? = some true → L[8]? = some true → y8 ≠ y9) ∧ (L[9]? = some true → SV wz y7 y13) ∧ (L[10]? = some true → SV wz y8 y15) ∧ (L[11]? = some true → SV wz y9 y17) ∧ (L[9]? = some true → (L[6]? = some true ∧ L[1]? = some true)) ∧ (L[10]? = some true → (L[7]? = some true ∧ L[3]? = some true)) ∧ (L[11]? = some true → (L[8]? = some true ∧ L[5]? = some true)))) ?step ?fin _ _ _ _ ⟨_, _, _, _, _, _, _, _, _, rfl, Lib.hid ⟨by rfl, Below.drew (Below.refl _ _), gone (by rfl), gone (by rfl), gone (by rfl), gone (by rfl), gone (by rfl), gone (by rfl), gone (by rfl), gone (by rfl), gone (by rfl), gone (by rfl), gone (by rfl), gone (by rfl), gone (by rfl), gone (by rfl), gone (by rfl), gone (by rfl), gone (by rfl), gone (by rfl)⟩⟩ (by decide)
    case step =>
      intro L a wz i o hI ho hL hdeps K hK
      obtain ⟨y7, y8, y9, y12, y13, y14, y15, y16, y17, rfl, hinv⟩ := hI
      have hi : i < 12 := by have := (Array.getElem?_eq_some_iff.1 ho).1; exact this
      obtain ⟨hN, hbel, z0, z1, z2, z3, z4, z5, z6, z7, z8, z9, z10, z11, z12, z13, z14, z15, z16, z17⟩ := hinv.out
      obtain rfl | rfl | rfl | rfl | rfl | rfl | rfl | rfl | rfl | rfl | rfl | rfl : i = 0 ∨ i = 1 ∨ i = 2 ∨ i = 3 ∨ i = 4 ∨ i = 5 ∨ i = 6 ∨ i = 7 ∨ i = 8 ∨ i = 9 ∨ i = 10 ∨ i = 11 := by omega
      · obtain rfl := Option.some.inj ho
        obtain ⟨b0, b1, _⟩ := SS.out wz hbel
        clear ho
        have Z := hinv
        clear hinv hbel hN hdeps z0 z1 z2 z3 z4 z5 z6 z7 z8 z9 z10 z11 z12 z13 z14 z15 z16 z17
        go_simp
        obtain ⟨hN, hbel, z0, z1, z2, z3, z4, z5, z6, z7, z8, z9, z10, z11, z12, z13, z14, z15, z16, z17⟩ := Z.out
        exact hK _ _ ⟨_, _, _, _, _, _, _, _, _, rfl, Lib.hid ⟨by simpa using hN, hbel, fun _ => rfl, fun g0 => (z1 ((set_other (by decide)).symm.trans g0)), fun g0 => (z2 ((set_other (by decide)).symm.trans g0)), fun g0 => (z3 ((set_other (by decide)).symm.trans g0)), fun g0 => (z4 ((set_other (by decide)).symm.trans g0)), fun g0 => (z5 ((set_other (by decide)).symm.trans g0)), fun g0 => (z6 ((set_other (by decide)).symm.trans g0)), fun g0 => (z7 ((set_other (by decide)).symm.trans g0)), fun g0 => (z8 ((set_other (by decide)).symm.trans g0)), fun g0 g1 => (z9 ((set_other (by decide)).symm.trans g0) ((set_other (by decide)).symm.trans g1)), fun g0 g1 => (z10 ((set_other (by decide)).symm.trans g0) ((set_other (by decide)).symm.trans g1)), fun g0 g1 => (z11 ((set_other (by decide)).symm.trans g0) ((set_other (by decide)).symm.trans g1)), fun g0 => (z12 ((set_other (by decide)).symm.trans g0)), fun g0 => (z13 ((set_other (by decide)).symm.trans g0)), fun g0 => (z14 ((set_other (by decide)).symm.trans g0)), fun g0 => ⟨set_keep (z15 ((set_other (by decide)).symm.trans g0)).1, set_keep (z15 ((set_other (by decide)).symm.trans g0)).2⟩, fun g0 => ⟨set_keep (z16 ((set_other (by decide)).symm.trans g0)).1, set_keep (z16 ((set_other (by decide)).symm.trans g0)).2⟩, fun g0 => ⟨set_keep (z17 ((set_other (by decide)).symm.trans g0)).1, set_keep (z17 ((set_other (by decide)).symm.trans g0)).2⟩⟩⟩
      · obtain rfl := Option.some.inj ho
        have e0 := z0 (dep (by simp [Region.binds] at hdeps ⊢; simp [hdeps]))
        subst e0
        have CC := Lib.hid (C0.out wz hbel)
        have Z := hinv
        clear hinv ho hbel hN hdeps z0 z1 z2 z3 z4 z5 z6 z7 z8 z9 z10 z11 z12 z13 z14 z15 z16 z17
        go_simp
        refine CC.out.mono ?_
        rintro e wq ⟨D, a, n, c, ps, rfl, hg, how, hb'⟩
        obtain ⟨hN, hbel, z0, z1, z2, z3, z4, z5, z6, z7, z8, z9, z10, z11, z12, z13, z14, z15, z16, z17⟩ := Z.out
        exact hK _ _ ⟨_, _, _, _, _, _, _, _, _, rfl, Lib.hid ⟨by simpa using hN, hbel.trans (hb'.mono hbel.size), fun g0 => (z0 ((set_other (by decide)).symm.trans g0)), fun _ => ⟨D, a, n, c, ps, rfl, hg, owns_mono how hbel.size⟩, fun g0 => (z2 ((set_other (by decide)).symm.trans g0)), fun g0 => (z3 ((set_other (by decide)).symm.trans g0)).below hb', fun g0 => (z4 ((set_other (by decide)).symm.trans g0)), fun g0 => (z5 ((set_other (by decide)).symm.trans g0)).below hb', fun g0 => (z6 ((set_other (by decide)).symm.trans g0)).below hb', fun g0 => (z7 ((set_other (by decide)).symm.trans g0)).below hb', fun g0 => (z8 ((set_other (by decide)).symm.trans g0)).below hb', fun g0 g1 => (z9 ((set_other (by decide)).symm.trans g0) ((set_other (by decide)).symm.trans g1)), fun g0 g1 => (z10 ((set_other (by decide)).symm.trans g0) ((set_other (by decide)).symm.trans g1)), fun g0 g1 => (z11 ((set_other (by decide)).symm.trans g0) ((set_other (by decide)).symm.trans g1)), fun g0 => not_done hL (z15 ((set_other (by decide)).symm.trans g0)).2, fun g0 => (z13 ((set_other (by decide)).symm.trans g0)).below hb', fun g0 => (z14 ((set_other (by decide)).symm.trans g0)).below hb', fun g0 => ⟨set_keep (z15 ((set_other (by decide)).symm.trans g0)).1, set_keep (z15 ((set_other (by decide)).symm.trans g0)).2⟩, fun g0 => ⟨set_keep (z16 ((set_other (by decide)).symm.trans g0)).1, set_keep (z16 ((set_other (by decide)).symm.trans g0)).2⟩, fun g0 => ⟨set_keep (z17 ((set_other (by decide)).symm.trans g0)).1, set_keep (z17 ((set_other (by decide)).symm.trans g0)).2⟩⟩⟩
      · obtain rfl := Option.some.inj ho
        obtain ⟨_, _, b0, b1, _⟩ := SS.out wz hbel
        clear ho
        have Z := hinv
        clear hinv hbel hN hdeps z0 z1 z2 z3 z4 z5 z6 z7 z8 z9 z10 z11 z12 z13 z14 z15 z16 z17
        go_simp
        obtain ⟨hN, hbel, z0, z1, z2, z3, z4, z5, z6, z7, z8, z9, z10, z11, z12, z13, z14, z15, z16, z17⟩ := Z.out
        exact hK _ _ ⟨_, _, _, _, _, _, _, _, _, rfl, Lib.hid ⟨by simpa using hN, hbel, fun g0 => (z0 ((set_other (by decide)).symm.trans g0)), fun g0 => (z1 ((set_other (by decide)).symm.trans g0)), fun _ => rfl, fun g0 => (z3 ((set_other (by decide)).symm.trans g0)), fun g0 => (z4 ((set_other (by decide)).symm.trans g0)), fun g0 => (z5 ((set_other (by decide)).symm.trans g0)), fun g0 => (z6 ((set_other (by decide)).symm.trans g0)), fun g0 => (z7 ((set_other (by decide)).symm.trans g0)), fun g0 => (z8 ((set_other (by decide)).symm.trans g0)), fun g0 g1 => (z9 ((set_other (by decide)).symm.trans g0) ((set_other (by decide)).symm.trans g1)), fun g0 g1 => (z10 ((set_other (by decide)).symm.trans g0) ((set_other (by decide)).symm.trans g1)), fun g0 g1 => (z11 ((set_other (by decide)).symm.trans g0) ((set_other (by decide)).symm.trans g1)), fun g0 => (z12 ((set_other (by decide)).symm.trans g0)), fun g0 => (z13 ((set_other (by decide)).symm.trans g0)), fun g0 => (z14 ((set_other (by decide)).symm.trans g0)), fun g0 => ⟨set_keep (z15 ((set_other (by decide)).symm.trans g0)).1, set_keep (z15 ((set_other (by decide)).symm.trans g0)).2⟩, fun g0 => ⟨set_keep (z16 ((set_other (by decide)).symm.trans g0)).1, set_keep (z16 ((set_other (by decide)).symm.trans g0)).2⟩, fun g0 => ⟨set_keep (z17 ((set_other (by decide)).symm.trans g0)).1, set_keep (z17 ((set_other (by decide)).symm.trans g0)).2⟩⟩⟩
      · obtain rfl := Option.some.inj ho
        have e2 := z2 (dep (by simp [Region.binds] at hdeps ⊢; simp [hdeps]))
        subst e2
        have CC := Lib.hid (C1.out wz hbel)
        have Z := hinv
        clear hinv ho hbel hN hdeps z0 z1 z2 z3 z4 z5 z6 z7 z8 z9 z10 z11 z12 z13 z14 z15 z16 z17
        go_simp
        refine CC.out.mono ?_
        rintro e wq ⟨D, a, n, c, ps, rfl, hg, how, hb'⟩
        obtain ⟨hN, hbel, z0, z1, z2, z3, z4, z5, z6, z7, z8, z9, z10, z11, z12, z13, z14, z15, z16, z17⟩ := Z.out
        exact hK _ _ ⟨_, _, _, _, _, _, _, _, _, rfl, Lib.hid ⟨by simpa using hN, hbel.trans (hb'.mono hbel.size), fun g0 => (z0 ((set_other (by decide)).symm.trans g0)), fun g0 => (z1 ((set_other (by decide)).symm.trans g0)).below hb', fun g0 => (z2 ((set_other (by decide)).symm.trans g0)), fun _ => ⟨D, a, n, c, ps, rfl, hg, owns_mono how hbel.size⟩, fun g0 => (z4 ((set_other (by decide)).symm.trans g0)), fun g0 => (z5 ((set_other (by decide)).symm.trans g0)).below hb', fun g0 => (z6 ((set_other (by decide)).symm.trans g0)).below hb', fun g0 => (z7 ((set_other (by decide)).symm.trans g0)).below hb', fun g0 => (z8 ((set_other (by decide)).symm.trans g0)).below hb', fun g0 g1 => (z9 ((set_other (by decide)).symm.trans g0) ((set_other (by decide)).symm.trans g1)), fun g0 g1 => (z10 ((set_other (by decide)).symm.trans g0) ((set_other (by decide)).symm.trans g1)), fun g0 g1 => (z11 ((set_other (by decide)).symm.trans g0) ((set_other (by decide)).symm.trans g1)), fun g0 => (z12 ((set_other (by decide)).symm.trans g0)).below hb', fun g0 => not_done hL (z16 ((set_other (by decide)).symm.trans g0)).2, fun g0 => (z14 ((set_other (by decide)).symm.trans g0)).below hb', fun g0 => ⟨set_keep (z15 ((set_other (by decide)).symm.trans g0)).1, set_keep (z15 ((set_other (by decide)).symm.trans g0)).2⟩, fun g0 => ⟨set_keep (z16 ((set_other (by decide)).symm.trans g0)).1, set_keep (z16 ((set_other (by decide)).symm.trans g0)).2⟩, fun g0 => ⟨set_keep (z17 ((set_other (by decide)).symm.trans g0)).1, set_keep (z17 ((set_other (by decide)).symm.trans g0)).2⟩⟩⟩
      · obtain rfl := Option.some.inj ho
        obtain ⟨_, _, _, _, b0, b1⟩ := SS.out wz hbel
        clear ho
        have Z := hinv
        clear hinv hbel hN hdeps z0 z1 z2 z3 z4 z5 z6 z7 z8 z9 z10 z11 z12 z13 z14 z15 z16 z17
        go_simp
        obtain ⟨hN, hbel, z0, z1, z2, z3, z4, z5, z6, z7, z8, z9, z10, z11, z12, z13, z14, z15, z16, z17⟩ := Z.out
        exact hK _ _ ⟨_, _, _, _, _, _, _, _, _, rfl, Lib.hid ⟨by simpa using hN, hbel, fun g0 => (z0 ((set_other (by decide)).symm.trans g0)), fun g0 => (z1 ((set_other (by decide)).symm.trans g0)), fun g0 => (z2 ((set_other (by decide)).symm.trans g0)), fun g0 => (z3 ((set_other (by decide)).symm.trans g0)), fun _ => rfl, fun g0 => (z5 ((set_other (by decide)).symm.trans g0)), fun g0 => (z6 ((set_other (by decide)).symm.trans g0)), fun g0 => (z7 ((set_other (by decide)).symm.trans g0)), fun g0 => (z8 ((set_other (by decide)).symm.trans g0)), fun g0 g1 => (z9 ((set_other (by decide)).symm.trans g0) ((set_other (by decide)).symm.trans g1)), fun g0 g1 => (z10 ((set_other (by decide)).symm.trans g0) ((set_other (by decide)).symm.trans g1)), fun g0 g1 => (z11 ((set_other (by decide)).symm.trans g0) ((set_other (by decide)).symm.trans g1)), fun g0 => (z12 ((set_other (by decide)).symm.trans g0)), fun g0 => (z13 ((set_other (by decide)).symm.trans g0)), fun g0 => (z14 ((set_other (by decide)).symm.trans g0)), fun g0 => ⟨set_keep (z15 ((set_other (by decide)).symm.trans g0)).1, set_keep (z15 ((set_other (by decide)).symm.trans g0)).2⟩, fun g0 => ⟨set_keep (z16 ((set_other (by decide)).symm.trans g0)).1, set_keep (z16 ((set_other (by decide)).symm.trans g0)).2⟩, fun g0 => ⟨set_keep (z17 ((set_other (by decide)).symm.trans g0)).1, set_keep (z17 ((set_other (by decide)).symm.trans g0)).2⟩⟩⟩
      · obtain rfl := Option.some.inj ho
        have e4 := z4 (dep (by simp [Region.binds] at hdeps ⊢; simp [hdeps]))
        subst e4
        have CC := Lib.hid (C2.out wz hbel)
        have Z := hinv
        clear hinv ho hbel hN hdeps z0 z1 z2 z3 z4 z5 z6 z7 z8 z9 z10 z11 z12 z13 z14 z15 z16 z17
        go_simp
        refine CC.out.mono ?_
        rintro e wq ⟨D, a, n, c, ps, rfl, hg, how, hb'⟩
        obtain ⟨hN, hbel, z0, z1, z2, z3, z4, z5, z6, z7, z8, z9, z10, z11, z12, z13, z14, z15, z16, z17⟩ := Z.out
        exact hK _ _ ⟨_, _, _, _, _, _, _, _, _, rfl, Lib.hid ⟨by simpa using hN, hbel.trans (hb'.mono hbel.size), fun g0 => (z0 ((set_other (by decide)).symm.trans g0)), fun g0 => (z1 ((set_other (by decide)).symm.trans g0)).below hb', fun g0 => (z2 ((set_other (by decide)).symm.trans g0)), fun g0 => (z3 ((set_other (by decide)).symm.trans g0)).below hb', fun g0 => (z4 ((set_other (by decide)).symm.trans g0)), fun _ => ⟨D, a, n, c, ps, rfl, hg, owns_mono how hbel.size⟩, fun g0 => (z6 ((set_other (by decide)).symm.trans g0)).below hb', fun g0 => (z7 ((set_other (by decide)).symm.trans g0)).below hb', fun g0 => (z8 ((set_other (by decide)).symm.trans g0)).below hb', fun g0 g1 => (z9 ((set_other (by decide)).symm.trans g0) ((set_other (by decide)).symm.trans g1)), fun g0 g1 => (z10 ((set_other (by decide)).symm.trans g0) ((set_other (by decide)).symm.trans g1)), fun g0 g1 => (z11 ((set_other (by decide)).symm.trans g0) ((set_other (by decide)).symm.trans g1)), fun g0 => (z12 ((set_other (by decide)).symm.trans g0)).below hb', fun g0 => (z13 ((set_other (by decide)).symm.trans g0)).below hb', fun g0 => not_done hL (z17 ((set_other (by decide)).symm.trans g0)).2, fun g0 => ⟨set_keep (z15 ((set_other (by decide)).symm.trans g0)).1, set_keep (z15 ((set_other (by decide)).symm.trans g0)).2⟩, fun g0 => ⟨set_keep (z16 ((set_other (by decide)).symm.trans g0)).1, set_keep (z16 ((set_other (by decide)).symm.trans g0)).2⟩, fun g0 => ⟨set_keep (z17 ((set_other (by decide)).symm.trans g0)).1, set_keep (z17 ((set_other (by decide)).symm.trans g0)).2⟩⟩⟩
      · obtain rfl := Option.some.inj ho
        have Z := hinv
        clear hinv ho hbel hN hdeps z0 z1 z2 z3 z4 z5 z6 z7 z8 z9 z10 z11 z12 z13 z14 z15 z16 z17
        go_simp
        obtain ⟨hN, hbel, z0, z1, z2, z3, z4, z5, z6, z7, z8, z9, z10, z11, z12, z13, z14, z15, z16, z17⟩ := Z.out
        have hb' := below_alloc1 wz (Obj.cells #[.int .i64 0, .slice none 0 0] 24)
        exact hK _ _ ⟨_, _, _, _, _, _, _, _, _, rfl, Lib.hid ⟨by simpa using hN, hbel.trans (hb'.mono hbel.size), fun g0 => (z0 ((set_other (by decide)).symm.trans g0)), fun g0 => (z1 ((set_other (by decide)).symm.trans g0)).below hb', fun g0 => (z2 ((set_other (by decide)).symm.trans g0)), fun g0 => (z3 ((set_other (by decide)).symm.trans g0)).below hb', fun g0 => (z4 ((set_other (by decide)).symm.trans g0)), fun g0 => (z5 ((set_other (by decide)).symm.trans g0)).below hb', fun _ => AV.new _ _ _ _ hbel.size, fun g0 => (z7 ((set_other (by decide)).symm.trans g0)).below hb', fun g0 => (z8 ((set_other (by decide)).symm.trans g0)).below hb', fun g0 g1 => ((z7 ((set_other (by decide)).symm.trans g1)).ne).symm, fun g0 g1 => ((z8 ((set_other (by decide)).symm.trans g1)).ne).symm, fun g0 g1 => (z11 ((set_other (by decide)).symm.trans g0) ((set_other (by decide)).symm.trans g1)), fun g0 => not_done hL (z15 ((set_other (by decide)).symm.trans g0)).1, fun g0 => (z13 ((set_other (by decide)).symm.trans g0)).below hb', fun g0 => (z14 ((set_other (by decide)).symm.trans g0)).below hb', fun g0 => ⟨set_keep (z15 ((set_other (by decide)).symm.trans g0)).1, set_keep (z15 ((set_other (by decide)).symm.trans g0)).2⟩, fun g0 => ⟨set_keep (z16 ((set_other (by decide)).symm.trans g0)).1, set_keep (z16 ((set_other (by decide)).symm.trans g0)).2⟩, fun g0 => ⟨set_keep (z17 ((set_other (by decide)).symm.trans g0)).1, set_keep (z17 ((set_other (by decide)).symm.trans g0)).2⟩⟩⟩
      · obtain rfl := Option.some.inj ho
        have Z := hinv
        clear hinv ho hbel hN hdeps z0 z1 z2 z3 z4 z5 z6 z7 z8 z9 z10 z11 z12 z13 z14 z15 z16 z17
        go_simp
        obtain ⟨hN, hbel, z0, z1, z2, z3, z4, z5, z6, z7, z8, z9, z10, z11, z12, z13, z14, z15, z16, z17⟩ := Z.out
        have hb' := below_alloc1 wz (Obj.cells #[.int .i64 0, .slice none 0 0] 24)
        exact hK _ _ ⟨_, _, _, _, _, _, _, _, _, rfl, Lib.hid ⟨by simpa using hN, hbel.trans (hb'.mono hbel.size), fun g0 => (z0 ((set_other (by decide)).symm.trans g0)), fun g0 => (z1 ((set_other (by decide)).symm.trans g0)).below hb', fun g0 => (z2 ((set_other (by decide)).symm.trans g0)), fun g0 => (z3 ((set_other (by decide)).symm.trans g0)).below hb', fun g0 => (z4 ((set_other (by decide)).symm.trans g0)), fun g0 => (z5 ((set_other (by decide)).symm.trans g0)).below hb', fun g0 => (z6 ((set_other (by decide)).symm.trans g0)).below hb', fun _ => AV.new _ _ _ _ hbel.size, fun g0 => (z8 ((set_other (by decide)).symm.trans g0)).below hb', fun g0 g1 => (z6 ((set_other (by decide)).symm.trans g0)).ne, fun g0 g1 => (z10 ((set_other (by decide)).symm.trans g0) ((set_other (by decide)).symm.trans g1)), fun g0 g1 => ((z8 ((set_other (by decide)).symm.trans g1)).ne).symm, fun g0 => (z12 ((set_other (by decide)).symm.trans g0)).below hb', fun g0 => not_done hL (z16 ((set_other (by decide)).symm.trans g0)).1, fun g0 => (z14 ((set_other (by decide)).symm.trans g0)).below hb', fun g0 => ⟨set_keep (z15 ((set_other (by decide)).symm.trans g0)).1, set_keep (z15 ((set_other (by decide)).symm.trans g0)).2⟩, fun g0 => ⟨set_keep (z16 ((set_other (by decide)).symm.trans g0)).1, set_keep (z16 ((set_other (by decide)).symm.trans g0)).2⟩, fun g0 => ⟨set_keep (z17 ((set_other (by decide)).symm.trans g0)).1, set_keep (z17 ((set_other (by decide)).symm.trans g0)).2⟩⟩⟩
      · obtain rfl := Option.some.inj ho
        have Z := hinv
        clear hinv ho hbel hN hdeps z0 z1 z2 z3 z4 z5 z6 z7 z8 z9 z10 z11 z12 z13 z14 z15 z16 z17
        go_simp
        obtain ⟨hN, hbel, z0, z1, z2, z3, z4, z5, z6, z7, z8, z9, z10, z11, z12, z13, z14, z15, z16, z17⟩ := Z.out
        have hb' := below_alloc1 wz (Obj.cells #[.int .i64 0, .slice none 0 0] 24)
        exact hK _ _ ⟨_, _, _, _, _, _, _, _, _, rfl, Lib.hid ⟨by simpa using hN, hbel.trans (hb'.mono hbel.size), fun g0 => (z0 ((set_other (by decide)).symm.trans g0)), fun g0 => (z1 ((set_other (by decide)).symm.trans g0)).below hb', fun g0 => (z2 ((set_other (by decide)).symm.trans g0)), fun g0 => (z3 ((set_other (by decide)).symm.trans g0)).below hb', fun g0 => (z4 ((set_other (by decide)).symm.trans g0)), fun g0 => (z5 ((set_other (by decide)).symm.trans g0)).below hb', fun g0 => (z6 ((set_other (by decide)).symm.trans g0)).below hb', fun g0 => (z7 ((set_other (by decide)).symm.trans g0)).below hb', fun _ => AV.new _ _ _ _ hbel.size, fun g0 g1 => (z9 ((set_other (by decide)).symm.trans g0) ((set_other (by decide)).symm.trans g1)), fun g0 g1 => (z6 ((set_other (by decide)).symm.trans g0)).ne, fun g0 g1 => (z7 ((set_other (by decide)).symm.trans g0)).ne, fun g0 => (z12 ((set_other (by decide)).symm.trans g0)).below hb', fun g0 => (z13 ((set_other (by decide)).symm.trans g0)).below hb', fun g0 => not_done hL (z17 ((set_other (by decide)).symm.trans g0)).1, fun g0 => ⟨set_keep (z15 ((set_other (by decide)).symm.trans g0)).1, set_keep (z15 ((set_other (by decide)).symm.trans g0)).2⟩, fun g0 => ⟨set_keep (z16 ((set_other (by decide)).symm.trans g0)).1, set_keep (z16 ((set_other (by decide)).symm.trans g0)).2⟩, fun g0 => ⟨set_keep (z17 ((set_other (by decide)).symm.trans g0)).1, set_keep (z17 ((set_other (by decide)).symm.trans g0)).2⟩⟩⟩
      · obtain rfl := Option.some.inj ho
        have hds : L[6]? = some true ∧ L[7]? = some true ∧ L[8]? = some true ∧ L[1]? = some true := by
          simp [Region.binds] at hdeps
          refine ⟨?_, ?_, ?_, ?_⟩ <;> (refine dep ?_; simp [hdeps])
        obtain ⟨d6, d7, d8, d1⟩ := hds
        obtain ⟨A0, hA1, hA2, x0, u0, hA3⟩ := z6 d6
        obtain ⟨D, a, n, c, ps, hc1, hc2, hc3⟩ := z1 d1
        subst hA1
        subst hc1
        obtain ⟨s0, s1, s2, s3, s4, _⟩ := old2 wz A0 24 _ _ (.int .i64 D) (.slice a n c) hA3
        have S4 := Lib.hid s4
        have HA3 := Lib.hid hA3
        have HA2 := Lib.hid hA2
        have Z := hinv
        clear hinv ho hbel hN hdeps s4 hA2 hA3 hc2 hc3 z0 z1 z2 z3 z4 z5 z6 z7 z8 z9 z10 z11 z12 z13 z14 z15 z16 z17
        go_simp
        obtain ⟨hN, hbel, z0, z1, z2, z3, z4, z5, z6, z7, z8, z9, z10, z11, z12, z13, z14, z15, z16, z17⟩ := Z.out
        have hA4 := heap_setCell_same wz A0 0 _ 24 (.int .i64 D) HA3.out
        simp only [List.setIfInBounds_toArray, List.set_cons_zero] at hA4
        exact hK _ _ ⟨_, _, _, _, _, _, _, _, _, rfl, Lib.hid ⟨by simpa using hN, (hbel.setCell (p := ⟨A0, 0, none⟩) HA2.out _).setCell (p := ⟨A0, 1, none⟩) HA2.out _, fun g0 => (z0 ((set_other (by decide)).symm.trans g0)), fun g0 => ((z1 ((set_other (by decide)).symm.trans g0)).set HA3.out).set hA4, fun g0 => (z2 ((set_other (by decide)).symm.trans g0)), fun g0 => ((z3 ((set_other (by decide)).symm.trans g0)).set HA3.out).set hA4, fun g0 => (z4 ((set_other (by decide)).symm.trans g0)), fun g0 => ((z5 ((set_other (by decide)).symm.trans g0)).set HA3.out).set hA4, fun _ => ⟨A0, rfl, HA2.out, _, _, S4.out⟩, fun g0 => ((z7 ((set_other (by decide)).symm.trans g0)).set ((z9 d6 d7)).symm).set ((z9 d6 d7)).symm, fun g0 => ((z8 ((set_other (by decide)).symm.trans g0)).set ((z10 d6 d8)).symm).set ((z10 d6 d8)).symm, fun g0 g1 => (z9 ((set_other (by decide)).symm.trans g0) ((set_other (by decide)).symm.trans g1)), fun g0 g1 => (z10 ((set_other (by decide)).symm.trans g0) ((set_other (by decide)).symm.trans g1)), fun g0 g1 => (z11 ((set_other (by decide)).symm.trans g0) ((set_other (by decide)).symm.trans g1)), fun _ => ⟨A0, D, .slice a n c, rfl, rfl, S4.out⟩, fun g0 => ((z13 ((set_other (by decide)).symm.trans g0)).set ((z9 d6 d7)).symm).set ((z9 d6 d7)).symm, fun g0 => ((z14 ((set_other (by decide)).symm.trans g0)).set ((z10 d6 d8)).symm).set ((z10 d6 d8)).symm, fun _ => ⟨set_keep d6, set_keep d1⟩, fun g0 => ⟨set_keep (z16 ((set_other (by decide)).symm.trans g0)).1, set_keep (z16 ((set_other (by decide)).symm.trans g0)).2⟩, fun g0 => ⟨set_keep (z17 ((set_other (by decide)).symm.trans g0)).1, set_keep (z17 ((set_other (by decide)).symm.trans g0)).2⟩⟩⟩
      · obtain rfl := Option.some.inj ho
        have hds : L[7]? = some true ∧ L[6]? = some true ∧ L[8]? = some true ∧ L[3]? = some true := by
          simp [Region.binds] at hdeps
          refine ⟨?_, ?_, ?_, ?_⟩ <;> (refine dep ?_; simp [hdeps])
        obtain ⟨d7, d6, d8, d3⟩ := hds
        obtain ⟨A0, hA1, hA2, x0, u0, hA3⟩ := z7 d7
        obtain ⟨D, a, n, c, ps, hc1, hc2, hc3⟩ := z3 d3
        subst hA1
        subst hc1
        obtain ⟨s0, s1, s2, s3, s4, _⟩ := old2 wz A0 24 _ _ (.int .i64 D) (.slice a n c) hA3
        have S4 := Lib.hid s4
        have HA3 := Lib.hid hA3
        have HA2 := Lib.hid hA2
        have Z := hinv
        clear hinv ho hbel hN hdeps s4 hA2 hA3 hc2 hc3 z0 z1 z2 z3 z4 z5 z6 z7 z8 z9 z10 z11 z12 z13 z14 z15 z16 z17
        go_simp
        obtain ⟨hN, hbel, z0, z1, z2, z3, z4, z5, z6, z7, z8, z9, z10, z11, z12, z13, z14, z15, z16, z17⟩ := Z.out
        have hA4 := heap_setCell_same wz A0 0 _ 24 (.int .i64 D) HA3.out
        simp only [List.setIfInBounds_toArray, List.set_cons_zero] at hA4
        exact hK _ _ ⟨_, _, _, _, _, _, _, _, _, rfl, Lib.hid ⟨by simpa using hN, (hbel.setCell (p := ⟨A0, 0, none⟩) HA2.out _).setCell (p := ⟨A0, 1, none⟩) HA2.out _, fun g0 => (z0 ((set_other (by decide)).symm.trans g0)), fun g0 => ((z1 ((set_other (by decide)).symm.trans g0)).set HA3.out).set hA4, fun g0 => (z2 ((set_other (by decide)).symm.trans g0)), fun g0 => ((z3 ((set_other (by decide)).symm.trans g0)).set HA3.out).set hA4, fun g0 => (z4 ((set_other (by decide)).symm.trans g0)), fun g0 => ((z5 ((set_other (by decide)).symm.trans g0)).set HA3.out).set hA4, fun g0 => ((z6 ((set_other (by decide)).symm.trans g0)).set (z9 d6 d7)).set (z9 d6 d7), fun _ => ⟨A0, rfl, HA2.out, _, _, S4.out⟩, fun g0 => ((z8 ((set_other (by decide)).symm.trans g0)).set ((z11 d7 d8)).symm).set ((z11 d7 d8)).symm, fun g0 g1 => (z9 ((set_other (by decide)).symm.trans g0) ((set_other (by decide)).symm.trans g1)), fun g0 g1 => (z10 ((set_other (by decide)).symm.trans g0) ((set_other (by decide)).symm.trans g1)), fun g0 g1 => (z11 ((set_other (by decide)).symm.trans g0) ((set_other (by decide)).symm.trans g1)), fun g0 => ((z12 ((set_other (by decide)).symm.trans g0)).set (z9 d6 d7)).set (z9 d6 d7), fun _ => ⟨A0, D, .slice a n c, rfl, rfl, S4.out⟩, fun g0 => ((z14 ((set_other (by decide)).symm.trans g0)).set ((z11 d7 d8)).symm).set ((z11 d7 d8)).symm, fun g0 => ⟨set_keep (z15 ((set_other (by decide)).symm.trans g0)).1, set_keep (z15 ((set_other (by decide)).symm.trans g0)).2⟩, fun _ => ⟨set_keep d7, set_keep d3⟩, fun g0 => ⟨set_keep (z17 ((set_other (by decide)).symm.trans g0)).1, set_keep (z17 ((set_other (by decide)).symm.trans g0)).2⟩⟩⟩
      · obtain rfl := Option.some.inj ho
        have hds : L[8]? = some true ∧ L[6]? = some true ∧ L[7]? = some true ∧ L[5]? = some true := by
          simp [Region.binds] at hdeps
          refine ⟨?_, ?_, ?_, ?_⟩ <;> (refine dep ?_; simp [hdeps])
        obtain ⟨d8, d6, d7, d5⟩ := hds
        obtain ⟨A0, hA1, hA2, x0, u0, hA3⟩ := z8 d8
        obtain ⟨D, a, n, c, ps, hc1, hc2, hc3⟩ := z5 d5
        subst hA1
        subst hc1
        obtain ⟨s0, s1, s2, s3, s4, _⟩ := old2 wz A0 24 _ _ (.int .i64 D) (.slice a n c) hA3
        have S4 := Lib.hid s4
        have HA3 := Lib.hid hA3
        have HA2 := Lib.hid hA2
        have Z := hinv
        clear hinv ho hbel hN hdeps s4 hA2 hA3 hc2 hc3 z0 z1 z2 z3 z4 z5 z6 z7 z8 z9 z10 z11 z12 z13 z14 z15 z16 z17
        go_simp
        obtain ⟨hN, hbel, z0, z1, z2, z3, z4, z5, z6, z7, z8, z9, z10, z11, z12, z13, z14, z15, z16, z17⟩ := Z.out
        have hA4 := heap_setCell_same wz A0 0 _ 24 (.int .i64 D) HA3.out
        simp only [List.setIfInBounds_toArray, List.set_cons_zero] at hA4
        exact hK _ _ ⟨_, _, _, _, _, _, _, _, _, rfl, Lib.hid ⟨by simpa using hN, (hbel.setCell (p := ⟨A0, 0, none⟩) HA2.out _).setCell (p := ⟨A0, 1, none⟩) HA2.out _, fun g0 => (z0 ((set_other (by decide)).symm.trans g0)), fun g0 => ((z1 ((set_other (by decide)).symm.trans g0)).set HA3.out).set hA4, fun g0 => (z2 ((set_other (by decide)).symm.trans g0)), fun g0 => ((z3 ((set_other (by decide)).symm.trans g0)).set HA3.out).set hA4, fun g0 => (z4 ((set_other (by decide)).symm.trans g0)), fun g0 => ((z5 ((set_other (by decide)).symm.trans g0)).set HA3.out).set hA4, fun g0 => ((z6 ((set_other (by decide)).symm.trans g0)).set (z10 d6 d8)).set (z10 d6 d8), fun g0 => ((z7 ((set_other (by decide)).symm.trans g0)).set (z11 d7 d8)).set (z11 d7 d8), fun _ => ⟨A0, rfl, HA2.out, _, _, S4.out⟩, fun g0 g1 => (z9 ((set_other (by decide)).symm.trans g0) ((set_other (by decide)).symm.trans g1)), fun g0 g1 => (z10 ((set_other (by decide)).symm.trans g0) ((set_other (by decide)).symm.trans g1)), fun g0 g1 => (z11 ((set_other (by decide)).symm.trans g0) ((set_other (by decide)).symm.trans g1)), fun g0 => ((z12 ((set_other (by decide)).symm.trans g0)).set (z10 d6 d8)).set (z10 d6 d8), fun g0 => ((z13 ((set_other (by decide)).symm.trans g0)).set (z11 d7 d8)).set (z11 d7 d8), fun _ => ⟨A0, D, .slice a n c, rfl, rfl, S4.out⟩, fun g0 => ⟨set_keep (z15 ((set_other (by decide)).symm.trans g0)).1, set_keep (z15 ((set_other (by decide)).symm.trans g0)).2⟩, fun g0 => ⟨set_keep (z16 ((set_other (by decide)).symm.trans g0)).1, set_keep (z16 ((set_other (by decide)).symm.trans g0)).2⟩, fun _ => ⟨set_keep d8, set_keep d5⟩⟩⟩
    case fin =>
      intro L a wz hI hr
      obtain ⟨y7, y8, y9, y12, y13, y14, y15, y16, y17, rfl, hinv⟩ := hI
      obtain ⟨hN, hbel, z0, z1, z2, z3, z4, z5, z6, z7, z8, z9, z10, z11, z12, z13, z14, z15, z16, z17⟩ := hinv.out
      have f0 : L[0]? = some true := by
        cases hb : L[0]? with
        | none => have := (Array.getElem?_eq_none_iff.1 hb); omega
        | some b =>
          cases b with
          | true => rfl
          | false =>
            exact (ready_nil hr hb (by rfl) (by simp [Region.binds])).elim
      have f1 : L[1]? = some true := by
        cases hb : L[1]? with
        | none => have := (Array.getElem?_eq_none_iff.1 hb); omega
        | some b =>
          cases b with
          | true => rfl
          | false =>
            exact (ready_nil hr hb (by rfl) (by simp [Region.binds, f0])).elim
      have f2 : L[2]? = some true := by
        cases hb : L[2]? with
        | none => have := (Array.getElem?_eq_none_iff.1 hb); omega
        | some b =>
          cases b with
          | true => rfl
          | false =>
            exact (ready_nil hr hb (by rfl) (by simp [Region.binds, f0, f1])).elim
      have f3 : L[3]? = some true := by
        cases hb : L[3]? with
        | none => have := (Array.getElem?_eq_none_iff.1 hb); omega
        | some b =>
          cases b with
          | true => rfl
          | false =>
            exact (ready_nil hr hb (by rfl) (by simp [Region.binds, f0, f1, f2])).elim
      have f4 : L[4]? = some true := by
        cases hb : L[4]? with
        | none => have := (Array.getElem?_eq_none_iff.1 hb); omega
        | some b =>
          cases b with
          | true => rfl
          | false =>
            exact (ready_nil hr hb (by rfl) (by simp [Region.binds, f0, f1, f2, f3])).elim
      have f5 : L[5]? = some true := by
        cases hb : L[5]? with
        | none => have := (Array.getElem?_eq_none_iff.1 hb); omega
        | some b =>
          cases b with
          | true => rfl
          | false =>
            exact (ready_nil hr hb (by rfl) (by simp [Region.binds, f0, f1, f2, f3, f4])).elim
      have f6 : L[6]? = some true := by
        cases hb : L[6]? with
        | none => have := (Array.getElem?_eq_none_iff.1 hb); omega
        | some b =>
          cases b with
          | true => rfl
          | false =>
            exact (ready_nil hr hb (by rfl) (by simp [Region.binds, f0, f1, f2, f3, f4, f5])).elim
      have f7 : L[7]? = some true := by
        cases hb : L[7]? with
        | none => have := (Array.getElem?_eq_none_iff.1 hb); omega
        | some b =>
          cases b with
          | true => rfl
          | false =>
            exact (ready_nil hr hb (by rfl) (by simp [Region.binds, f0, f1, f2, f3, f4, f5, f6])).elim
      have f8 : L[8]? = some true := by
        cases hb : L[8]? with
        | none => have := (Array.getElem?_eq_none_iff.1 hb); omega
        | some b =>
          cases b with
          | true => rfl
          | false =>
            exact (ready_nil hr hb (by rfl) (by simp [Region.binds, f0, f1, f2, f3, f4, f5, f6, f7])).elim
      have f9 : L[9]? = some true := by
        cases hb : L[9]? with
        | none => have := (Array.getElem?_eq_none_iff.1 hb); omega
        | some b =>
          cases b with
          | true => rfl
          | false =>
            exact (ready_nil hr hb (by rfl) (by simp [Region.binds, f0, f1, f2, f3, f4, f5, f6, f7, f8])).elim
      have f10 : L[10]? = some true := by
        cases hb : L[10]? with
        | none => have := (Array.getElem?_eq_none_iff.1 hb); omega
        | some b =>
          cases b with
          | true => rfl
          | false =>
            exact (ready_nil hr hb (by rfl) (by simp [Region.binds, f0, f1, f2, f3, f4, f5, f6, f7, f8, f9])).elim
      have f11 : L[11]? = some true := by
        cases hb : L[11]? with
        | none => have := (Array.getElem?_eq_none_iff.1 hb); omega
        | some b =>
          cases b with
          | true => rfl
          | false =>
            exact (ready_nil hr hb (by rfl) (by simp [Region.binds, f0, f1, f2, f3, f4, f5, f6, f7, f8, f9, f10])).elim
      obtain ⟨A0, D0, v0, hp0, hy0, hh0⟩ := z12 f9
      obtain ⟨D0', a0, n0, c0, ps0, hz0, hg0, ho0⟩ := z1 f1
      rw [hy0] at hz0
      obtain ⟨rfl, rfl⟩ : D0 = D0' ∧ v0 = .slice a0 n0 c0 := by simpa using hz0
      obtain ⟨A1, D1, v1, hp1, hy1, hh1⟩ := z13 f10
      obtain ⟨D1', a1, n1, c1, ps1, hz1, hg1, ho1⟩ := z3 f3
      rw [hy1] at hz1
      obtain ⟨rfl, rfl⟩ : D1 = D1' ∧ v1 = .slice a1 n1 c1 := by simpa using hz1
      obtain ⟨A2, D2, v2, hp2, hy2, hh2⟩ := z14 f11
      obtain ⟨D2', a2, n2, c2, ps2, hz2, hg2, ho2⟩ := z5 f5
      rw [hy2] at hz2
      obtain ⟨rfl, rfl⟩ : D2 = D2' ∧ v2 = .slice a2 n2 c2 := by simpa using hz2
      subst hp0 hp1 hp2
      have HF := Lib.hid (show Lbl wz A0 D0 (.slice a0 n0 c0) ps0 ∧ Lbl wz A1 D1 (.slice a1 n1 c1) ps1 ∧ Lbl wz A2 D2 (.slice a2 n2 c2) ps2 ∧ Lab.Fine D0 ps0 ∧ Lab.Fine D1 ps1 ∧ Lab.Fine D2 ps2 ∧ Below w1.heap.size w1 wz from ⟨⟨hh0, rc_of_owns ho0 (by have := hg0.2.2.2.2; omega)⟩, ⟨hh1, rc_of_owns ho1 (by have := hg1.2.2.2.2; omega)⟩, ⟨hh2, rc_of_owns ho2 (by have := hg2.2.2.2.2; omega)⟩, hg0, hg1, hg2, hbel⟩)
      go_wp2_with fail
      go_meet
      exact ⟨_, _, _, _, _, _, _, _, _, _, _, _, _, _, _, _, _, _, rfl, rfl, rfl, HF⟩
  case rest =>
    obtain ⟨A0, D0, ps0, a0, n0, c0, A1, D1, ps1, a1, n1, c1, A2, D2, ps2, a2, n2, c2, rfl, rfl, rfl, HF⟩ := hcut
    have HBw := Lib.hid (HS.out w1 (Below.refl _ _)).1
    clear HS SS C0 C1 C2 hcall HI0 HI1 HI2 HK HB HFit
    obtain ⟨X, rfl⟩ : ∃ X, X = wc := ⟨_, rfl⟩
    obtain ⟨L0, L1, L2, F0, F1, F2, hbx⟩ := HF.out
    have HX := Lib.hid (HBw.out.trans (hbx.mono HBw.out.size))
    have O0 := Lib.hid F0.1
    have l0 := F0.2.2.2.2
    have O1 := Lib.hid F1.1
    have l1 := F1.2.2.2.2
    have O2 := Lib.hid F2.1
    have l2 := F2.2.2.2.2
    go_upto_region 4 with fail
    obtain ⟨Mmab, eMmab⟩ : ∃ X, min D0 D1 = X := ⟨_, rfl⟩
    obtain ⟨Zmab, eZmab⟩ : ∃ X, Lab.mt D0 ps0 D1 ps1 = X := ⟨_, rfl⟩
    have Omab := Lib.hid (show Lab.Ok Mmab Zmab by rw [← eMmab, ← eZmab]; exact Lab.mt_ok O0.out O1.out)
    have lZmab : Zmab.length ≤ 24 := by rw [← eZmab]; have := Lab.mt_len D0 ps0 D1 ps1; omega
    obtain ⟨Mjab, eMjab⟩ : ∃ X, max D0 D1 = X := ⟨_, rfl⟩
    obtain ⟨Zjab, eZjab⟩ : ∃ X, Lab.jn D0 ps0 D1 ps1 = X := ⟨_, rfl⟩
    have Ojab := Lib.hid (show Lab.Ok Mjab Zjab by rw [← eMjab, ← eZjab]; exact Lab.jn_ok O0.out O1.out)
    have lZjab : Zjab.length ≤ 24 := by rw [← eZjab]; have := Lab.jn_len D0 ps0 D1 ps1; omega
    obtain ⟨Mjba, eMjba⟩ : ∃ X, max D1 D0 = X := ⟨_, rfl⟩
    obtain ⟨Zjba, eZjba⟩ : ∃ X, Lab.jn D1 ps1 D0 ps0 = X := ⟨_, rfl⟩
    have Ojba := Lib.hid (show Lab.Ok Mjba Zjba by rw [← eMjba, ← eZjba]; exact Lab.jn_ok O1.out O0.out)
    have lZjba : Zjba.length ≤ 24 := by rw [← eZjba]; have := Lab.jn_len D1 ps1 D0 ps0; omega
    obtain ⟨Mmba, eMmba⟩ : ∃ X, min D1 D0 = X := ⟨_, rfl⟩
    obtain ⟨Zmba, eZmba⟩ : ∃ X, Lab.mt D1 ps1 D0 ps0 = X := ⟨_, rfl⟩
    have Omba := Lib.hid (show Lab.Ok Mmba Zmba by rw [← eMmba, ← eZmba]; exact Lab.mt_ok O1.out O0.out)
    have lZmba : Zmba.length ≤ 24 := by rw [← eZmba]; have := Lab.mt_len D1 ps1 D0 ps0; omega
    obtain ⟨Mjbc, eMjbc⟩ : ∃ X, max D1 D2 = X := ⟨_, rfl⟩
    obtain ⟨Zjbc, eZjbc⟩ : ∃ X, Lab.jn D1 ps1 D2 ps2 = X := ⟨_, rfl⟩
    have Ojbc := Lib.hid (show Lab.Ok Mjbc Zjbc by rw [← eMjbc, ← eZjbc]; exact Lab.jn_ok O1.out O2.out)
    have lZjbc : Zjbc.length ≤ 24 := by rw [← eZjbc]; have := Lab.jn_len D1 ps1 D2 ps2; omega
    obtain ⟨Mmbc, eMmbc⟩ : ∃ X, min D1 D2 = X := ⟨_, rfl⟩
    obtain ⟨Zmbc, eZmbc⟩ : ∃ X, Lab.mt D1 ps1 D2 ps2 = X := ⟨_, rfl⟩
    have Ombc := Lib.hid (show Lab.Ok Mmbc Zmbc by rw [← eMmbc, ← eZmbc]; exact Lab.mt_ok O1.out O2.out)
    have lZmbc : Zmbc.length ≤ 24 := by rw [← eZmbc]; have := Lab.mt_len D1 ps1 D2 ps2; omega
    obtain ⟨Mjm, eMjm⟩ : ∃ X, max D0 Mmab = X := ⟨_, rfl⟩
    obtain ⟨Zjm, eZjm⟩ : ∃ X, Lab.jn D0 ps0 Mmab Zmab = X := ⟨_, rfl⟩
    have Ojm := Lib.hid (show Lab.Ok Mjm Zjm by rw [← eMjm, ← eZjm]; exact Lab.jn_ok O0.out Omab.out)
    have lZjm : Zjm.length ≤ 36 := by rw [← eZjm]; have := Lab.jn_len D0 ps0 Mmab Zmab; omega
    obtain ⟨Mmj, eMmj⟩ : ∃ X, min D0 Mjab = X := ⟨_, rfl⟩
    obtain ⟨Zmj, eZmj⟩ : ∃ X, Lab.mt D0 ps0 Mjab Zjab = X := ⟨_, rfl⟩
    have Omj := Lib.hid (show Lab.Ok Mmj Zmj by rw [← eMmj, ← eZmj]; exact Lab.mt_ok O0.out Ojab.out)
    have lZmj : Zmj.length ≤ 36 := by rw [← eZmj]; have := Lab.mt_len D0 ps0 Mjab Zjab; omega
    obtain ⟨Mjl, eMjl⟩ : ∃ X, max D0 Mjbc = X := ⟨_, rfl⟩
    obtain ⟨Zjl, eZjl⟩ : ∃ X, Lab.jn D0 ps0 Mjbc Zjbc = X := ⟨_, rfl⟩
    have Ojl := Lib.hid (show Lab.Ok Mjl Zjl by rw [← eMjl, ← eZjl]; exact Lab.jn_ok O0.out Ojbc.out)
    have lZjl : Zjl.length ≤ 36 := by rw [← eZjl]; have := Lab.jn_len D0 ps0 Mjbc Zjbc; omega
    obtain ⟨Mjr, eMjr⟩ : ∃ X, max Mjab D2 = X := ⟨_, rfl⟩
    obtain ⟨Zjr, eZjr⟩ : ∃ X, Lab.jn Mjab Zjab D2 ps2 = X := ⟨_, rfl⟩
    have Ojr := Lib.hid (show Lab.Ok Mjr Zjr by rw [← eMjr, ← eZjr]; exact Lab.jn_ok Ojab.out O2.out)
    have lZjr : Zjr.length ≤ 36 := by rw [← eZjr]; have := Lab.jn_len Mjab Zjab D2 ps2; omega
    obtain ⟨Mml, eMml⟩ : ∃ X, min D0 Mmbc = X := ⟨_, rfl⟩
    obtain ⟨Zml, eZml⟩ : ∃ X, Lab.mt D0 ps0 Mmbc Zmbc = X := ⟨_, rfl⟩
    have Oml := Lib.hid (show Lab.Ok Mml Zml by rw [← eMml, ← eZml]; exact Lab.mt_ok O0.out Ombc.out)
    have lZml : Zml.length ≤ 36 := by rw [← eZml]; have := Lab.mt_len D0 ps0 Mmbc Zmbc; omega
    obtain ⟨Mmr, eMmr⟩ : ∃ X, min Mmab D2 = X := ⟨_, rfl⟩
    obtain ⟨Zmr, eZmr⟩ : ∃ X, Lab.mt Mmab Zmab D2 ps2 = X := ⟨_, rfl⟩
    have Omr := Lib.hid (show Lab.Ok Mmr Zmr by rw [← eMmr, ← eZmr]; exact Lab.mt_ok Omab.out O2.out)
    have lZmr : Zmr.length ≤ 36 := by rw [← eZmr]; have := Lab.mt_len Mmab Zmab D2 ps2; omega
    have E1 := Lib.hid (show Mjm = D0 ∧ Zjm = ps0 by rw [← eMjm, ← eZjm, ← eMmab, ← eZmab]; exact absorb_jm O0.out O1.out)
    have E2 := Lib.hid (show Mmj = D0 ∧ Zmj = ps0 by rw [← eMmj, ← eZmj, ← eMjab, ← eZjab]; exact absorb_mj O0.out O1.out)
    have E3 := Lib.hid (show Mjab = Mjba ∧ Zjab = Zjba by rw [← eMjab, ← eMjba, ← eZjab, ← eZjba]; exact comm_j O0.out O1.out)
    have E4 := Lib.hid (show Mmab = Mmba ∧ Zmab = Zmba by rw [← eMmab, ← eMmba, ← eZmab, ← eZmba]; exact comm_m O0.out O1.out)
    have E5 := Lib.hid (show Mjl = Mjr ∧ Zjl = Zjr by rw [← eMjl, ← eMjr, ← eZjl, ← eZjr, ← eMjbc, ← eZjbc, ← eMjab, ← eZjab]; exact assoc_j O0.out O1.out O2.out)
    have E6 := Lib.hid (show Mml = Mmr ∧ Zml = Zmr by rw [← eMml, ← eMmr, ← eZml, ← eZmr, ← eMmbc, ← eZmbc, ← eMmab, ← eZmab]; exact assoc_m O0.out O1.out O2.out)
    have Pmab := Lib.hid (fun (W : World) (v0 : Value) (v1 : Value) (r0 : RC W.heap.size W v0 ps0) (r1 : RC W.heap.size W v1 ps1) => (by rw [← eMmab, ← eZmab]; exact meet_c O0.out O1.out r0 r1 (by omega) : Calls Try.prog 16 #[.agg #[.int .i64 D0, v0], .agg #[.int .i64 D1, v1]] W (LG W Mmab Zmab)))
    have Pjm := Lib.hid (fun (W : World) (v0 : Value) (v1 : Value) (r0 : RC W.heap.size W v0 ps0) (r1 : RC W.heap.size W v1 Zmab) => (by rw [← eMjm, ← eZjm]; exact join_c O0.out Omab.out r0 r1 (by omega) : Calls Try.prog 15 #[.agg #[.int .i64 D0, v0], .agg #[.int .i64 Mmab, v1]] W (LG W Mjm Zjm)))
    have Pjab := Lib.hid (fun (W : World) (v0 : Value) (v1 : Value) (r0 : RC W.heap.size W v0 ps0) (r1 : RC W.heap.size W v1 ps1) => (by rw [← eMjab, ← eZjab]; exact join_c O0.out O1.out r0 r1 (by omega) : Calls Try.prog 15 #[.agg #[.int .i64 D0, v0], .agg #[.int .i64 D1, v1]] W (LG W Mjab Zjab)))
    have Pmj := Lib.hid (fun (W : World) (v0 : Value) (v1 : Value) (r0 : RC W.heap.size W v0 ps0) (r1 : RC W.heap.size W v1 Zjab) => (by rw [← eMmj, ← eZmj]; exact meet_c O0.out Ojab.out r0 r1 (by omega) : Calls Try.prog 16 #[.agg #[.int .i64 D0, v0], .agg #[.int .i64 Mjab, v1]] W (LG W Mmj Zmj)))
    have Pjba := Lib.hid (fun (W : World) (v0 : Value) (v1 : Value) (r0 : RC W.heap.size W v0 ps1) (r1 : RC W.heap.size W v1 ps0) => (by rw [← eMjba, ← eZjba]; exact join_c O1.out O0.out r0 r1 (by omega) : Calls Try.prog 15 #[.agg #[.int .i64 D1, v0], .agg #[.int .i64 D0, v1]] W (LG W Mjba Zjba)))
    have Pmba := Lib.hid (fun (W : World) (v0 : Value) (v1 : Value) (r0 : RC W.heap.size W v0 ps1) (r1 : RC W.heap.size W v1 ps0) => (by rw [← eMmba, ← eZmba]; exact meet_c O1.out O0.out r0 r1 (by omega) : Calls Try.prog 16 #[.agg #[.int .i64 D1, v0], .agg #[.int .i64 D0, v1]] W (LG W Mmba Zmba)))
    have Pjbc := Lib.hid (fun (W : World) (v0 : Value) (v1 : Value) (r0 : RC W.heap.size W v0 ps1) (r1 : RC W.heap.size W v1 ps2) => (by rw [← eMjbc, ← eZjbc]; exact join_c O1.out O2.out r0 r1 (by omega) : Calls Try.prog 15 #[.agg #[.int .i64 D1, v0], .agg #[.int .i64 D2, v1]] W (LG W Mjbc Zjbc)))
    have Pjl := Lib.hid (fun (W : World) (v0 : Value) (v1 : Value) (r0 : RC W.heap.size W v0 ps0) (r1 : RC W.heap.size W v1 Zjbc) => (by rw [← eMjl, ← eZjl]; exact join_c O0.out Ojbc.out r0 r1 (by omega) : Calls Try.prog 15 #[.agg #[.int .i64 D0, v0], .agg #[.int .i64 Mjbc, v1]] W (LG W Mjl Zjl)))
    have Pjr := Lib.hid (fun (W : World) (v0 : Value) (v1 : Value) (r0 : RC W.heap.size W v0 Zjab) (r1 : RC W.heap.size W v1 ps2) => (by rw [← eMjr, ← eZjr]; exact join_c Ojab.out O2.out r0 r1 (by omega) : Calls Try.prog 15 #[.agg #[.int .i64 Mjab, v0], .agg #[.int .i64 D2, v1]] W (LG W Mjr Zjr)))
    have Pmbc := Lib.hid (fun (W : World) (v0 : Value) (v1 : Value) (r0 : RC W.heap.size W v0 ps1) (r1 : RC W.heap.size W v1 ps2) => (by rw [← eMmbc, ← eZmbc]; exact meet_c O1.out O2.out r0 r1 (by omega) : Calls Try.prog 16 #[.agg #[.int .i64 D1, v0], .agg #[.int .i64 D2, v1]] W (LG W Mmbc Zmbc)))
    have Pml := Lib.hid (fun (W : World) (v0 : Value) (v1 : Value) (r0 : RC W.heap.size W v0 ps0) (r1 : RC W.heap.size W v1 Zmbc) => (by rw [← eMml, ← eZml]; exact meet_c O0.out Ombc.out r0 r1 (by omega) : Calls Try.prog 16 #[.agg #[.int .i64 D0, v0], .agg #[.int .i64 Mmbc, v1]] W (LG W Mml Zml)))
    have Pmr := Lib.hid (fun (W : World) (v0 : Value) (v1 : Value) (r0 : RC W.heap.size W v0 Zmab) (r1 : RC W.heap.size W v1 ps2) => (by rw [← eMmr, ← eZmr]; exact meet_c Omab.out O2.out r0 r1 (by omega) : Calls Try.prog 16 #[.agg #[.int .i64 Mmab, v0], .agg #[.int .i64 D2, v1]] W (LG W Mmr Zmr)))
    have KS := Lib.hid (fun (wx : World) (h : Below X.heap.size X wx) => (⟨(L0).below h, (L1).below h, (L2).below h, (HX.out).trans (h.mono (HX.out).size)⟩ : Lbl wx A0 D0 (.slice a0 n0 c0) ps0 ∧ Lbl wx A1 D1 (.slice a1 n1 c1) ps1 ∧ Lbl wx A2 D2 (.slice a2 n2 c2) ps2 ∧ Below w.heap.size w wx))
    have SC := Lib.hid (fun (wx : World) (h : Below X.heap.size X wx) => (⟨(KS.out wx h).1.cells.1, (KS.out wx h).1.cells.2, (KS.out wx h).2.1.cells.1, (KS.out wx h).2.1.cells.2, (KS.out wx h).2.2.1.cells.1, (KS.out wx h).2.2.1.cells.2⟩ : wx.cell? ⟨A0, 0, none⟩ = some (.int .i64 D0) ∧ wx.cell? ⟨A0, 1, none⟩ = some ((.slice a0 n0 c0)) ∧ wx.cell? ⟨A1, 0, none⟩ = some (.int .i64 D1) ∧ wx.cell? ⟨A1, 1, none⟩ = some ((.slice a1 n1 c1)) ∧ wx.cell? ⟨A2, 0, none⟩ = some (.int .i64 D2) ∧ wx.cell? ⟨A2, 1, none⟩ = some ((.slice a2 n2 c2))))
    clear eMmab eZmab eMjab eZjab eMjba eZjba eMmba eZmba eMjbc eZjbc eMmbc eZmbc eMjm eZjm eMmj eZmj eMjl eZjl eMjr eZjr eMml eZml eMmr eZmr L0 L1 L2 F0 F1 F2 hbx HF HBw O0 O1 O2 HX Omab Ojm Ojab Omj Ojba Omba Ojbc Ojl Ojr Ombc Oml Omr
    have st0 := Lib.hid (show 0 = 0 from rfl)
    have hcall := Lib.hid ((Below.refl X.heap.size X).drew)
    go_region_held3 (fun w' => w'.cell? ⟨A0, 0, none⟩ = some (.int .i64 D0) ∧ w'.cell? ⟨A0, 1, none⟩ = some ((.slice a0 n0 c0)) ∧ w'.cell? ⟨A1, 0, none⟩ = some (.int .i64 D1) ∧ w'.cell? ⟨A1, 1, none⟩ = some ((.slice a1 n1 c1)) ∧ w'.cell? ⟨A2, 0, none⟩ = some (.int .i64 D2) ∧ w'.cell? ⟨A2, 1, none⟩ = some ((.slice a2 n2 c2)))
      (first
        | exact SC.out _ hcall.out)
      (first
        | (have _ := st0
           with_reducible refine (Pmab.out _ _ _ (KS.out _ hcall.out).1.rc (KS.out _ hcall.out).2.1.rc).mono ?_
           rintro e wq ⟨a1, n1, c1, rfl, ho, hb'⟩
           have R1 := Lib.hid (rc_of_owns ho (by omega))
           clear ho
           replace hcall := Lib.hid (hcall.out.trans (hb'.mono hcall.out.size))
           clear hb' st0
           have st1 := Lib.hid (show 1 = 1 from rfl))
        | (have _ := st1
           with_reducible refine (Pjm.out _ _ _ (KS.out _ hcall.out).1.rc R1.out).mono ?_
           rintro e wq ⟨a2, n2, c2, rfl, ho, hb'⟩
           have R2 := Lib.hid (rc_of_owns ho (by omega))
           clear ho
           replace hcall := Lib.hid (hcall.out.trans (hb'.mono hcall.out.size))
           clear hb' st1
           have st2 := Lib.hid (show 2 = 2 from rfl))
        | (have _ := st2
           with_reducible refine (same_yes R2.out (KS.out _ hcall.out).1.rc E1.out).mono ?_
           rintro e wq ⟨rfl, hb'⟩
           replace hcall := Lib.hid (hcall.out.trans (hb'.mono hcall.out.size))
           clear hb' st2
           have st3 := Lib.hid (show 3 = 3 from rfl))
        | (have _ := st3
           with_reducible refine (Pjab.out _ _ _ (KS.out _ hcall.out).1.rc (KS.out _ hcall.out).2.1.rc).mono ?_
           rintro e wq ⟨a3, n3, c3, rfl, ho, hb'⟩
           have R3 := Lib.hid (rc_of_owns ho (by omega))
           clear ho
           replace hcall := Lib.hid (hcall.out.trans (hb'.mono hcall.out.size))
           clear hb' st3
           have st4 := Lib.hid (show 4 = 4 from rfl))
        | (have _ := st4
           with_reducible refine (Pmj.out _ _ _ (KS.out _ hcall.out).1.rc R3.out).mono ?_
           rintro e wq ⟨a4, n4, c4, rfl, ho, hb'⟩
           have R4 := Lib.hid (rc_of_owns ho (by omega))
           clear ho
           replace hcall := Lib.hid (hcall.out.trans (hb'.mono hcall.out.size))
           clear hb' st4
           have st5 := Lib.hid (show 5 = 5 from rfl))
        | (have _ := st5
           with_reducible refine (same_yes R4.out (KS.out _ hcall.out).1.rc E2.out).mono ?_
           rintro e wq ⟨rfl, hb'⟩
           replace hcall := Lib.hid (hcall.out.trans (hb'.mono hcall.out.size))
           clear hb' st5
           have st6 := Lib.hid (show 6 = 6 from rfl))
        | (have _ := st6
           with_reducible refine (Pjab.out _ _ _ (KS.out _ hcall.out).1.rc (KS.out _ hcall.out).2.1.rc).mono ?_
           rintro e wq ⟨a5, n5, c5, rfl, ho, hb'⟩
           have R5 := Lib.hid (rc_of_owns ho (by omega))
           clear ho
           replace hcall := Lib.hid (hcall.out.trans (hb'.mono hcall.out.size))
           clear hb' st6
           have st7 := Lib.hid (show 7 = 7 from rfl))
        | (have _ := st7
           with_reducible refine (Pjba.out _ _ _ (KS.out _ hcall.out).2.1.rc (KS.out _ hcall.out).1.rc).mono ?_
           rintro e wq ⟨a6, n6, c6, rfl, ho, hb'⟩
           have R6 := Lib.hid (rc_of_owns ho (by omega))
           clear ho
           replace R5 := Lib.hid ((R5.out.below hb').mono hb'.size)
           replace hcall := Lib.hid (hcall.out.trans (hb'.mono hcall.out.size))
           clear hb' st7
           have st8 := Lib.hid (show 8 = 8 from rfl))
        | (have _ := st8
           with_reducible refine (same_yes R5.out R6.out E3.out).mono ?_
           rintro e wq ⟨rfl, hb'⟩
           replace hcall := Lib.hid (hcall.out.trans (hb'.mono hcall.out.size))
           clear hb' st8
           have st9 := Lib.hid (show 9 = 9 from rfl))
        | (have _ := st9
           with_reducible refine (Pmab.out _ _ _ (KS.out _ hcall.out).1.rc (KS.out _ hcall.out).2.1.rc).mono ?_
           rintro e wq ⟨a7, n7, c7, rfl, ho, hb'⟩
           have R7 := Lib.hid (rc_of_owns ho (by omega))
           clear ho
           replace hcall := Lib.hid (hcall.out.trans (hb'.mono hcall.out.size))
           clear hb' st9
           have st10 := Lib.hid (show 10 = 10 from rfl))
        | (have _ := st10
           with_reducible refine (Pmba.out _ _ _ (KS.out _ hcall.out).2.1.rc (KS.out _ hcall.out).1.rc).mono ?_
           rintro e wq ⟨a8, n8, c8, rfl, ho, hb'⟩
           have R8 := Lib.hid (rc_of_owns ho (by omega))
           clear ho
           replace R7 := Lib.hid ((R7.out.below hb').mono hb'.size)
           replace hcall := Lib.hid (hcall.out.trans (hb'.mono hcall.out.size))
           clear hb' st10
           have st11 := Lib.hid (show 11 = 11 from rfl))
        | (have _ := st11
           with_reducible refine (same_yes R7.out R8.out E4.out).mono ?_
           rintro e wq ⟨rfl, hb'⟩
           replace hcall := Lib.hid (hcall.out.trans (hb'.mono hcall.out.size))
           clear hb' st11
           have st12 := Lib.hid (show 12 = 12 from rfl))
        | (have _ := st12
           with_reducible refine (Pjbc.out _ _ _ (KS.out _ hcall.out).2.1.rc (KS.out _ hcall.out).2.2.1.rc).mono ?_
           rintro e wq ⟨a9, n9, c9, rfl, ho, hb'⟩
           have R9 := Lib.hid (rc_of_owns ho (by omega))
           clear ho
           replace hcall := Lib.hid (hcall.out.trans (hb'.mono hcall.out.size))
           clear hb' st12
           have st13 := Lib.hid (show 13 = 13 from rfl))
        | (have _ := st13
           with_reducible refine (Pjl.out _ _ _ (KS.out _ hcall.out).1.rc R9.out).mono ?_
           rintro e wq ⟨a10, n10, c10, rfl, ho, hb'⟩
           have R10 := Lib.hid (rc_of_owns ho (by omega))
           clear ho
           replace hcall := Lib.hid (hcall.out.trans (hb'.mono hcall.out.size))
           clear hb' st13
           have st14 := Lib.hid (show 14 = 14 from rfl))
        | (have _ := st14
           with_reducible refine (Pjab.out _ _ _ (KS.out _ hcall.out).1.rc (KS.out _ hcall.out).2.1.rc).mono ?_
           rintro e wq ⟨a11, n11, c11, rfl, ho, hb'⟩
           have R11 := Lib.hid (rc_of_owns ho (by omega))
           clear ho
           replace R10 := Lib.hid ((R10.out.below hb').mono hb'.size)
           replace hcall := Lib.hid (hcall.out.trans (hb'.mono hcall.out.size))
           clear hb' st14
           have st15 := Lib.hid (show 15 = 15 from rfl))
        | (have _ := st15
           with_reducible refine (Pjr.out _ _ _ R11.out (KS.out _ hcall.out).2.2.1.rc).mono ?_
           rintro e wq ⟨a12, n12, c12, rfl, ho, hb'⟩
           have R12 := Lib.hid (rc_of_owns ho (by omega))
           clear ho
           replace R10 := Lib.hid ((R10.out.below hb').mono hb'.size)
           replace hcall := Lib.hid (hcall.out.trans (hb'.mono hcall.out.size))
           clear hb' st15
           have st16 := Lib.hid (show 16 = 16 from rfl))
        | (have _ := st16
           with_reducible refine (same_yes R10.out R12.out E5.out).mono ?_
           rintro e wq ⟨rfl, hb'⟩
           replace hcall := Lib.hid (hcall.out.trans (hb'.mono hcall.out.size))
           clear hb' st16
           have st17 := Lib.hid (show 17 = 17 from rfl))
        | (have _ := st17
           with_reducible refine (Pmbc.out _ _ _ (KS.out _ hcall.out).2.1.rc (KS.out _ hcall.out).2.2.1.rc).mono ?_
           rintro e wq ⟨a13, n13, c13, rfl, ho, hb'⟩
           have R13 := Lib.hid (rc_of_owns ho (by omega))
           clear ho
           replace hcall := Lib.hid (hcall.out.trans (hb'.mono hcall.out.size))
           clear hb' st17
           have st18 := Lib.hid (show 18 = 18 from rfl))
        | (have _ := st18
           with_reducible refine (Pml.out _ _ _ (KS.out _ hcall.out).1.rc R13.out).mono ?_
           rintro e wq ⟨a14, n14, c14, rfl, ho, hb'⟩
           have R14 := Lib.hid (rc_of_owns ho (by omega))
           clear ho
           replace hcall := Lib.hid (hcall.out.trans (hb'.mono hcall.out.size))
           clear hb' st18
           have st19 := Lib.hid (show 19 = 19 from rfl))
        | (have _ := st19
           with_reducible refine (Pmab.out _ _ _ (KS.out _ hcall.out).1.rc (KS.out _ hcall.out).2.1.rc).mono ?_
           rintro e wq ⟨a15, n15, c15, rfl, ho, hb'⟩
           have R15 := Lib.hid (rc_of_owns ho (by omega))
           clear ho
           replace R14 := Lib.hid ((R14.out.below hb').mono hb'.size)
           replace hcall := Lib.hid (hcall.out.trans (hb'.mono hcall.out.size))
           clear hb' st19
           have st20 := Lib.hid (show 20 = 20 from rfl))
        | (have _ := st20
           with_reducible refine (Pmr.out _ _ _ R15.out (KS.out _ hcall.out).2.2.1.rc).mono ?_
           rintro e wq ⟨a16, n16, c16, rfl, ho, hb'⟩
           have R16 := Lib.hid (rc_of_owns ho (by omega))
           clear ho
           replace R14 := Lib.hid ((R14.out.below hb').mono hb'.size)
           replace hcall := Lib.hid (hcall.out.trans (hb'.mono hcall.out.size))
           clear hb' st20
           have st21 := Lib.hid (show 21 = 21 from rfl))
        | (have _ := st21
           with_reducible refine (same_yes R14.out R16.out E6.out).mono ?_
           rintro e wq ⟨rfl, hb'⟩
           replace hcall := Lib.hid (hcall.out.trans (hb'.mono hcall.out.size))
           clear hb' st21
           have st22 := Lib.hid (show 22 = 22 from rfl)))
    all_goals
      go_wp2_with fail
      go_ret
      exact ⟨by first | rfl | simp, (KS.out _ hcall.out).2.2.2⟩
end Go.Proofs.Ytlkhbbdigljpjaa
