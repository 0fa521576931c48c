import Derived.Test.YtlkhbbdigljpjaaUd
namespace Go.Proofs.Ytlkhbbdigljpjaa
open Go.RowKit
set_option linter.unusedVariables false
set_option linter.unusedSimpArgs false

set_option maxRecDepth 100000 in
set_option maxHeartbeats 4000000 in
theorem makes_law (S T : Int) (v w0 : Value) (w : World) (h1 : Ints w v) (h2 : Ints w w0) :
    Calls Try.prog 4 #[.agg #[.int .i64 S, v], .agg #[.int .i64 T, w0]] w fun e w' => e = .returned (.bool true) ∧ Below w.heap.size w w' := by
  have hv : ∃ a n c, v = .slice a n c := by rcases h1 with ⟨a, c, rfl⟩ | ⟨b, off, cap, n, ls, rfl, _⟩ <;> exact ⟨_, _, _, rfl⟩
  have hw0 : ∃ a n c, w0 = .slice a n c := by rcases h2 with ⟨a, c, rfl⟩ | ⟨b, off, cap, n, ls, rfl, _⟩ <;> exact ⟨_, _, _, rfl⟩
  obtain ⟨va, vn, vc, rfl⟩ := hv
  obtain ⟨ua, un, uc, rfl⟩ := hw0
  have HI1 := Lib.hid h1
  have HI2 := Lib.hid h2
  have HFit := Lib.hid (fun (W : World) => fit_any W)
  have hB : Below w.heap.size w ((w.alloc (Obj.cells #[.int .i64 S, .slice va vn vc] 29)).alloc (Obj.cells #[.int .i64 T, .slice ua un uc] 29)) := ((Below.refl _ _).alloc (Nat.le_refl _) _).alloc (by simp) _
  have hk1 : ((w.alloc (Obj.cells #[.int .i64 S, .slice va vn vc] 29)).alloc (Obj.cells #[.int .i64 T, .slice ua un uc] 29)).heap[w.heap.size]? = some (Obj.cells #[.int .i64 S, .slice va vn vc] 29) := by
    rw [Below.heap_alloc _ _ _ (by simp)]; exact heap_alloc_new w _
  have hk2 : ((w.alloc (Obj.cells #[.int .i64 S, .slice va vn vc] 29)).alloc (Obj.cells #[.int .i64 T, .slice ua un uc] 29)).heap[w.heap.size + 1]? = some (Obj.cells #[.int .i64 T, .slice ua un uc] 29) := by
    have := heap_alloc_new (w.alloc (Obj.cells #[.int .i64 S, .slice va vn vc] 29)) (Obj.cells #[.int .i64 T, .slice ua un uc] 29); simpa using this
  obtain ⟨W0, e0⟩ : ∃ W0, W0 = (w.alloc (Obj.cells #[.int .i64 S, .slice va vn vc] 29)).alloc (Obj.cells #[.int .i64 T, .slice ua un uc] 29) := ⟨_, rfl⟩
  rw [← e0] at hB hk1 hk2
  have HB := Lib.hid hB
  have HK := Lib.hid (And.intro hk1 hk2)
  clear h1 h2 hB hk1 hk2
  go_enter Try.func4, Try.ntmps4
  go_wp2_with fail
  rw [← e0]
  clear e0
  refine (HFit.out _).mono ?_
  rintro e w1 ⟨rfl, hb1⟩
  have hS : ∀ wx, Below w1.heap.size w1 wx → wx.cell? ⟨w.heap.size, 0, none⟩ = some (.int .i64 S) ∧ wx.cell? ⟨w.heap.size, 1, none⟩ = some (.slice va vn vc) ∧ wx.cell? ⟨w.heap.size + 1, 0, none⟩ = some (.int .i64 T) ∧ wx.cell? ⟨w.heap.size + 1, 1, none⟩ = some (.slice ua un uc) ∧ Below w.heap.size w wx := fun wx hx => by
    have h0 := hb1.trans (hx.mono hb1.size)
    have r1 : wx.heap[w.heap.size]? = some (Obj.cells #[.int .i64 S, .slice va vn vc] 29) := by rw [h0.block _ (Array.getElem?_eq_some_iff.1 HK.out.1).1]; exact HK.out.1
    have r2 : wx.heap[w.heap.size + 1]? = some (Obj.cells #[.int .i64 T, .slice ua un uc] 29) := by rw [h0.block _ (Array.getElem?_eq_some_iff.1 HK.out.2).1]; exact HK.out.2
    exact ⟨by rw [cell_of_row _ _ 0 _ 29 (0, 0) r1]; rfl, by rw [cell_of_row _ _ 1 _ 29 (0, 0) r1]; rfl, by rw [cell_of_row _ _ 0 _ 29 (0, 0) r2]; rfl, by rw [cell_of_row _ _ 1 _ 29 (0, 0) r2]; rfl, HB.out.trans (h0.mono HB.out.size)⟩
  have HS := Lib.hid hS
  clear hS hb1
  go_upto_region 3 with fail
  have hcall := Lib.hid ((Below.refl w1.heap.size w1).drew)
  have C1 := Lib.hid (fun (W : World) (h : Below w1.heap.size w1 W) => seed_form S (.slice va vn vc) W (HI1.out.below (HS.out W h).2.2.2.2))
  have C2 := Lib.hid (fun (W : World) (h : Below w1.heap.size w1 W) => seed_form T (.slice ua un uc) W (HI2.out.below (HS.out W h).2.2.2.2))
  have SS := Lib.hid (fun (wx : World) (h : Below w1.heap.size w1 wx) => (⟨(HS.out wx h).1, (HS.out wx h).2.1, (HS.out wx h).2.2.1, (HS.out wx h).2.2.2.1⟩ : wx.cell? ⟨w.heap.size, 0, none⟩ = some (.int .i64 S) ∧ wx.cell? ⟨w.heap.size, 1, none⟩ = some (.slice va vn vc) ∧ wx.cell? ⟨w.heap.size + 1, 0, none⟩ = some (.int .i64 T) ∧ wx.cell? ⟨w.heap.size + 1, 1, none⟩ = some (.slice ua un uc)))
  go_cut [5, 6, 12, 13, 14, 15] (fun s5 s6 s12 s13 s14 s15 wx => ∃ A0 A1 D ps a0 n0 c0 E qs a1 n1 c1, s5 = .pointer (some ⟨A0, 0, none⟩) ∧ s6 = .pointer (some ⟨A1, 0, none⟩) ∧ Hid (Lbl wx A0 D (.slice a0 n0 c0) ps ∧ Lbl wx A1 E (.slice a1 n1 c1) qs ∧ Lab.Fine D ps ∧ Lab.Fine E qs ∧ Below w1.heap.size w1 wx))
  case first =>
    refine wp_region_any (by kernel_rfl) ?_
    refine wpAny_inv (I := fun L a wz => ∃ y5 y6 y12 y13 y14 y15 : Value, a = { tmps := #[.agg #[.int .i64 S, .slice va vn vc], .agg #[.int .i64 T, .slice ua un uc], .pointer (some ⟨w.heap.size, 0, none⟩), .pointer (some ⟨w.heap.size + 1, 0, none⟩), .bool false, y5, y6, undef, undef, undef, .bool true, .bool false, y12, y13, y14, y15, undef, undef, undef, undef, undef, undef, undef, undef, undef, undef, undef, undef, undef, undef, undef, undef, undef, undef, undef, undef, undef, undef, undef, undef, undef, undef, undef, undef, undef, undef, undef, undef, undef, undef, undef, undef, undef, undef, undef, undef, undef, undef, undef, undef, undef, undef, undef, undef, undef, undef, undef, undef, undef], defers := [] } ∧ Hid (L.size = 8 ∧ Below w1.heap.size w1 wz ∧ (L[0]? = some true → y12 = .agg #[.int .i64 S, .slice va vn vc]) ∧ (L[1]? = some true → LV w1 wz Lab.Fine y13) ∧ (L[2]? = some true → y14 = .agg #[.int .i64 T, .slice ua un uc]) ∧ (L[3]? = some true → LV w1 wz Lab.Fine y15) ∧ (L[4]? = some true → AV w1 wz y5) ∧ (L[5]? = some true → AV w1 wz y6) ∧ (L[4]? = some true → L[5]? = some true → y5 ≠ y6) ∧ (L[6]? = some true → SV wz y5 y13) ∧ (L[7]? = some true → SV wz y6 y15) ∧ (L[6]? = some true → (L[4]? = some true ∧ L[1]? = some true)) ∧ (L[7]? = some true → (L[5]? = some true ∧ L[3]? = some true)))) ?step ?fin _ _ _ _ ⟨_, _, _, _, _, _, rfl, Lib.hid ⟨by rfl, Below.drew (Below.refl _ _), gone (by rfl), gone (by rfl), gone (by rfl), gone (by rfl), gone (by rfl), gone (by rfl), gone (by rfl), gone (by rfl), gone (by rfl), gone (by rfl), gone (by rfl)⟩⟩ (by decide)
    case step =>
      intro L a wz i o hI ho hL hdeps K hK
      obtain ⟨y5, y6, y12, y13, y14, y15, rfl, hinv⟩ := hI
      have hi : i < 8 := by have := (Array.getElem?_eq_some_iff.1 ho).1; exact this
      obtain ⟨hN, hbel, z0, z1, z2, z3, z4, z5, z6, z7, z8, z9, z10⟩ := hinv.out
      obtain rfl | rfl | rfl | rfl | rfl | rfl | rfl | rfl : i = 0 ∨ i = 1 ∨ i = 2 ∨ i = 3 ∨ i = 4 ∨ i = 5 ∨ i = 6 ∨ i = 7 := by omega
      · obtain rfl := Option.some.inj ho
        obtain ⟨b0, b1, _⟩ := SS.out wz hbel
        clear ho
        have Z := hinv
        clear hinv hbel hN hdeps z0 z1 z2 z3 z4 z5 z6 z7 z8 z9 z10
        go_simp
        obtain ⟨hN, hbel, z0, z1, z2, z3, z4, z5, z6, z7, z8, z9, z10⟩ := Z.out
        exact hK _ _ ⟨_, _, _, _, _, _, rfl, Lib.hid ⟨by simpa using hN, hbel, fun _ => rfl, fun g0 => (z1 ((set_other (by decide)).symm.trans g0)), fun g0 => (z2 ((set_other (by decide)).symm.trans g0)), fun g0 => (z3 ((set_other (by decide)).symm.trans g0)), fun g0 => (z4 ((set_other (by decide)).symm.trans g0)), fun g0 => (z5 ((set_other (by decide)).symm.trans g0)), fun g0 g1 => (z6 ((set_other (by decide)).symm.trans g0) ((set_other (by decide)).symm.trans g1)), fun g0 => (z7 ((set_other (by decide)).symm.trans g0)), fun g0 => (z8 ((set_other (by decide)).symm.trans g0)), fun g0 => ⟨set_keep (z9 ((set_other (by decide)).symm.trans g0)).1, set_keep (z9 ((set_other (by decide)).symm.trans g0)).2⟩, fun g0 => ⟨set_keep (z10 ((set_other (by decide)).symm.trans g0)).1, set_keep (z10 ((set_other (by decide)).symm.trans g0)).2⟩⟩⟩
      · obtain rfl := Option.some.inj ho
        have e0 := z0 (dep (by simp [Region.binds] at hdeps ⊢; simp [hdeps]))
        subst e0
        have CC := Lib.hid (C1.out wz hbel)
        have Z := hinv
        clear hinv ho hbel hN hdeps z0 z1 z2 z3 z4 z5 z6 z7 z8 z9 z10
        go_simp
        refine CC.out.mono ?_
        rintro e wq ⟨D, a, n, c, ps, rfl, hg, how, hb'⟩
        obtain ⟨hN, hbel, z0, z1, z2, z3, z4, z5, z6, z7, z8, z9, z10⟩ := Z.out
        exact hK _ _ ⟨_, _, _, _, _, _, rfl, Lib.hid ⟨by simpa using hN, hbel.trans (hb'.mono hbel.size), fun g0 => (z0 ((set_other (by decide)).symm.trans g0)), fun _ => ⟨D, a, n, c, ps, rfl, hg, owns_mono how hbel.size⟩, fun g0 => (z2 ((set_other (by decide)).symm.trans g0)), fun g0 => (z3 ((set_other (by decide)).symm.trans g0)).below hb', fun g0 => (z4 ((set_other (by decide)).symm.trans g0)).below hb', fun g0 => (z5 ((set_other (by decide)).symm.trans g0)).below hb', fun g0 g1 => (z6 ((set_other (by decide)).symm.trans g0) ((set_other (by decide)).symm.trans g1)), fun g0 => not_done hL (z9 ((set_other (by decide)).symm.trans g0)).2, fun g0 => (z8 ((set_other (by decide)).symm.trans g0)).below hb', fun g0 => ⟨set_keep (z9 ((set_other (by decide)).symm.trans g0)).1, set_keep (z9 ((set_other (by decide)).symm.trans g0)).2⟩, fun g0 => ⟨set_keep (z10 ((set_other (by decide)).symm.trans g0)).1, set_keep (z10 ((set_other (by decide)).symm.trans g0)).2⟩⟩⟩
      · obtain rfl := Option.some.inj ho
        obtain ⟨_, _, b0, b1⟩ := SS.out wz hbel
        clear ho
        have Z := hinv
        clear hinv hbel hN hdeps z0 z1 z2 z3 z4 z5 z6 z7 z8 z9 z10
        go_simp
        obtain ⟨hN, hbel, z0, z1, z2, z3, z4, z5, z6, z7, z8, z9, z10⟩ := Z.out
        exact hK _ _ ⟨_, _, _, _, _, _, rfl, Lib.hid ⟨by simpa using hN, hbel, fun g0 => (z0 ((set_other (by decide)).symm.trans g0)), fun g0 => (z1 ((set_other (by decide)).symm.trans g0)), fun _ => rfl, fun g0 => (z3 ((set_other (by decide)).symm.trans g0)), fun g0 => (z4 ((set_other (by decide)).symm.trans g0)), fun g0 => (z5 ((set_other (by decide)).symm.trans g0)), fun g0 g1 => (z6 ((set_other (by decide)).symm.trans g0) ((set_other (by decide)).symm.trans g1)), fun g0 => (z7 ((set_other (by decide)).symm.trans g0)), fun g0 => (z8 ((set_other (by decide)).symm.trans g0)), fun g0 => ⟨set_keep (z9 ((set_other (by decide)).symm.trans g0)).1, set_keep (z9 ((set_other (by decide)).symm.trans g0)).2⟩, fun g0 => ⟨set_keep (z10 ((set_other (by decide)).symm.trans g0)).1, set_keep (z10 ((set_other (by decide)).symm.trans g0)).2⟩⟩⟩
      · obtain rfl := Option.some.inj ho
        have e2 := z2 (dep (by simp [Region.binds] at hdeps ⊢; simp [hdeps]))
        subst e2
        have CC := Lib.hid (C2.out wz hbel)
        have Z := hinv
        clear hinv ho hbel hN hdeps z0 z1 z2 z3 z4 z5 z6 z7 z8 z9 z10
        go_simp
        refine CC.out.mono ?_
        rintro e wq ⟨D, a, n, c, ps, rfl, hg, how, hb'⟩
        obtain ⟨hN, hbel, z0, z1, z2, z3, z4, z5, z6, z7, z8, z9, z10⟩ := Z.out
        exact hK _ _ ⟨_, _, _, _, _, _, rfl, Lib.hid ⟨by simpa using hN, hbel.trans (hb'.mono hbel.size), fun g0 => (z0 ((set_other (by decide)).symm.trans g0)), fun g0 => (z1 ((set_other (by decide)).symm.trans g0)).below hb', fun g0 => (z2 ((set_other (by decide)).symm.trans g0)), fun _ => ⟨D, a, n, c, ps, rfl, hg, owns_mono how hbel.size⟩, fun g0 => (z4 ((set_other (by decide)).symm.trans g0)).below hb', fun g0 => (z5 ((set_other (by decide)).symm.trans g0)).below hb', fun g0 g1 => (z6 ((set_other (by decide)).symm.trans g0) ((set_other (by decide)).symm.trans g1)), fun g0 => (z7 ((set_other (by decide)).symm.trans g0)).below hb', fun g0 => not_done hL (z10 ((set_other (by decide)).symm.trans g0)).2, fun g0 => ⟨set_keep (z9 ((set_other (by decide)).symm.trans g0)).1, set_keep (z9 ((set_other (by decide)).symm.trans g0)).2⟩, fun g0 => ⟨set_keep (z10 ((set_other (by decide)).symm.trans g0)).1, set_keep (z10 ((set_other (by decide)).symm.trans g0)).2⟩⟩⟩
      · obtain rfl := Option.some.inj ho
        have Z := hinv
        clear hinv ho hbel hN hdeps z0 z1 z2 z3 z4 z5 z6 z7 z8 z9 z10
        go_simp
        obtain ⟨hN, hbel, z0, z1, z2, z3, z4, z5, z6, z7, z8, z9, z10⟩ := Z.out
        have hb' := below_alloc1 wz (Obj.cells #[.int .i64 0, .slice none 0 0] 24)
        exact hK _ _ ⟨_, _, _, _, _, _, rfl, Lib.hid ⟨by simpa using hN, hbel.trans (hb'.mono hbel.size), fun g0 => (z0 ((set_other (by decide)).symm.trans g0)), fun g0 => (z1 ((set_other (by decide)).symm.trans g0)).below hb', fun g0 => (z2 ((set_other (by decide)).symm.trans g0)), fun g0 => (z3 ((set_other (by decide)).symm.trans g0)).below hb', fun _ => AV.new _ _ _ _ hbel.size, fun g0 => (z5 ((set_other (by decide)).symm.trans g0)).below hb', fun g0 g1 => ((z5 ((set_other (by decide)).symm.trans g1)).ne).symm, fun g0 => not_done hL (z9 ((set_other (by decide)).symm.trans g0)).1, fun g0 => (z8 ((set_other (by decide)).symm.trans g0)).below hb', fun g0 => ⟨set_keep (z9 ((set_other (by decide)).symm.trans g0)).1, set_keep (z9 ((set_other (by decide)).symm.trans g0)).2⟩, fun g0 => ⟨set_keep (z10 ((set_other (by decide)).symm.trans g0)).1, set_keep (z10 ((set_other (by decide)).symm.trans g0)).2⟩⟩⟩
      · obtain rfl := Option.some.inj ho
        have Z := hinv
        clear hinv ho hbel hN hdeps z0 z1 z2 z3 z4 z5 z6 z7 z8 z9 z10
        go_simp
        obtain ⟨hN, hbel, z0, z1, z2, z3, z4, z5, z6, z7, z8, z9, z10⟩ := Z.out
        have hb' := below_alloc1 wz (Obj.cells #[.int .i64 0, .slice none 0 0] 24)
        exact hK _ _ ⟨_, _, _, _, _, _, rfl, Lib.hid ⟨by simpa using hN, hbel.trans (hb'.mono hbel.size), fun g0 => (z0 ((set_other (by decide)).symm.trans g0)), fun g0 => (z1 ((set_other (by decide)).symm.trans g0)).below hb', fun g0 => (z2 ((set_other (by decide)).symm.trans g0)), fun g0 => (z3 ((set_other (by decide)).symm.trans g0)).below hb', fun g0 => (z4 ((set_other (by decide)).symm.trans g0)).below hb', fun _ => AV.new _ _ _ _ hbel.size, fun g0 g1 => (z4 ((set_other (by decide)).symm.trans g0)).ne, fun g0 => (z7 ((set_other (by decide)).symm.trans g0)).below hb', fun g0 => not_done hL (z10 ((set_other (by decide)).symm.trans g0)).1, fun g0 => ⟨set_keep (z9 ((set_other (by decide)).symm.trans g0)).1, set_keep (z9 ((set_other (by decide)).symm.trans g0)).2⟩, fun g0 => ⟨set_keep (z10 ((set_other (by decide)).symm.trans g0)).1, set_keep (z10 ((set_other (by decide)).symm.trans g0)).2⟩⟩⟩
      · obtain rfl := Option.some.inj ho
        have hds : L[4]? = some true ∧ L[5]? = some true ∧ L[1]? = some true := by
          simp [Region.binds] at hdeps
          refine ⟨?_, ?_, ?_⟩ <;> (refine dep ?_; simp [hdeps])
        obtain ⟨d4, d5, d1⟩ := hds
        obtain ⟨A0, hA1, hA2, x0, u0, hA3⟩ := z4 d4
        obtain ⟨D, a, n, c, ps, hc1, hc2, hc3⟩ := z1 d1
        subst hA1
        subst hc1
        obtain ⟨s0, s1, s2, s3, s4, _⟩ := old2 wz A0 24 _ _ (.int .i64 D) (.slice a n c) hA3
        have S4 := Lib.hid s4
        have HA3 := Lib.hid hA3
        have HA2 := Lib.hid hA2
        have Z := hinv
        clear hinv ho hbel hN hdeps s4 hA2 hA3 hc2 hc3 z0 z1 z2 z3 z4 z5 z6 z7 z8 z9 z10
        go_simp
        obtain ⟨hN, hbel, z0, z1, z2, z3, z4, z5, z6, z7, z8, z9, z10⟩ := Z.out
        have hA4 := heap_setCell_same wz A0 0 _ 24 (.int .i64 D) HA3.out
        simp only [List.setIfInBounds_toArray, List.set_cons_zero] at hA4
        exact hK _ _ ⟨_, _, _, _, _, _, rfl, Lib.hid ⟨by simpa using hN, (hbel.setCell (p := ⟨A0, 0, none⟩) HA2.out _).setCell (p := ⟨A0, 1, none⟩) HA2.out _, fun g0 => (z0 ((set_other (by decide)).symm.trans g0)), fun g0 => ((z1 ((set_other (by decide)).symm.trans g0)).set HA3.out).set hA4, fun g0 => (z2 ((set_other (by decide)).symm.trans g0)), fun g0 => ((z3 ((set_other (by decide)).symm.trans g0)).set HA3.out).set hA4, fun _ => ⟨A0, rfl, HA2.out, _, _, S4.out⟩, fun g0 => ((z5 ((set_other (by decide)).symm.trans g0)).set ((z6 d4 d5)).symm).set ((z6 d4 d5)).symm, fun g0 g1 => (z6 ((set_other (by decide)).symm.trans g0) ((set_other (by decide)).symm.trans g1)), fun _ => ⟨A0, D, .slice a n c, rfl, rfl, S4.out⟩, fun g0 => ((z8 ((set_other (by decide)).symm.trans g0)).set ((z6 d4 d5)).symm).set ((z6 d4 d5)).symm, fun _ => ⟨set_keep d4, set_keep d1⟩, fun g0 => ⟨set_keep (z10 ((set_other (by decide)).symm.trans g0)).1, set_keep (z10 ((set_other (by decide)).symm.trans g0)).2⟩⟩⟩
      · obtain rfl := Option.some.inj ho
        have hds : L[5]? = some true ∧ L[4]? = some true ∧ L[3]? = some true := by
          simp [Region.binds] at hdeps
          refine ⟨?_, ?_, ?_⟩ <;> (refine dep ?_; simp [hdeps])
        obtain ⟨d5, d4, d3⟩ := hds
        obtain ⟨A0, hA1, hA2, x0, u0, hA3⟩ := z5 d5
        obtain ⟨D, a, n, c, ps, hc1, hc2, hc3⟩ := z3 d3
        subst hA1
        subst hc1
        obtain ⟨s0, s1, s2, s3, s4, _⟩ := old2 wz A0 24 _ _ (.int .i64 D) (.slice a n c) hA3
        have S4 := Lib.hid s4
        have HA3 := Lib.hid hA3
        have HA2 := Lib.hid hA2
        have Z := hinv
        clear hinv ho hbel hN hdeps s4 hA2 hA3 hc2 hc3 z0 z1 z2 z3 z4 z5 z6 z7 z8 z9 z10
        go_simp
        obtain ⟨hN, hbel, z0, z1, z2, z3, z4, z5, z6, z7, z8, z9, z10⟩ := Z.out
        have hA4 := heap_setCell_same wz A0 0 _ 24 (.int .i64 D) HA3.out
        simp only [List.setIfInBounds_toArray, List.set_cons_zero] at hA4
        exact hK _ _ ⟨_, _, _, _, _, _, rfl, Lib.hid ⟨by simpa using hN, (hbel.setCell (p := ⟨A0, 0, none⟩) HA2.out _).setCell (p := ⟨A0, 1, none⟩) HA2.out _, fun g0 => (z0 ((set_other (by decide)).symm.trans g0)), fun g0 => ((z1 ((set_other (by decide)).symm.trans g0)).set HA3.out).set hA4, fun g0 => (z2 ((set_other (by decide)).symm.trans g0)), fun g0 => ((z3 ((set_other (by decide)).symm.trans g0)).set HA3.out).set hA4, fun g0 => ((z4 ((set_other (by decide)).symm.trans g0)).set (z6 d4 d5)).set (z6 d4 d5), fun _ => ⟨A0, rfl, HA2.out, _, _, S4.out⟩, fun g0 g1 => (z6 ((set_other (by decide)).symm.trans g0) ((set_other (by decide)).symm.trans g1)), fun g0 => ((z7 ((set_other (by decide)).symm.trans g0)).set (z6 d4 d5)).set (z6 d4 d5), fun _ => ⟨A0, D, .slice a n c, rfl, rfl, S4.out⟩, fun g0 => ⟨set_keep (z9 ((set_other (by decide)).symm.trans g0)).1, set_keep (z9 ((set_other (by decide)).symm.trans g0)).2⟩, fun _ => ⟨set_keep d5, set_keep d3⟩⟩⟩
    case fin =>
      intro L a wz hI hr
      obtain ⟨y5, y6, y12, y13, y14, y15, rfl, hinv⟩ := hI
      obtain ⟨hN, hbel, z0, z1, z2, z3, z4, z5, z6, z7, z8, z9, z10⟩ := hinv.out
      have f0 : L[0]? = some true := by
        cases hb : L[0]? with
        | none => have := (Array.getElem?_eq_none_iff.1 hb); omega
        | some b =>
          cases b with
          | true => rfl
          | false =>
            exact (ready_nil hr hb (by rfl) (by simp [Region.binds])).elim
      have f1 : L[1]? = some true := by
        cases hb : L[1]? with
        | none => have := (Array.getElem?_eq_none_iff.1 hb); omega
        | some b =>
          cases b with
          | true => rfl
          | false =>
            exact (ready_nil hr hb (by rfl) (by simp [Region.binds, f0])).elim
      have f2 : L[2]? = some true := by
        cases hb : L[2]? with
        | none => have := (Array.getElem?_eq_none_iff.1 hb); omega
        | some b =>
          cases b with
          | true => rfl
          | false =>
            exact (ready_nil hr hb (by rfl) (by simp [Region.binds, f0, f1])).elim
      have f3 : L[3]? = some true := by
        cases hb : L[3]? with
        | none => have := (Array.getElem?_eq_none_iff.1 hb); omega
        | some b =>
          cases b with
          | true => rfl
          | false =>
            exact (ready_nil hr hb (by rfl) (by simp [Region.binds, f0, f1, f2])).elim
      have f4 : L[4]? = some true := by
        cases hb : L[4]? with
        | none => have := (Array.getElem?_eq_none_iff.1 hb); omega
        | some b =>
          cases b with
          | true => rfl
          | false =>
            exact (ready_nil hr hb (by rfl) (by simp [Region.binds, f0, f1, f2, f3])).elim
      have f5 : L[5]? = some true := by
        cases hb : L[5]? with
        | none => have := (Array.getElem?_eq_none_iff.1 hb); omega
        | some b =>
          cases b with
          | true => rfl
          | false =>
            exact (ready_nil hr hb (by rfl) (by simp [Region.binds, f0, f1, f2, f3, f4])).elim
      have f6 : L[6]? = some true := by
        cases hb : L[6]? with
        | none => have := (Array.getElem?_eq_none_iff.1 hb); omega
        | some b =>
          cases b with
          | true => rfl
          | false =>
            exact (ready_nil hr hb (by rfl) (by simp [Region.binds, f0, f1, f2, f3, f4, f5])).elim
      have f7 : L[7]? = some true := by
        cases hb : L[7]? with
        | none => have := (Array.getElem?_eq_none_iff.1 hb); omega
        | some b =>
          cases b with
          | true => rfl
          | false =>
            exact (ready_nil hr hb (by rfl) (by simp [Region.binds, f0, f1, f2, f3, f4, f5, f6])).elim
      obtain ⟨A0, D0, v0, hp0, hy0, hh0⟩ := z7 f6
      obtain ⟨D0', a0, n0, c0, ps0, hz0, hg0, ho0⟩ := z1 f1
      rw [hy0] at hz0
      obtain ⟨rfl, rfl⟩ : D0 = D0' ∧ v0 = .slice a0 n0 c0 := by simpa using hz0
      obtain ⟨A1, D1, v1, hp1, hy1, hh1⟩ := z8 f7
      obtain ⟨D1', a1, n1, c1, ps1, hz1, hg1, ho1⟩ := z3 f3
      rw [hy1] at hz1
      obtain ⟨rfl, rfl⟩ : D1 = D1' ∧ v1 = .slice a1 n1 c1 := by simpa using hz1
      subst hp0 hp1
      have HF := Lib.hid (show Lbl wz A0 D0 (.slice a0 n0 c0) ps0 ∧ Lbl wz A1 D1 (.slice a1 n1 c1) ps1 ∧ Lab.Fine D0 ps0 ∧ Lab.Fine D1 ps1 ∧ Below w1.heap.size w1 wz from
        ⟨⟨hh0, rc_of_owns ho0 (by have := hg0.2.2.2.2; omega)⟩, ⟨hh1, rc_of_owns ho1 (by have := hg1.2.2.2.2; omega)⟩, hg0, hg1, hbel⟩)
      go_wp2_with fail
      go_meet
      exact ⟨_, _, _, _, _, _, _, _, _, _, _, _, rfl, rfl, HF⟩
  case rest =>
    obtain ⟨A0, A1, D, ps, a0, n0, c0, E, qs, a1, n1, c1, rfl, rfl, HF⟩ := hcut
    have HBw := Lib.hid (HS.out w1 (Below.refl _ _)).2.2.2.2
    clear HS SS C1 C2 hcall HI1 HI2 HK HB HFit
    obtain ⟨X, rfl⟩ : ∃ X, X = wc := ⟨_, rfl⟩
    obtain ⟨L1, L2, F1, F2, hbx⟩ := HF.out
    have HX := Lib.hid (HBw.out.trans (hbx.mono HBw.out.size))
    have O1 := Lib.hid F1.1
    have O2 := Lib.hid F2.1
    have l1 := F1.2.2.2.2
    have l2 := F2.2.2.2.2
    obtain ⟨MJ, eMJ⟩ : ∃ M, max D E = M := ⟨_, rfl⟩
    obtain ⟨ZJ, eZJ⟩ : ∃ Z, Lab.jn D ps E qs = Z := ⟨_, rfl⟩
    obtain ⟨MM, eMM⟩ : ∃ M, min D E = M := ⟨_, rfl⟩
    obtain ⟨ZM, eZM⟩ : ∃ Z, Lab.mt D ps E qs = Z := ⟨_, rfl⟩
    have lJ : ZJ.length ≤ 24 := by rw [← eZJ]; have := Lab.jn_len D ps E qs; omega
    have lM : ZM.length ≤ 24 := by rw [← eZM]; have := Lab.mt_len D ps E qs; omega
    have SC := Lib.hid (fun (wx : World) (h : Below X.heap.size X wx) => (⟨(L1.below h).cells.1, (L1.below h).cells.2, (L2.below h).cells.1, (L2.below h).cells.2⟩ : wx.cell? ⟨A0, 0, none⟩ = some (.int .i64 D) ∧ wx.cell? ⟨A0, 1, none⟩ = some (.slice a0 n0 c0) ∧ wx.cell? ⟨A1, 0, none⟩ = some (.int .i64 E) ∧ wx.cell? ⟨A1, 1, none⟩ = some (.slice a1 n1 c1)))
    have CJ := Lib.hid (fun (wx : World) (h : Below X.heap.size X wx) => lg5 (by rw [← eMJ, ← eZJ]; exact join_c O1.out O2.out (L1.below h).2 (L2.below h).2 (by omega) : Calls Try.prog 15 #[.agg #[.int .i64 D, .slice a0 n0 c0], .agg #[.int .i64 E, .slice a1 n1 c1]] wx (LG wx MJ ZJ)))
    have CM := Lib.hid (fun (wx : World) (h : Below X.heap.size X wx) => lg5 (by rw [← eMM, ← eZM]; exact meet_c O1.out O2.out (L1.below h).2 (L2.below h).2 (by omega) : Calls Try.prog 16 #[.agg #[.int .i64 D, .slice a0 n0 c0], .agg #[.int .i64 E, .slice a1 n1 c1]] wx (LG wx MM ZM)))
    have EQ := Lib.hid (And.intro eMJ (And.intro eZJ (And.intro eMM eZM)))
    have HL := Lib.hid (And.intro L1 L2)
    have HF1 := Lib.hid (And.intro F1 F2)
    clear eMJ eZJ eMM eZM L1 L2 F1 F2 hbx HF
    go_upto_region 4 with fail
    go_cut [7, 8, 16, 17, 18, 19, 20, 21] (fun s7 s8 s16 s17 s18 s19 s20 s21 wx => ∃ A2 A3 a2 n2 c2 a3 n3 c3, s7 = .pointer (some ⟨A2, 0, none⟩) ∧ s8 = .pointer (some ⟨A3, 0, none⟩) ∧ Hid (Lbl wx A2 MJ (.slice a2 n2 c2) ZJ ∧ Lbl wx A3 MM (.slice a3 n3 c3) ZM ∧ Below X.heap.size X wx))
    case first =>
      refine wp_region_any (by kernel_rfl) ?_
      refine wpAny_inv (I := fun L a wz => ∃ y7 y8 y16 y17 y18 y19 y20 y21 : Value, a = { tmps := #[.agg #[.int .i64 S, .slice va vn vc], .agg #[.int .i64 T, .slice ua un uc], .pointer (some ⟨w.heap.size, 0, none⟩), .pointer (some ⟨w.heap.size + 1, 0, none⟩), .bool false, .pointer (some ⟨A0, 0, none⟩), .pointer (some ⟨A1, 0, none⟩), y7, y8, undef, u10, u11, u12, u13, u14, u15, y16, y17, y18, y19, y20, y21, u22, u23, u24, u25, u26, u27, u28, u29, u30, u31, u32, u33, u34, u35, u36, u37, u38, u39, u40, u41, u42, u43, u44, u45, u46, u47, u48, u49, u50, u51, u52, u53, u54, u55, u56, u57, u58, u59, u60, u61, u62, u63, u64, u65, u66, u67, u68], defers := [] } ∧ Hid (L.size = 10 ∧ Below X.heap.size X wz ∧ (L[0]? = some true → y16 = .agg #[.int .i64 D, .slice a0 n0 c0]) ∧ (L[1]? = some true → y17 = .agg #[.int .i64 E, .slice a1 n1 c1]) ∧ (L[2]? = some true → LV X wz (fun d z => d = MJ ∧ z = ZJ) y18) ∧ (L[3]? = some true → y19 = .agg #[.int .i64 D, .slice a0 n0 c0]) ∧ (L[4]? = some true → y20 = .agg #[.int .i64 E, .slice a1 n1 c1]) ∧ (L[5]? = some true → LV X wz (fun d z => d = MM ∧ z = ZM) y21) ∧ (L[6]? = some true → AV X wz y7) ∧ (L[7]? = some true → AV X wz y8) ∧ (L[6]? = some true → L[7]? = some true → y7 ≠ y8) ∧ (L[8]? = some true → SV wz y7 y18) ∧ (L[9]? = some true → SV wz y8 y21) ∧ (L[8]? = some true → (L[6]? = some true ∧ L[2]? = some true)) ∧ (L[9]? = some true → (L[7]? = some true ∧ L[5]? = some true)))) ?step ?fin _ _ _ _ ⟨_, _, _, _, _, _, _, _, rfl, Lib.hid ⟨by rfl, Below.drew (Below.refl _ _), gone (by rfl), gone (by rfl), gone (by rfl), gone (by rfl), gone (by rfl), gone (by rfl), gone (by rfl), gone (by rfl), gone (by rfl), gone (by rfl), gone (by rfl), gone (by rfl), gone (by rfl)⟩⟩ (by decide)
      case step =>
        intro L a wz i o hI ho hL hdeps K hK
        obtain ⟨y7, y8, y16, y17, y18, y19, y20, y21, rfl, hinv⟩ := hI
        have hi : i < 10 := by have := (Array.getElem?_eq_some_iff.1 ho).1; exact this
        obtain ⟨hN, hbel, z0, z1, z2, z3, z4, z5, z6, z7, z8, z9, z10, z11, z12⟩ := hinv.out
        obtain rfl | rfl | rfl | rfl | rfl | rfl | rfl | rfl | rfl | rfl : i = 0 ∨ i = 1 ∨ i = 2 ∨ i = 3 ∨ i = 4 ∨ i = 5 ∨ i = 6 ∨ i = 7 ∨ i = 8 ∨ i = 9 := by omega
        · obtain rfl := Option.some.inj ho
          obtain ⟨b0, b1, _⟩ := SC.out wz hbel
          clear ho
          have Z := hinv
          clear hinv hbel hN hdeps z0 z1 z2 z3 z4 z5 z6 z7 z8 z9 z10 z11 z12
          go_simp
          obtain ⟨hN, hbel, z0, z1, z2, z3, z4, z5, z6, z7, z8, z9, z10, z11, z12⟩ := Z.out
          exact hK _ _ ⟨_, _, _, _, _, _, _, _, rfl, Lib.hid ⟨by simpa using hN, hbel, fun _ => rfl, fun g0 => (z1 ((set_other (by decide)).symm.trans g0)), fun g0 => (z2 ((set_other (by decide)).symm.trans g0)), fun g0 => (z3 ((set_other (by decide)).symm.trans g0)), fun g0 => (z4 ((set_other (by decide)).symm.trans g0)), fun g0 => (z5 ((set_other (by decide)).symm.trans g0)), fun g0 => (z6 ((set_other (by decide)).symm.trans g0)), fun g0 => (z7 ((set_other (by decide)).symm.trans g0)), fun g0 g1 => (z8 ((set_other (by decide)).symm.trans g0) ((set_other (by decide)).symm.trans g1)), fun g0 => (z9 ((set_other (by decide)).symm.trans g0)), fun g0 => (z10 ((set_other (by decide)).symm.trans g0)), fun g0 => ⟨set_keep (z11 ((set_other (by decide)).symm.trans g0)).1, set_keep (z11 ((set_other (by decide)).symm.trans g0)).2⟩, fun g0 => ⟨set_keep (z12 ((set_other (by decide)).symm.trans g0)).1, set_keep (z12 ((set_other (by decide)).symm.trans g0)).2⟩⟩⟩
        · obtain rfl := Option.some.inj ho
          obtain ⟨_, _, b0, b1⟩ := SC.out wz hbel
          clear ho
          have Z := hinv
          clear hinv hbel hN hdeps z0 z1 z2 z3 z4 z5 z6 z7 z8 z9 z10 z11 z12
          go_simp
          obtain ⟨hN, hbel, z0, z1, z2, z3, z4, z5, z6, z7, z8, z9, z10, z11, z12⟩ := Z.out
          exact hK _ _ ⟨_, _, _, _, _, _, _, _, rfl, Lib.hid ⟨by simpa using hN, hbel, fun g0 => (z0 ((set_other (by decide)).symm.trans g0)), fun _ => rfl, fun g0 => (z2 ((set_other (by decide)).symm.trans g0)), fun g0 => (z3 ((set_other (by decide)).symm.trans g0)), fun g0 => (z4 ((set_other (by decide)).symm.trans g0)), fun g0 => (z5 ((set_other (by decide)).symm.trans g0)), fun g0 => (z6 ((set_other (by decide)).symm.trans g0)), fun g0 => (z7 ((set_other (by decide)).symm.trans g0)), fun g0 g1 => (z8 ((set_other (by decide)).symm.trans g0) ((set_other (by decide)).symm.trans g1)), fun g0 => (z9 ((set_other (by decide)).symm.trans g0)), fun g0 => (z10 ((set_other (by decide)).symm.trans g0)), fun g0 => ⟨set_keep (z11 ((set_other (by decide)).symm.trans g0)).1, set_keep (z11 ((set_other (by decide)).symm.trans g0)).2⟩, fun g0 => ⟨set_keep (z12 ((set_other (by decide)).symm.trans g0)).1, set_keep (z12 ((set_other (by decide)).symm.trans g0)).2⟩⟩⟩
        · obtain rfl := Option.some.inj ho
          have e0 := z0 (dep (by simp [Region.binds] at hdeps ⊢; simp [hdeps]))
          subst e0
          have e1 := z1 (dep (by simp [Region.binds] at hdeps ⊢; simp [hdeps]))
          subst e1
          have CC := Lib.hid (CJ.out wz hbel)
          have Z := hinv
          clear hinv ho hbel hN hdeps z0 z1 z2 z3 z4 z5 z6 z7 z8 z9 z10 z11 z12
          go_simp
          refine CC.out.mono ?_
          rintro e wq ⟨D, a, n, c, ps, rfl, hg, how, hb'⟩
          obtain ⟨hN, hbel, z0, z1, z2, z3, z4, z5, z6, z7, z8, z9, z10, z11, z12⟩ := Z.out
          exact hK _ _ ⟨_, _, _, _, _, _, _, _, rfl, Lib.hid ⟨by simpa using hN, hbel.trans (hb'.mono hbel.size), fun g0 => (z0 ((set_other (by decide)).symm.trans g0)), fun g0 => (z1 ((set_other (by decide)).symm.trans g0)), fun _ => ⟨D, a, n, c, ps, rfl, hg, owns_mono how hbel.size⟩, fun g0 => (z3 ((set_other (by decide)).symm.trans g0)), fun g0 => (z4 ((set_other (by decide)).symm.trans g0)), fun g0 => (z5 ((set_other (by decide)).symm.trans g0)).below hb', fun g0 => (z6 ((set_other (by decide)).symm.trans g0)).below hb', fun g0 => (z7 ((set_other (by decide)).symm.trans g0)).below hb', fun g0 g1 => (z8 ((set_other (by decide)).symm.trans g0) ((set_other (by decide)).symm.trans g1)), fun g0 => not_done hL (z11 ((set_other (by decide)).symm.trans g0)).2, fun g0 => (z10 ((set_other (by decide)).symm.trans g0)).below hb', fun g0 => ⟨set_keep (z11 ((set_other (by decide)).symm.trans g0)).1, set_keep (z11 ((set_other (by decide)).symm.trans g0)).2⟩, fun g0 => ⟨set_keep (z12 ((set_other (by decide)).symm.trans g0)).1, set_keep (z12 ((set_other (by decide)).symm.trans g0)).2⟩⟩⟩
        · obtain rfl := Option.some.inj ho
          obtain ⟨b0, b1, _⟩ := SC.out wz hbel
          clear ho
          have Z := hinv
          clear hinv hbel hN hdeps z0 z1 z2 z3 z4 z5 z6 z7 z8 z9 z10 z11 z12
          go_simp
          obtain ⟨hN, hbel, z0, z1, z2, z3, z4, z5, z6, z7, z8, z9, z10, z11, z12⟩ := Z.out
          exact hK _ _ ⟨_, _, _, _, _, _, _, _, rfl, Lib.hid ⟨by simpa using hN, hbel, fun g0 => (z0 ((set_other (by decide)).symm.trans g0)), fun g0 => (z1 ((set_other (by decide)).symm.trans g0)), fun g0 => (z2 ((set_other (by decide)).symm.trans g0)), fun _ => rfl, fun g0 => (z4 ((set_other (by decide)).symm.trans g0)), fun g0 => (z5 ((set_other (by decide)).symm.trans g0)), fun g0 => (z6 ((set_other (by decide)).symm.trans g0)), fun g0 => (z7 ((set_other (by decide)).symm.trans g0)), fun g0 g1 => (z8 ((set_other (by decide)).symm.trans g0) ((set_other (by decide)).symm.trans g1)), fun g0 => (z9 ((set_other (by decide)).symm.trans g0)), fun g0 => (z10 ((set_other (by decide)).symm.trans g0)), fun g0 => ⟨set_keep (z11 ((set_other (by decide)).symm.trans g0)).1, set_keep (z11 ((set_other (by decide)).symm.trans g0)).2⟩, fun g0 => ⟨set_keep (z12 ((set_other (by decide)).symm.trans g0)).1, set_keep (z12 ((set_other (by decide)).symm.trans g0)).2⟩⟩⟩
        · obtain rfl := Option.some.inj ho
          obtain ⟨_, _, b0, b1⟩ := SC.out wz hbel
          clear ho
          have Z := hinv
          clear hinv hbel hN hdeps z0 z1 z2 z3 z4 z5 z6 z7 z8 z9 z10 z11 z12
          go_simp
          obtain ⟨hN, hbel, z0, z1, z2, z3, z4, z5, z6, z7, z8, z9, z10, z11, z12⟩ := Z.out
          exact hK _ _ ⟨_, _, _, _, _, _, _, _, rfl, Lib.hid ⟨by simpa using hN, hbel, fun g0 => (z0 ((set_other (by decide)).symm.trans g0)), fun g0 => (z1 ((set_other (by decide)).symm.trans g0)), fun g0 => (z2 ((set_other (by decide)).symm.trans g0)), fun g0 => (z3 ((set_other (by decide)).symm.trans g0)), fun _ => rfl, fun g0 => (z5 ((set_other (by decide)).symm.trans g0)), fun g0 => (z6 ((set_other (by decide)).symm.trans g0)), fun g0 => (z7 ((set_other (by decide)).symm.trans g0)), fun g0 g1 => (z8 ((set_other (by decide)).symm.trans g0) ((set_other (by decide)).symm.trans g1)), fun g0 => (z9 ((set_other (by decide)).symm.trans g0)), fun g0 => (z10 ((set_other (by decide)).symm.trans g0)), fun g0 => ⟨set_keep (z11 ((set_other (by decide)).symm.trans g0)).1, set_keep (z11 ((set_other (by decide)).symm.trans g0)).2⟩, fun g0 => ⟨set_keep (z12 ((set_other (by decide)).symm.trans g0)).1, set_keep (z12 ((set_other (by decide)).symm.trans g0)).2⟩⟩⟩
        · obtain rfl := Option.some.inj ho
          have e3 := z3 (dep (by simp [Region.binds] at hdeps ⊢; simp [hdeps]))
          subst e3
          have e4 := z4 (dep (by simp [Region.binds] at hdeps ⊢; simp [hdeps]))
          subst e4
          have CC := Lib.hid (CM.out wz hbel)
          have Z := hinv
          clear hinv ho hbel hN hdeps z0 z1 z2 z3 z4 z5 z6 z7 z8 z9 z10 z11 z12
          go_simp
          refine CC.out.mono ?_
          rintro e wq ⟨D, a, n, c, ps, rfl, hg, how, hb'⟩
          obtain ⟨hN, hbel, z0, z1, z2, z3, z4, z5, z6, z7, z8, z9, z10, z11, z12⟩ := Z.out
          exact hK _ _ ⟨_, _, _, _, _, _, _, _, rfl, Lib.hid ⟨by simpa using hN, hbel.trans (hb'.mono hbel.size), fun g0 => (z0 ((set_other (by decide)).symm.trans g0)), fun g0 => (z1 ((set_other (by decide)).symm.trans g0)), fun g0 => (z2 ((set_other (by decide)).symm.trans g0)).below hb', fun g0 => (z3 ((set_other (by decide)).symm.trans g0)), fun g0 => (z4 ((set_other (by decide)).symm.trans g0)), fun _ => ⟨D, a, n, c, ps, rfl, hg, owns_mono how hbel.size⟩, fun g0 => (z6 ((set_other (by decide)).symm.trans g0)).below hb', fun g0 => (z7 ((set_other (by decide)).symm.trans g0)).below hb', fun g0 g1 => (z8 ((set_other (by decide)).symm.trans g0) ((set_other (by decide)).symm.trans g1)), fun g0 => (z9 ((set_other (by decide)).symm.trans g0)).below hb', fun g0 => not_done hL (z12 ((set_other (by decide)).symm.trans g0)).2, fun g0 => ⟨set_keep (z11 ((set_other (by decide)).symm.trans g0)).1, set_keep (z11 ((set_other (by decide)).symm.trans g0)).2⟩, fun g0 => ⟨set_keep (z12 ((set_other (by decide)).symm.trans g0)).1, set_keep (z12 ((set_other (by decide)).symm.trans g0)).2⟩⟩⟩
        · obtain rfl := Option.some.inj ho
          have Z := hinv
          clear hinv ho hbel hN hdeps z0 z1 z2 z3 z4 z5 z6 z7 z8 z9 z10 z11 z12
          go_simp
          obtain ⟨hN, hbel, z0, z1, z2, z3, z4, z5, z6, z7, z8, z9, z10, z11, z12⟩ := Z.out
          have hb' := below_alloc1 wz (Obj.cells #[.int .i64 0, .slice none 0 0] 24)
          exact hK _ _ ⟨_, _, _, _, _, _, _, _, rfl, Lib.hid ⟨by simpa using hN, hbel.trans (hb'.mono hbel.size), fun g0 => (z0 ((set_other (by decide)).symm.trans g0)), fun g0 => (z1 ((set_other (by decide)).symm.trans g0)), fun g0 => (z2 ((set_other (by decide)).symm.trans g0)).below hb', fun g0 => (z3 ((set_other (by decide)).symm.trans g0)), fun g0 => (z4 ((set_other (by decide)).symm.trans g0)), fun g0 => (z5 ((set_other (by decide)).symm.trans g0)).below hb', fun _ => AV.new _ _ _ _ hbel.size, fun g0 => (z7 ((set_other (by decide)).symm.trans g0)).below hb', fun g0 g1 => ((z7 ((set_other (by decide)).symm.trans g1)).ne).symm, fun g0 => not_done hL (z11 ((set_other (by decide)).symm.trans g0)).1, fun g0 => (z10 ((set_other (by decide)).symm.trans g0)).below hb', fun g0 => ⟨set_keep (z11 ((set_other (by decide)).symm.trans g0)).1, set_keep (z11 ((set_other (by decide)).symm.trans g0)).2⟩, fun g0 => ⟨set_keep (z12 ((set_other (by decide)).symm.trans g0)).1, set_keep (z12 ((set_other (by decide)).symm.trans g0)).2⟩⟩⟩
        · obtain rfl := Option.some.inj ho
          have Z := hinv
          clear hinv ho hbel hN hdeps z0 z1 z2 z3 z4 z5 z6 z7 z8 z9 z10 z11 z12
          go_simp
          obtain ⟨hN, hbel, z0, z1, z2, z3, z4, z5, z6, z7, z8, z9, z10, z11, z12⟩ := Z.out
          have hb' := below_alloc1 wz (Obj.cells #[.int .i64 0, .slice none 0 0] 24)
          exact hK _ _ ⟨_, _, _, _, _, _, _, _, rfl, Lib.hid ⟨by simpa using hN, hbel.trans (hb'.mono hbel.size), fun g0 => (z0 ((set_other (by decide)).symm.trans g0)), fun g0 => (z1 ((set_other (by decide)).symm.trans g0)), fun g0 => (z2 ((set_other (by decide)).symm.trans g0)).below hb', fun g0 => (z3 ((set_other (by decide)).symm.trans g0)), fun g0 => (z4 ((set_other (by decide)).symm.trans g0)), fun g0 => (z5 ((set_other (by decide)).symm.trans g0)).below hb', fun g0 => (z6 ((set_other (by decide)).symm.trans g0)).below hb', fun _ => AV.new _ _ _ _ hbel.size, fun g0 g1 => (z6 ((set_other (by decide)).symm.trans g0)).ne, fun g0 => (z9 ((set_other (by decide)).symm.trans g0)).below hb', fun g0 => not_done hL (z12 ((set_other (by decide)).symm.trans g0)).1, fun g0 => ⟨set_keep (z11 ((set_other (by decide)).symm.trans g0)).1, set_keep (z11 ((set_other (by decide)).symm.trans g0)).2⟩, fun g0 => ⟨set_keep (z12 ((set_other (by decide)).symm.trans g0)).1, set_keep (z12 ((set_other (by decide)).symm.trans g0)).2⟩⟩⟩
        · obtain rfl := Option.some.inj ho
          have hds : L[6]? = some true ∧ L[7]? = some true ∧ L[2]? = some true := by
            simp [Region.binds] at hdeps
            refine ⟨?_, ?_, ?_⟩ <;> (refine dep ?_; simp [hdeps])
          obtain ⟨d6, d7, d2⟩ := hds
          obtain ⟨A0, hA1, hA2, x0, u0, hA3⟩ := z6 d6
          obtain ⟨D, a, n, c, ps, hc1, hc2, hc3⟩ := z2 d2
          subst hA1
          subst hc1
          obtain ⟨s0, s1, s2, s3, s4, _⟩ := old2 wz A0 24 _ _ (.int .i64 D) (.slice a n c) hA3
          have S4 := Lib.hid s4
          have HA3 := Lib.hid hA3
          have HA2 := Lib.hid hA2
          have Z := hinv
          clear hinv ho hbel hN hdeps s4 hA2 hA3 hc2 hc3 z0 z1 z2 z3 z4 z5 z6 z7 z8 z9 z10 z11 z12
          go_simp
          obtain ⟨hN, hbel, z0, z1, z2, z3, z4, z5, z6, z7, z8, z9, z10, z11, z12⟩ := Z.out
          have hA4 := heap_setCell_same wz A0 0 _ 24 (.int .i64 D) HA3.out
          simp only [List.setIfInBounds_toArray, List.set_cons_zero] at hA4
          exact hK _ _ ⟨_, _, _, _, _, _, _, _, rfl, Lib.hid ⟨by simpa using hN, (hbel.setCell (p := ⟨A0, 0, none⟩) HA2.out _).setCell (p := ⟨A0, 1, none⟩) HA2.out _, fun g0 => (z0 ((set_other (by decide)).symm.trans g0)), fun g0 => (z1 ((set_other (by decide)).symm.trans g0)), fun g0 => ((z2 ((set_other (by decide)).symm.trans g0)).set HA3.out).set hA4, fun g0 => (z3 ((set_other (by decide)).symm.trans g0)), fun g0 => (z4 ((set_other (by decide)).symm.trans g0)), fun g0 => ((z5 ((set_other (by decide)).symm.trans g0)).set HA3.out).set hA4, fun _ => ⟨A0, rfl, HA2.out, _, _, S4.out⟩, fun g0 => ((z7 ((set_other (by decide)).symm.trans g0)).set ((z8 d6 d7)).symm).set ((z8 d6 d7)).symm, fun g0 g1 => (z8 ((set_other (by decide)).symm.trans g0) ((set_other (by decide)).symm.trans g1)), fun _ => ⟨A0, D, .slice a n c, rfl, rfl, S4.out⟩, fun g0 => ((z10 ((set_other (by decide)).symm.trans g0)).set ((z8 d6 d7)).symm).set ((z8 d6 d7)).symm, fun _ => ⟨set_keep d6, set_keep d2⟩, fun g0 => ⟨set_keep (z12 ((set_other (by decide)).symm.trans g0)).1, set_keep (z12 ((set_other (by decide)).symm.trans g0)).2⟩⟩⟩
        · obtain rfl := Option.some.inj ho
          have hds : L[7]? = some true ∧ L[6]? = some true ∧ L[5]? = some true := by
            simp [Region.binds] at hdeps
            refine ⟨?_, ?_, ?_⟩ <;> (refine dep ?_; simp [hdeps])
          obtain ⟨d7, d6, d5⟩ := hds
          obtain ⟨A0, hA1, hA2, x0, u0, hA3⟩ := z7 d7
          obtain ⟨D, a, n, c, ps, hc1, hc2, hc3⟩ := z5 d5
          subst hA1
          subst hc1
          obtain ⟨s0, s1, s2, s3, s4, _⟩ := old2 wz A0 24 _ _ (.int .i64 D) (.slice a n c) hA3
          have S4 := Lib.hid s4
          have HA3 := Lib.hid hA3
          have HA2 := Lib.hid hA2
          have Z := hinv
          clear hinv ho hbel hN hdeps s4 hA2 hA3 hc2 hc3 z0 z1 z2 z3 z4 z5 z6 z7 z8 z9 z10 z11 z12
          go_simp
          obtain ⟨hN, hbel, z0, z1, z2, z3, z4, z5, z6, z7, z8, z9, z10, z11, z12⟩ := Z.out
          have hA4 := heap_setCell_same wz A0 0 _ 24 (.int .i64 D) HA3.out
          simp only [List.setIfInBounds_toArray, List.set_cons_zero] at hA4
          exact hK _ _ ⟨_, _, _, _, _, _, _, _, rfl, Lib.hid ⟨by simpa using hN, (hbel.setCell (p := ⟨A0, 0, none⟩) HA2.out _).setCell (p := ⟨A0, 1, none⟩) HA2.out _, fun g0 => (z0 ((set_other (by decide)).symm.trans g0)), fun g0 => (z1 ((set_other (by decide)).symm.trans g0)), fun g0 => ((z2 ((set_other (by decide)).symm.trans g0)).set HA3.out).set hA4, fun g0 => (z3 ((set_other (by decide)).symm.trans g0)), fun g0 => (z4 ((set_other (by decide)).symm.trans g0)), fun g0 => ((z5 ((set_other (by decide)).symm.trans g0)).set HA3.out).set hA4, fun g0 => ((z6 ((set_other (by decide)).symm.trans g0)).set (z8 d6 d7)).set (z8 d6 d7), fun _ => ⟨A0, rfl, HA2.out, _, _, S4.out⟩, fun g0 g1 => (z8 ((set_other (by decide)).symm.trans g0) ((set_other (by decide)).symm.trans g1)), fun g0 => ((z9 ((set_other (by decide)).symm.trans g0)).set (z8 d6 d7)).set (z8 d6 d7), fun _ => ⟨A0, D, .slice a n c, rfl, rfl, S4.out⟩, fun g0 => ⟨set_keep (z11 ((set_other (by decide)).symm.trans g0)).1, set_keep (z11 ((set_other (by decide)).symm.trans g0)).2⟩, fun _ => ⟨set_keep d7, set_keep d5⟩⟩⟩
      case fin =>
        intro L a wz hI hr
        obtain ⟨y7, y8, y16, y17, y18, y19, y20, y21, rfl, hinv⟩ := hI
        obtain ⟨hN, hbel, z0, z1, z2, z3, z4, z5, z6, z7, z8, z9, z10, z11, z12⟩ := hinv.out
        have f0 : L[0]? = some true := by
          cases hb : L[0]? with
          | none => have := (Array.getElem?_eq_none_iff.1 hb); omega
          | some b =>
            cases b with
            | true => rfl
            | false =>
              exact (ready_nil hr hb (by rfl) (by simp [Region.binds])).elim
        have f1 : L[1]? = some true := by
          cases hb : L[1]? with
          | none => have := (Array.getElem?_eq_none_iff.1 hb); omega
          | some b =>
            cases b with
            | true => rfl
            | false =>
              exact (ready_nil hr hb (by rfl) (by simp [Region.binds, f0])).elim
        have f2 : L[2]? = some true := by
          cases hb : L[2]? with
          | none => have := (Array.getElem?_eq_none_iff.1 hb); omega
          | some b =>
            cases b with
            | true => rfl
            | false =>
              exact (ready_nil hr hb (by rfl) (by simp [Region.binds, f0, f1])).elim
        have f3 : L[3]? = some true := by
          cases hb : L[3]? with
          | none => have := (Array.getElem?_eq_none_iff.1 hb); omega
          | some b =>
            cases b with
            | true => rfl
            | false =>
              exact (ready_nil hr hb (by rfl) (by simp [Region.binds, f0, f1, f2])).elim
        have f4 : L[4]? = some true := by
          cases hb : L[4]? with
          | none => have := (Array.getElem?_eq_none_iff.1 hb); omega
          | some b =>
            cases b with
            | true => rfl
            | false =>
              exact (ready_nil hr hb (by rfl) (by simp [Region.binds, f0, f1, f2, f3])).elim
        have f5 : L[5]? = some true := by
          cases hb : L[5]? with
          | none => have := (Array.getElem?_eq_none_iff.1 hb); omega
          | some b =>
            cases b with
            | true => rfl
            | false =>
              exact (ready_nil hr hb (by rfl) (by simp [Region.binds, f0, f1, f2, f3, f4])).elim
        have f6 : L[6]? = some true := by
          cases hb : L[6]? with
          | none => have := (Array.getElem?_eq_none_iff.1 hb); omega
          | some b =>
            cases b with
            | true => rfl
            | false =>
              exact (ready_nil hr hb (by rfl) (by simp [Region.binds, f0, f1, f2, f3, f4, f5])).elim
        have f7 : L[7]? = some true := by
          cases hb : L[7]? with
          | none => have := (Array.getElem?_eq_none_iff.1 hb); omega
          | some b =>
            cases b with
            | true => rfl
            | false =>
              exact (ready_nil hr hb (by rfl) (by simp [Region.binds, f0, f1, f2, f3, f4, f5, f6])).elim
        have f8 : L[8]? = some true := by
          cases hb : L[8]? with
          | none => have := (Array.getElem?_eq_none_iff.1 hb); omega
          | some b =>
            cases b with
            | true => rfl
            | false =>
              exact (ready_nil hr hb (by rfl) (by simp [Region.binds, f0, f1, f2, f3, f4, f5, f6, f7])).elim
        have f9 : L[9]? = some true := by
          cases hb : L[9]? with
          | none => have := (Array.getElem?_eq_none_iff.1 hb); omega
          | some b =>
            cases b with
            | true => rfl
            | false =>
              exact (ready_nil hr hb (by rfl) (by simp [Region.binds, f0, f1, f2, f3, f4, f5, f6, f7, f8])).elim
        obtain ⟨A0, D0, v0, hp0, hy0, hh0⟩ := z9 f8
        obtain ⟨D0', a0, n0, c0, ps0, hz0, hg0, ho0⟩ := z2 f2
        rw [hy0] at hz0
        obtain ⟨rfl, rfl⟩ : D0 = D0' ∧ v0 = .slice a0 n0 c0 := by simpa using hz0
        obtain ⟨A1, D1, v1, hp1, hy1, hh1⟩ := z10 f9
        obtain ⟨D1', a1, n1, c1, ps1, hz1, hg1, ho1⟩ := z5 f5
        rw [hy1] at hz1
        obtain ⟨rfl, rfl⟩ : D1 = D1' ∧ v1 = .slice a1 n1 c1 := by simpa using hz1
        obtain ⟨rfl, rfl⟩ := hg0
        obtain ⟨rfl, rfl⟩ := hg1
        subst hp0 hp1
        have HF2 := Lib.hid (show Lbl wz A0 D0 (.slice a0 n0 c0) ps0 ∧ Lbl wz A1 D1 (.slice a1 n1 c1) ps1 ∧ Below X.heap.size X wz from ⟨⟨hh0, rc_of_owns ho0 (by omega)⟩, ⟨hh1, rc_of_owns ho1 (by omega)⟩, hbel⟩)
        go_wp2_with fail
        go_meet
        exact ⟨_, _, _, _, _, _, _, _, rfl, rfl, HF2⟩
    case rest =>
      obtain ⟨A2, A3, a2, n2, c2, a3, n3, c3, rfl, rfl, HF2⟩ := hcut
      obtain ⟨Y, rfl⟩ : ∃ Y, Y = wc := ⟨_, rfl⟩
      obtain ⟨J1, J2, hby⟩ := HF2.out
      obtain ⟨L1, L2⟩ := HL.out
      have O1' := O1.out
      have O2' := O2.out
      have HYw := Lib.hid (HX.out.trans (hby.mono HX.out.size))
      obtain ⟨MU, eMU⟩ : ∃ M, Lab.turn 0 5 D = M := ⟨_, rfl⟩
      obtain ⟨ZU, eZU⟩ : ∃ Z, Lab.tn 0 5 D ps = Z := ⟨_, rfl⟩
      have CU := Lib.hid (by rw [← eMU, ← eZU]; exact raise_c (L1.below hby).2 (by omega) : Calls Try.prog 17 #[.agg #[.int .i64 D, .slice a0 n0 c0]] Y (LG Y MU ZU))
      have EU := Lib.hid (And.intro eMU eZU)
      obtain ⟨b0, b1⟩ := (L1.below hby).cells
      have HY := Lib.hid (And.intro (L1.below hby) (And.intro (L2.below hby) (And.intro J1 J2)))
      clear eMU eZU L1 L2 J1 J2 hby HF2 O1' O2'
      go_upto_region 5 with fail
      go_wp2_with fail
      refine CU.out.mono ?_
      rintro e Y1 ⟨a4, n4, c4, rfl, hou, hbu⟩
      have hb2 := below_alloc1 Y1 (Obj.cells #[.int .i64 MU, .slice a4 n4 c4] 24)
      have hk4 := heap_alloc_new Y1 (Obj.cells #[.int .i64 MU, .slice a4 n4 c4] 24)
      obtain ⟨s0, s1, s2, s3, _⟩ := fresh2 Y1 24 (.int .i64 0) (.slice none 0 0) (.int .i64 MU) (.slice a4 n4 c4)
      have lU : ZU.length ≤ 24 := by rw [← EU.out.2]; have := Lab.tn_len 0 5 D ps; omega
      have hru := rc_of_owns hou (by omega)
      go_upto_region 6 with fail
      obtain ⟨X6, e6⟩ : ∃ X6, X6 = Y1.alloc (Obj.cells #[.int .i64 MU, .slice a4 n4 c4] 24) := ⟨_, rfl⟩
      rw [← e6] at hb2 hk4 ⊢
      clear e6 s0 s1 s2 s3 b0 b1
      obtain ⟨A4, eA4⟩ : ∃ A4, Y1.heap.size = A4 := ⟨_, rfl⟩
      rw [eA4] at hk4 ⊢
      clear eA4
      have hyx : Below Y.heap.size Y X6 := hbu.trans (hb2.mono hbu.size)
      have U4 : Lbl X6 A4 MU (.slice a4 n4 c4) ZU := ⟨hk4, (hru.below hb2).mono hb2.size⟩
      obtain ⟨L1, L2, J1, J2⟩ := HY.out
      have hxw := HYw.out.trans (hyx.mono HYw.out.size)
      have KS := Lib.hid (fun (wx : World) (h : Below X6.heap.size X6 wx) => (⟨(L1.below hyx).below h, (L2.below hyx).below h, (J1.below hyx).below h, (J2.below hyx).below h, (U4).below h, (hxw).trans (h.mono (hxw).size)⟩ : Lbl wx A0 D (.slice a0 n0 c0) ps ∧ Lbl wx A1 E (.slice a1 n1 c1) qs ∧ Lbl wx A2 MJ (.slice a2 n2 c2) ZJ ∧ Lbl wx A3 MM (.slice a3 n3 c3) ZM ∧ Lbl wx A4 MU (.slice a4 n4 c4) ZU ∧ Below w.heap.size w wx))
      have SC6 := Lib.hid (fun (wx : World) (h : Below X6.heap.size X6 wx) => (⟨(KS.out wx h).1.cells.1, (KS.out wx h).1.cells.2, (KS.out wx h).2.1.cells.1, (KS.out wx h).2.1.cells.2, (KS.out wx h).2.2.1.cells.1, (KS.out wx h).2.2.1.cells.2, (KS.out wx h).2.2.2.1.cells.1, (KS.out wx h).2.2.2.1.cells.2, (KS.out wx h).2.2.2.2.1.cells.1, (KS.out wx h).2.2.2.2.1.cells.2⟩ : wx.cell? ⟨A0, 0, none⟩ = some (.int .i64 D) ∧ wx.cell? ⟨A0, 1, none⟩ = some ((.slice a0 n0 c0)) ∧ wx.cell? ⟨A1, 0, none⟩ = some (.int .i64 E) ∧ wx.cell? ⟨A1, 1, none⟩ = some ((.slice a1 n1 c1)) ∧ wx.cell? ⟨A2, 0, none⟩ = some (.int .i64 MJ) ∧ wx.cell? ⟨A2, 1, none⟩ = some ((.slice a2 n2 c2)) ∧ wx.cell? ⟨A3, 0, none⟩ = some (.int .i64 MM) ∧ wx.cell? ⟨A3, 1, none⟩ = some ((.slice a3 n3 c3)) ∧ wx.cell? ⟨A4, 0, none⟩ = some (.int .i64 MU) ∧ wx.cell? ⟨A4, 1, none⟩ = some ((.slice a4 n4 c4))))
      clear hru hou hbu hb2 hk4 hyx U4 L1 L2 J1 J2 hxw HY CU HYw HL SC CJ CM HX
      obtain ⟨MV, eMV⟩ : ∃ X, Lab.turn 0 5 E = X := ⟨_, rfl⟩
      obtain ⟨ZV, eZV⟩ : ∃ X, Lab.tn 0 5 E qs = X := ⟨_, rfl⟩
      obtain ⟨MR, eMR⟩ : ∃ X, Lab.turn 0 2 D = X := ⟨_, rfl⟩
      obtain ⟨ZR, eZR⟩ : ∃ X, Lab.tn 0 2 D ps = X := ⟨_, rfl⟩
      obtain ⟨ML, eML⟩ : ∃ X, Lab.turn 5 0 MU = X := ⟨_, rfl⟩
      obtain ⟨ZL, eZL⟩ : ∃ X, Lab.tn 5 0 MU ZU = X := ⟨_, rfl⟩
      obtain ⟨MW, eMW⟩ : ∃ X, max MU MV = X := ⟨_, rfl⟩
      obtain ⟨ZW, eZW⟩ : ∃ X, Lab.jn MU ZU MV ZV = X := ⟨_, rfl⟩
      obtain ⟨MX, eMX⟩ : ∃ X, Lab.turn 5 0 MW = X := ⟨_, rfl⟩
      obtain ⟨ZX, eZX⟩ : ∃ X, Lab.tn 5 0 MW ZW = X := ⟨_, rfl⟩
      have OU := Lib.hid (show Lab.Ok MU ZU by rw [← EU.out.1, ← EU.out.2]; exact Lab.tn_ok O1.out)
      have OV := Lib.hid (show Lab.Ok MV ZV by rw [← eMV, ← eZV]; exact Lab.tn_ok O2.out)
      have OW := Lib.hid (show Lab.Ok MW ZW by rw [← eMW, ← eZW]; exact Lab.jn_ok OU.out OV.out)
      have lZV : ZV.length ≤ 24 := by rw [← eZV]; have := Lab.tn_len 0 5 E qs; omega
      have lZR : ZR.length ≤ 24 := by rw [← eZR]; have := Lab.tn_len 0 2 D ps; omega
      have lZL : ZL.length ≤ 48 := by rw [← eZL]; have := Lab.tn_len 5 0 MU ZU; omega
      have lZW : ZW.length ≤ 48 := by rw [← eZW]; have := Lab.jn_len MU ZU MV ZV; omega
      have lZX : ZX.length ≤ 96 := by rw [← eZX]; have := Lab.tn_len 5 0 MW ZW; omega
      have EL := Lib.hid (show ML = D ∧ ZL = ps from by rw [← eML, ← eZL]; exact lower_raise O1.out HF1.out.1 EU.out.1 EU.out.2)
      have PJ := Lib.hid (fun (W : World) (v0 : Value) (v1 : Value) (r0 : RC W.heap.size W v0 ps) (r1 : RC W.heap.size W v1 qs) => (by rw [← EQ.out.1, ← EQ.out.2.1]; exact rmerge_j O1.out O2.out r0 r1 (by omega) : Calls Try.prog 19 #[.agg #[.int .i64 D, v0], .agg #[.int .i64 E, v1], .int .u8 106] W (LG W MJ ZJ)))
      have PM := Lib.hid (fun (W : World) (v0 : Value) (v1 : Value) (r0 : RC W.heap.size W v0 ps) (r1 : RC W.heap.size W v1 qs) => (by rw [← EQ.out.2.2.1, ← EQ.out.2.2.2]; exact rmerge_m O1.out O2.out r0 r1 (by omega) : Calls Try.prog 19 #[.agg #[.int .i64 D, v0], .agg #[.int .i64 E, v1], .int .u8 109] W (LG W MM ZM)))
      have PU := Lib.hid (fun (W : World) (v0 : Value) (r0 : RC W.heap.size W v0 ps) => (by rw [← EU.out.1, ← EU.out.2]; exact rraise_c O1.out r0 (by omega) : Calls Try.prog 20 #[.agg #[.int .i64 D, v0]] W (LG W MU ZU)))
      have PV := Lib.hid (fun (W : World) (v0 : Value) (r0 : RC W.heap.size W v0 qs) => (by rw [← eMV, ← eZV]; exact rraise_c O2.out r0 (by omega) : Calls Try.prog 20 #[.agg #[.int .i64 E, v0]] W (LG W MV ZV)))
      have PR := Lib.hid (fun (W : World) (v0 : Value) (r0 : RC W.heap.size W v0 ps) => (by rw [← eMR, ← eZR]; exact rest_c r0 (by omega) : Calls Try.prog 21 #[.agg #[.int .i64 D, v0]] W (LG W MR ZR)))
      have PRR := Lib.hid (fun (W : World) (v0 : Value) (r0 : RC W.heap.size W v0 ps) => (by rw [← eMR, ← eZR]; exact rrest_c O1.out r0 (by omega) : Calls Try.prog 22 #[.agg #[.int .i64 D, v0]] W (LG W MR ZR)))
      have PL := Lib.hid (fun (W : World) (v0 : Value) (r0 : RC W.heap.size W v0 ZU) => (by rw [← eML, ← eZL]; exact lower_c r0 (by omega) : Calls Try.prog 23 #[.agg #[.int .i64 MU, v0]] W (LG W ML ZL)))
      have PV2 := Lib.hid (fun (W : World) (v0 : Value) (r0 : RC W.heap.size W v0 qs) => (by rw [← eMV, ← eZV]; exact raise_c r0 (by omega) : Calls Try.prog 17 #[.agg #[.int .i64 E, v0]] W (LG W MV ZV)))
      have PW := Lib.hid (fun (W : World) (v0 : Value) (v1 : Value) (r0 : RC W.heap.size W v0 ZU) (r1 : RC W.heap.size W v1 ZV) => (by rw [← eMW, ← eZW]; exact join_c OU.out OV.out r0 r1 (by omega) : Calls Try.prog 15 #[.agg #[.int .i64 MU, v0], .agg #[.int .i64 MV, v1]] W (LG W MW ZW)))
      have PX := Lib.hid (fun (W : World) (v0 : Value) (r0 : RC W.heap.size W v0 ZW) => (by rw [← eMX, ← eZX]; exact lower_c r0 (by omega) : Calls Try.prog 23 #[.agg #[.int .i64 MW, v0]] W (LG W MX ZX)))
      have PWR := Lib.hid (fun (W : World) (v0 : Value) (v1 : Value) (r0 : RC W.heap.size W v0 ZU) (r1 : RC W.heap.size W v1 ZV) => (by rw [← eMW, ← eZW]; exact rmerge_j OU.out OV.out r0 r1 (by omega) : Calls Try.prog 19 #[.agg #[.int .i64 MU, v0], .agg #[.int .i64 MV, v1], .int .u8 106] W (LG W MW ZW)))
      have PXR := Lib.hid (fun (W : World) (v0 : Value) (r0 : RC W.heap.size W v0 ZW) => (by rw [← eMX, ← eZX]; exact rlower_c OW.out r0 (by omega) : Calls Try.prog 24 #[.agg #[.int .i64 MW, v0]] W (LG W MX ZX)))
      clear eMV eZV eMR eZR eML eZL eMW eZW eMX eZX
      have st0 := Lib.hid (show 0 = 0 from rfl)
      have hcall := Lib.hid ((Below.refl X6.heap.size X6).drew)
      refine wp_region_held_drew (S := fun w' => w'.cell? ⟨A0, 0, none⟩ = some (.int .i64 D) ∧ w'.cell? ⟨A0, 1, none⟩ = some ((.slice a0 n0 c0)) ∧ w'.cell? ⟨A1, 0, none⟩ = some (.int .i64 E) ∧ w'.cell? ⟨A1, 1, none⟩ = some ((.slice a1 n1 c1)) ∧ w'.cell? ⟨A2, 0, none⟩ = some (.int .i64 MJ) ∧ w'.cell? ⟨A2, 1, none⟩ = some ((.slice a2 n2 c2)) ∧ w'.cell? ⟨A3, 0, none⟩ = some (.int .i64 MM) ∧ w'.cell? ⟨A3, 1, none⟩ = some ((.slice a3 n3 c3)) ∧ w'.cell? ⟨A4, 0, none⟩ = some (.int .i64 MU) ∧ w'.cell? ⟨A4, 1, none⟩ = some ((.slice a4 n4 c4))) (by kernel_rfl) (SC6.out _ hcall.out) (fun hHeld => ?_)
      refine wpAnyH_take (i := 0) (oi := { dst := some 24, op := Op.load 24 (Operand.tmp 7), type := 24, pos := "law.go:53", after := #[], guard := none }) (v := ?vv1) rfl (by kernel_rfl) (by kernel_rfl) (by kernel_rfl) (fun _ _ _ h => h) (Or.inl ⟨by rfl, ?hy1⟩) hHeld ?rest1
      case hy1 => (intro wS hSw; (try dsimp only at hSw); go_simp; try with_reducible rfl)
      simp only [Act.put, List.setIfInBounds_toArray, List.set_cons_zero, List.set_cons_succ]
      refine wpAnyH_take (i := 1) (oi := { dst := some 25, op := Op.load 24 (Operand.tmp 5), type := 24, pos := "law.go:53", after := #[], guard := none }) (v := ?vv2) rfl (by kernel_rfl) (by kernel_rfl) (by kernel_rfl) (fun _ _ _ h => h) (Or.inl ⟨by rfl, ?hy2⟩) hHeld ?rest2
      case hy2 => (intro wS hSw; (try dsimp only at hSw); go_simp; try with_reducible rfl)
      simp only [Act.put, List.setIfInBounds_toArray, List.set_cons_zero, List.set_cons_succ]
      refine wpAnyH_take (i := 2) (oi := { dst := some 26, op := Op.load 24 (Operand.tmp 6), type := 24, pos := "law.go:53", after := #[], guard := none }) (v := ?vv3) rfl (by kernel_rfl) (by kernel_rfl) (by kernel_rfl) (fun _ _ _ h => h) (Or.inl ⟨by rfl, ?hy3⟩) hHeld ?rest3
      case hy3 => (intro wS hSw; (try dsimp only at hSw); go_simp; try with_reducible rfl)
      simp only [Act.put, List.setIfInBounds_toArray, List.set_cons_zero, List.set_cons_succ]
      refine wpAnyH_ready (rs := [3]) (by kernel_rfl) (by simp) ?_
      refine AllReadyH.cons (o := { dst := some 27, op := Op.call { callee := Callee.value (Operand.func 19), args := #[Operand.tmp 25, Operand.tmp 26, Operand.const (Value.int IntKind.u8 106)], argTypes := #[24, 24, 5] }, type := 24, pos := "law.go:53", after := #[{ on := 1, ground := Ground.data }, { on := 2, ground := Ground.data }], guard := none }) rfl (fun K hK => ?_) AllReadyH.nil
      go_simp
      with_reducible refine (PJ.out _ _ _ (KS.out _ hcall.out).1.rc (KS.out _ hcall.out).2.1.rc).mono ?_
      rintro e wq ⟨a1, n1, c1, rfl, ho, hb'⟩
      have R1 := Lib.hid (rc_of_owns ho (by omega))
      clear ho
      replace hcall := Lib.hid (hcall.out.trans (hb'.mono hcall.out.size))
      clear hb' hHeld
      try go_wp2_with fail
      refine hK.out _ _ (SC6.out _ hcall.out) (fun hHeld => ?_)
      clear hK K
      try simp only [Act.put, List.setIfInBounds_toArray, List.set_cons_zero, List.set_cons_succ]
      refine wpAnyH_ready (rs := [4]) (by kernel_rfl) (by simp) ?_
      refine AllReadyH.cons (o := { dst := some 28, op := Op.call { callee := Callee.value (Operand.func 18), args := #[Operand.tmp 24, Operand.tmp 27], argTypes := #[24, 24] }, type := 4, pos := "law.go:53", after := #[{ on := 0, ground := Ground.data }, { on := 3, ground := Ground.data }, { on := 3, ground := Ground.chain }], guard := none }) rfl (fun K hK => ?_) AllReadyH.nil
      go_simp
      with_reducible refine (same_yes (KS.out _ hcall.out).2.2.1.rc R1.out ⟨rfl, rfl⟩).mono ?_
      rintro e wq ⟨rfl, hb'⟩
      replace hcall := Lib.hid (hcall.out.trans (hb'.mono hcall.out.size))
      clear hb' hHeld
      try go_wp2_with fail
      refine hK.out _ _ (SC6.out _ hcall.out) (fun hHeld => ?_)
      clear hK K
      try simp only [Act.put, List.setIfInBounds_toArray, List.set_cons_zero, List.set_cons_succ]
      refine wpAnyH_take (i := 5) (oi := { dst := some 29, op := Op.move (Operand.tmp 28), type := 4, pos := "law.go:53", after := #[{ on := 4, ground := Ground.data }, { on := 4, ground := Ground.chain }], guard := none }) (v := ?vv4) rfl (by kernel_rfl) (by kernel_rfl) (by kernel_rfl) (fun _ _ _ h => h) (Or.inl ⟨by rfl, ?hy4⟩) hHeld ?rest4
      case hy4 => (intro wS hSw; (try dsimp only at hSw); go_simp; try with_reducible rfl)
      simp only [Act.put, List.setIfInBounds_toArray, List.set_cons_zero, List.set_cons_succ]
      refine wpAnyH_take (i := 6) (oi := { dst := some 30, op := Op.load 24 (Operand.tmp 8), type := 24, pos := "law.go:53", after := #[{ on := 5, ground := Ground.guard }], guard := some (5, true) }) (v := ?vv5) rfl (by kernel_rfl) (by kernel_rfl) (by kernel_rfl) (fun _ _ _ h => h) (Or.inl ⟨by rfl, ?hy5⟩) hHeld ?rest5
      case hy5 => (intro wS hSw; (try dsimp only at hSw); go_simp; try with_reducible rfl)
      simp only [Act.put, List.setIfInBounds_toArray, List.set_cons_zero, List.set_cons_succ]
      refine wpAnyH_take (i := 7) (oi := { dst := some 31, op := Op.load 24 (Operand.tmp 5), type := 24, pos := "law.go:53", after := #[{ on := 5, ground := Ground.guard }], guard := some (5, true) }) (v := ?vv6) rfl (by kernel_rfl) (by kernel_rfl) (by kernel_rfl) (fun _ _ _ h => h) (Or.inl ⟨by rfl, ?hy6⟩) hHeld ?rest6
      case hy6 => (intro wS hSw; (try dsimp only at hSw); go_simp; try with_reducible rfl)
      simp only [Act.put, List.setIfInBounds_toArray, List.set_cons_zero, List.set_cons_succ]
      refine wpAnyH_take (i := 8) (oi := { dst := some 32, op := Op.load 24 (Operand.tmp 6), type := 24, pos := "law.go:53", after := #[{ on := 5, ground := Ground.guard }], guard := some (5, true) }) (v := ?vv7) rfl (by kernel_rfl) (by kernel_rfl) (by kernel_rfl) (fun _ _ _ h => h) (Or.inl ⟨by rfl, ?hy7⟩) hHeld ?rest7
      case hy7 => (intro wS hSw; (try dsimp only at hSw); go_simp; try with_reducible rfl)
      simp only [Act.put, List.setIfInBounds_toArray, List.set_cons_zero, List.set_cons_succ]
      refine wpAnyH_ready (rs := [9]) (by kernel_rfl) (by simp) ?_
      refine AllReadyH.cons (o := { dst := some 33, op := Op.call { callee := Callee.value (Operand.func 19), args := #[Operand.tmp 31, Operand.tmp 32, Operand.const (Value.int IntKind.u8 109)], argTypes := #[24, 24, 5] }, type := 24, pos := "law.go:53", after := #[{ on := 7, ground := Ground.data }, { on := 8, ground := Ground.data }, { on := 5, ground := Ground.chain }, { on := 5, ground := Ground.guard }], guard := some (5, true) }) rfl (fun K hK => ?_) AllReadyH.nil
      go_simp
      with_reducible refine (PM.out _ _ _ (KS.out _ hcall.out).1.rc (KS.out _ hcall.out).2.1.rc).mono ?_
      rintro e wq ⟨a2, n2, c2, rfl, ho, hb'⟩
      have R2 := Lib.hid (rc_of_owns ho (by omega))
      clear ho
      replace hcall := Lib.hid (hcall.out.trans (hb'.mono hcall.out.size))
      clear hb' hHeld
      try go_wp2_with fail
      refine hK.out _ _ (SC6.out _ hcall.out) (fun hHeld => ?_)
      clear hK K
      try simp only [Act.put, List.setIfInBounds_toArray, List.set_cons_zero, List.set_cons_succ]
      refine wpAnyH_ready (rs := [10]) (by kernel_rfl) (by simp) ?_
      refine AllReadyH.cons (o := { dst := some 34, op := Op.call { callee := Callee.value (Operand.func 18), args := #[Operand.tmp 30, Operand.tmp 33], argTypes := #[24, 24] }, type := 4, pos := "law.go:53", after := #[{ on := 6, ground := Ground.data }, { on := 9, ground := Ground.data }, { on := 9, ground := Ground.chain }, { on := 5, ground := Ground.guard }], guard := some (5, true) }) rfl (fun K hK => ?_) AllReadyH.nil
      go_simp
      with_reducible refine (same_yes (KS.out _ hcall.out).2.2.2.1.rc R2.out ⟨rfl, rfl⟩).mono ?_
      rintro e wq ⟨rfl, hb'⟩
      replace hcall := Lib.hid (hcall.out.trans (hb'.mono hcall.out.size))
      clear hb' hHeld
      try go_wp2_with fail
      refine hK.out _ _ (SC6.out _ hcall.out) (fun hHeld => ?_)
      clear hK K
      try simp only [Act.put, List.setIfInBounds_toArray, List.set_cons_zero, List.set_cons_succ]
      refine wpAnyH_take (i := 11) (oi := { dst := some 35, op := Op.pick (Operand.tmp 29) (Operand.tmp 34) (Operand.const (Value.bool false)), type := 4, pos := "law.go:53", after := #[{ on := 5, ground := Ground.data }, { on := 10, ground := Ground.data }], guard := none }) (v := ?vv8) rfl (by kernel_rfl) (by kernel_rfl) (by kernel_rfl) (fun _ _ _ h => h) (Or.inl ⟨by rfl, ?hy8⟩) hHeld ?rest8
      case hy8 => (intro wS hSw; (try dsimp only at hSw); go_simp; try with_reducible rfl)
      simp only [Act.put, List.setIfInBounds_toArray, List.set_cons_zero, List.set_cons_succ]
      refine wpAnyH_take (i := 12) (oi := { dst := some 36, op := Op.move (Operand.tmp 35), type := 4, pos := "law.go:53", after := #[{ on := 11, ground := Ground.data }, { on := 10, ground := Ground.chain }], guard := none }) (v := ?vv9) rfl (by kernel_rfl) (by kernel_rfl) (by kernel_rfl) (fun _ _ _ h => h) (Or.inl ⟨by rfl, ?hy9⟩) hHeld ?rest9
      case hy9 => (intro wS hSw; (try dsimp only at hSw); go_simp; try with_reducible rfl)
      simp only [Act.put, List.setIfInBounds_toArray, List.set_cons_zero, List.set_cons_succ]
      refine wpAnyH_take (i := 13) (oi := { dst := some 37, op := Op.load 24 (Operand.tmp 9), type := 24, pos := "law.go:53", after := #[{ on := 12, ground := Ground.guard }], guard := some (12, true) }) (v := ?vv10) rfl (by kernel_rfl) (by kernel_rfl) (by kernel_rfl) (fun _ _ _ h => h) (Or.inl ⟨by rfl, ?hy10⟩) hHeld ?rest10
      case hy10 => (intro wS hSw; (try dsimp only at hSw); go_simp; try with_reducible rfl)
      simp only [Act.put, List.setIfInBounds_toArray, List.set_cons_zero, List.set_cons_succ]
      refine wpAnyH_take (i := 14) (oi := { dst := some 38, op := Op.load 24 (Operand.tmp 5), type := 24, pos := "law.go:53", after := #[{ on := 12, ground := Ground.guard }], guard := some (12, true) }) (v := ?vv11) rfl (by kernel_rfl) (by kernel_rfl) (by kernel_rfl) (fun _ _ _ h => h) (Or.inl ⟨by rfl, ?hy11⟩) hHeld ?rest11
      case hy11 => (intro wS hSw; (try dsimp only at hSw); go_simp; try with_reducible rfl)
      simp only [Act.put, List.setIfInBounds_toArray, List.set_cons_zero, List.set_cons_succ]
      refine wpAnyH_ready (rs := [15]) (by kernel_rfl) (by simp) ?_
      refine AllReadyH.cons (o := { dst := some 39, op := Op.call { callee := Callee.value (Operand.func 20), args := #[Operand.tmp 38], argTypes := #[24] }, type := 24, pos := "law.go:53", after := #[{ on := 14, ground := Ground.data }, { on := 12, ground := Ground.chain }, { on := 12, ground := Ground.guard }], guard := some (12, true) }) rfl (fun K hK => ?_) AllReadyH.nil
      go_simp
      with_reducible refine (PU.out _ _ (KS.out _ hcall.out).1.rc).mono ?_
      rintro e wq ⟨a3, n3, c3, rfl, ho, hb'⟩
      have R3 := Lib.hid (rc_of_owns ho (by omega))
      clear ho
      replace hcall := Lib.hid (hcall.out.trans (hb'.mono hcall.out.size))
      clear hb' hHeld
      try go_wp2_with fail
      refine hK.out _ _ (SC6.out _ hcall.out) (fun hHeld => ?_)
      clear hK K
      try simp only [Act.put, List.setIfInBounds_toArray, List.set_cons_zero, List.set_cons_succ]
      refine wpAnyH_ready (rs := [16]) (by kernel_rfl) (by simp) ?_
      refine AllReadyH.cons (o := { dst := some 40, op := Op.call { callee := Callee.value (Operand.func 18), args := #[Operand.tmp 37, Operand.tmp 39], argTypes := #[24, 24] }, type := 4, pos := "law.go:53", after := #[{ on := 13, ground := Ground.data }, { on := 15, ground := Ground.data }, { on := 15, ground := Ground.chain }, { on := 12, ground := Ground.guard }], guard := some (12, true) }) rfl (fun K hK => ?_) AllReadyH.nil
      go_simp
      with_reducible refine (same_yes (KS.out _ hcall.out).2.2.2.2.1.rc R3.out ⟨rfl, rfl⟩).mono ?_
      rintro e wq ⟨rfl, hb'⟩
      replace hcall := Lib.hid (hcall.out.trans (hb'.mono hcall.out.size))
      clear hb' hHeld
      try go_wp2_with fail
      refine hK.out _ _ (SC6.out _ hcall.out) (fun hHeld => ?_)
      clear hK K
      try simp only [Act.put, List.setIfInBounds_toArray, List.set_cons_zero, List.set_cons_succ]
      refine wpAnyH_take (i := 17) (oi := { dst := some 41, op := Op.pick (Operand.tmp 36) (Operand.tmp 40) (Operand.const (Value.bool false)), type := 4, pos := "law.go:53", after := #[{ on := 12, ground := Ground.data }, { on := 16, ground := Ground.data }], guard := none }) (v := ?vv12) rfl (by kernel_rfl) (by kernel_rfl) (by kernel_rfl) (fun _ _ _ h => h) (Or.inl ⟨by rfl, ?hy12⟩) hHeld ?rest12
      case hy12 => (intro wS hSw; (try dsimp only at hSw); go_simp; try with_reducible rfl)
      simp only [Act.put, List.setIfInBounds_toArray, List.set_cons_zero, List.set_cons_succ]
      refine wpAnyH_take (i := 18) (oi := { dst := some 42, op := Op.move (Operand.tmp 41), type := 4, pos := "law.go:53", after := #[{ on := 17, ground := Ground.data }, { on := 16, ground := Ground.chain }], guard := none }) (v := ?vv13) rfl (by kernel_rfl) (by kernel_rfl) (by kernel_rfl) (fun _ _ _ h => h) (Or.inl ⟨by rfl, ?hy13⟩) hHeld ?rest13
      case hy13 => (intro wS hSw; (try dsimp only at hSw); go_simp; try with_reducible rfl)
      simp only [Act.put, List.setIfInBounds_toArray, List.set_cons_zero, List.set_cons_succ]
      refine wpAnyH_take (i := 19) (oi := { dst := some 43, op := Op.load 24 (Operand.tmp 5), type := 24, pos := "law.go:53", after := #[{ on := 18, ground := Ground.guard }], guard := some (18, true) }) (v := ?vv14) rfl (by kernel_rfl) (by kernel_rfl) (by kernel_rfl) (fun _ _ _ h => h) (Or.inl ⟨by rfl, ?hy14⟩) hHeld ?rest14
      case hy14 => (intro wS hSw; (try dsimp only at hSw); go_simp; try with_reducible rfl)
      simp only [Act.put, List.setIfInBounds_toArray, List.set_cons_zero, List.set_cons_succ]
      refine wpAnyH_take (i := 21) (oi := { dst := some 45, op := Op.load 24 (Operand.tmp 5), type := 24, pos := "law.go:53", after := #[{ on := 18, ground := Ground.guard }], guard := some (18, true) }) (v := ?vv15) rfl (by kernel_rfl) (by kernel_rfl) (by kernel_rfl) (fun _ _ _ h => h) (Or.inl ⟨by rfl, ?hy15⟩) hHeld ?rest15
      case hy15 => (intro wS hSw; (try dsimp only at hSw); go_simp; try with_reducible rfl)
      simp only [Act.put, List.setIfInBounds_toArray, List.set_cons_zero, List.set_cons_succ]
      refine wpAnyH_ready (rs := [20]) (by kernel_rfl) (by simp) ?_
      refine AllReadyH.cons (o := { dst := some 44, op := Op.call { callee := Callee.value (Operand.func 21), args := #[Operand.tmp 43], argTypes := #[24] }, type := 24, pos := "law.go:53", after := #[{ on := 19, ground := Ground.data }, { on := 18, ground := Ground.chain }, { on := 18, ground := Ground.guard }], guard := some (18, true) }) rfl (fun K hK => ?_) AllReadyH.nil
      go_simp
      with_reducible refine (PR.out _ _ (KS.out _ hcall.out).1.rc).mono ?_
      rintro e wq ⟨a4, n4, c4, rfl, ho, hb'⟩
      have R4 := Lib.hid (rc_of_owns ho (by omega))
      clear ho
      replace hcall := Lib.hid (hcall.out.trans (hb'.mono hcall.out.size))
      clear hb' hHeld
      try go_wp2_with fail
      refine hK.out _ _ (SC6.out _ hcall.out) (fun hHeld => ?_)
      clear hK K
      try simp only [Act.put, List.setIfInBounds_toArray, List.set_cons_zero, List.set_cons_succ]
      refine wpAnyH_ready (rs := [22]) (by kernel_rfl) (by simp) ?_
      refine AllReadyH.cons (o := { dst := some 46, op := Op.call { callee := Callee.value (Operand.func 22), args := #[Operand.tmp 45], argTypes := #[24] }, type := 24, pos := "law.go:53", after := #[{ on := 21, ground := Ground.data }, { on := 20, ground := Ground.chain }, { on := 18, ground := Ground.guard }], guard := some (18, true) }) rfl (fun K hK => ?_) AllReadyH.nil
      go_simp
      with_reducible refine (PRR.out _ _ (KS.out _ hcall.out).1.rc).mono ?_
      rintro e wq ⟨a5, n5, c5, rfl, ho, hb'⟩
      have R5 := Lib.hid (rc_of_owns ho (by omega))
      clear ho
      replace R4 := Lib.hid ((R4.out.below hb').mono hb'.size)
      replace hcall := Lib.hid (hcall.out.trans (hb'.mono hcall.out.size))
      clear hb' hHeld
      try go_wp2_with fail
      refine hK.out _ _ (SC6.out _ hcall.out) (fun hHeld => ?_)
      clear hK K
      try simp only [Act.put, List.setIfInBounds_toArray, List.set_cons_zero, List.set_cons_succ]
      refine wpAnyH_ready (rs := [23]) (by kernel_rfl) (by simp) ?_
      refine AllReadyH.cons (o := { dst := some 47, op := Op.call { callee := Callee.value (Operand.func 18), args := #[Operand.tmp 44, Operand.tmp 46], argTypes := #[24, 24] }, type := 4, pos := "law.go:53", after := #[{ on := 20, ground := Ground.data }, { on := 22, ground := Ground.data }, { on := 22, ground := Ground.chain }, { on := 18, ground := Ground.guard }], guard := some (18, true) }) rfl (fun K hK => ?_) AllReadyH.nil
      go_simp
      with_reducible refine (same_yes R4.out R5.out ⟨rfl, rfl⟩).mono ?_
      rintro e wq ⟨rfl, hb'⟩
      replace hcall := Lib.hid (hcall.out.trans (hb'.mono hcall.out.size))
      clear hb' hHeld
      try go_wp2_with fail
      refine hK.out _ _ (SC6.out _ hcall.out) (fun hHeld => ?_)
      clear hK K
      try simp only [Act.put, List.setIfInBounds_toArray, List.set_cons_zero, List.set_cons_succ]
      refine wpAnyH_take (i := 24) (oi := { dst := some 48, op := Op.pick (Operand.tmp 42) (Operand.tmp 47) (Operand.const (Value.bool false)), type := 4, pos := "law.go:53", after := #[{ on := 18, ground := Ground.data }, { on := 23, ground := Ground.data }], guard := none }) (v := ?vv16) rfl (by kernel_rfl) (by kernel_rfl) (by kernel_rfl) (fun _ _ _ h => h) (Or.inl ⟨by rfl, ?hy16⟩) hHeld ?rest16
      case hy16 => (intro wS hSw; (try dsimp only at hSw); go_simp; try with_reducible rfl)
      simp only [Act.put, List.setIfInBounds_toArray, List.set_cons_zero, List.set_cons_succ]
      refine wpAnyH_take (i := 25) (oi := { dst := some 49, op := Op.move (Operand.tmp 48), type := 4, pos := "law.go:53", after := #[{ on := 24, ground := Ground.data }, { on := 23, ground := Ground.chain }], guard := none }) (v := ?vv17) rfl (by kernel_rfl) (by kernel_rfl) (by kernel_rfl) (fun _ _ _ h => h) (Or.inl ⟨by rfl, ?hy17⟩) hHeld ?rest17
      case hy17 => (intro wS hSw; (try dsimp only at hSw); go_simp; try with_reducible rfl)
      simp only [Act.put, List.setIfInBounds_toArray, List.set_cons_zero, List.set_cons_succ]
      refine wpAnyH_take (i := 26) (oi := { dst := some 50, op := Op.load 24 (Operand.tmp 9), type := 24, pos := "law.go:53", after := #[{ on := 25, ground := Ground.guard }], guard := some (25, true) }) (v := ?vv18) rfl (by kernel_rfl) (by kernel_rfl) (by kernel_rfl) (fun _ _ _ h => h) (Or.inl ⟨by rfl, ?hy18⟩) hHeld ?rest18
      case hy18 => (intro wS hSw; (try dsimp only at hSw); go_simp; try with_reducible rfl)
      simp only [Act.put, List.setIfInBounds_toArray, List.set_cons_zero, List.set_cons_succ]
      refine wpAnyH_take (i := 28) (oi := { dst := some 52, op := Op.load 24 (Operand.tmp 5), type := 24, pos := "law.go:53", after := #[{ on := 25, ground := Ground.guard }], guard := some (25, true) }) (v := ?vv19) rfl (by kernel_rfl) (by kernel_rfl) (by kernel_rfl) (fun _ _ _ h => h) (Or.inl ⟨by rfl, ?hy19⟩) hHeld ?rest19
      case hy19 => (intro wS hSw; (try dsimp only at hSw); go_simp; try with_reducible rfl)
      simp only [Act.put, List.setIfInBounds_toArray, List.set_cons_zero, List.set_cons_succ]
      refine wpAnyH_ready (rs := [27]) (by kernel_rfl) (by simp) ?_
      refine AllReadyH.cons (o := { dst := some 51, op := Op.call { callee := Callee.value (Operand.func 23), args := #[Operand.tmp 50], argTypes := #[24] }, type := 24, pos := "law.go:53", after := #[{ on := 26, ground := Ground.data }, { on := 25, ground := Ground.chain }, { on := 25, ground := Ground.guard }], guard := some (25, true) }) rfl (fun K hK => ?_) AllReadyH.nil
      go_simp
      with_reducible refine (PL.out _ _ (KS.out _ hcall.out).2.2.2.2.1.rc).mono ?_
      rintro e wq ⟨a6, n6, c6, rfl, ho, hb'⟩
      have R6 := Lib.hid (rc_of_owns ho (by omega))
      clear ho
      replace hcall := Lib.hid (hcall.out.trans (hb'.mono hcall.out.size))
      clear hb' hHeld
      try go_wp2_with fail
      refine hK.out _ _ (SC6.out _ hcall.out) (fun hHeld => ?_)
      clear hK K
      try simp only [Act.put, List.setIfInBounds_toArray, List.set_cons_zero, List.set_cons_succ]
      refine wpAnyH_ready (rs := [29]) (by kernel_rfl) (by simp) ?_
      refine AllReadyH.cons (o := { dst := some 53, op := Op.call { callee := Callee.value (Operand.func 18), args := #[Operand.tmp 51, Operand.tmp 52], argTypes := #[24, 24] }, type := 4, pos := "law.go:53", after := #[{ on := 27, ground := Ground.data }, { on := 28, ground := Ground.data }, { on := 27, ground := Ground.chain }, { on := 25, ground := Ground.guard }], guard := some (25, true) }) rfl (fun K hK => ?_) AllReadyH.nil
      go_simp
      with_reducible refine (same_yes R6.out (KS.out _ hcall.out).1.rc EL.out).mono ?_
      rintro e wq ⟨rfl, hb'⟩
      replace hcall := Lib.hid (hcall.out.trans (hb'.mono hcall.out.size))
      clear hb' hHeld
      try go_wp2_with fail
      refine hK.out _ _ (SC6.out _ hcall.out) (fun hHeld => ?_)
      clear hK K
      try simp only [Act.put, List.setIfInBounds_toArray, List.set_cons_zero, List.set_cons_succ]
      refine wpAnyH_take (i := 30) (oi := { dst := some 54, op := Op.pick (Operand.tmp 49) (Operand.tmp 53) (Operand.const (Value.bool false)), type := 4, pos := "law.go:53", after := #[{ on := 25, ground := Ground.data }, { on := 29, ground := Ground.data }], guard := none }) (v := ?vv20) rfl (by kernel_rfl) (by kernel_rfl) (by kernel_rfl) (fun _ _ _ h => h) (Or.inl ⟨by rfl, ?hy20⟩) hHeld ?rest20
      case hy20 => (intro wS hSw; (try dsimp only at hSw); go_simp; try with_reducible rfl)
      simp only [Act.put, List.setIfInBounds_toArray, List.set_cons_zero, List.set_cons_succ]
      refine wpAnyH_take (i := 31) (oi := { dst := some 55, op := Op.move (Operand.tmp 54), type := 4, pos := "law.go:53", after := #[{ on := 30, ground := Ground.data }, { on := 29, ground := Ground.chain }], guard := none }) (v := ?vv21) rfl (by kernel_rfl) (by kernel_rfl) (by kernel_rfl) (fun _ _ _ h => h) (Or.inl ⟨by rfl, ?hy21⟩) hHeld ?rest21
      case hy21 => (intro wS hSw; (try dsimp only at hSw); go_simp; try with_reducible rfl)
      simp only [Act.put, List.setIfInBounds_toArray, List.set_cons_zero, List.set_cons_succ]
      refine wpAnyH_take (i := 32) (oi := { dst := some 56, op := Op.load 24 (Operand.tmp 9), type := 24, pos := "law.go:53", after := #[{ on := 31, ground := Ground.guard }], guard := some (31, true) }) (v := ?vv22) rfl (by kernel_rfl) (by kernel_rfl) (by kernel_rfl) (fun _ _ _ h => h) (Or.inl ⟨by rfl, ?hy22⟩) hHeld ?rest22
      case hy22 => (intro wS hSw; (try dsimp only at hSw); go_simp; try with_reducible rfl)
      simp only [Act.put, List.setIfInBounds_toArray, List.set_cons_zero, List.set_cons_succ]
      refine wpAnyH_take (i := 33) (oi := { dst := some 57, op := Op.load 24 (Operand.tmp 6), type := 24, pos := "law.go:53", after := #[{ on := 31, ground := Ground.guard }], guard := some (31, true) }) (v := ?vv23) rfl (by kernel_rfl) (by kernel_rfl) (by kernel_rfl) (fun _ _ _ h => h) (Or.inl ⟨by rfl, ?hy23⟩) hHeld ?rest23
      case hy23 => (intro wS hSw; (try dsimp only at hSw); go_simp; try with_reducible rfl)
      simp only [Act.put, List.setIfInBounds_toArray, List.set_cons_zero, List.set_cons_succ]
      refine wpAnyH_take (i := 37) (oi := { dst := some 61, op := Op.load 24 (Operand.tmp 5), type := 24, pos := "law.go:53", after := #[{ on := 31, ground := Ground.guard }], guard := some (31, true) }) (v := ?vv24) rfl (by kernel_rfl) (by kernel_rfl) (by kernel_rfl) (fun _ _ _ h => h) (Or.inl ⟨by rfl, ?hy24⟩) hHeld ?rest24
      case hy24 => (intro wS hSw; (try dsimp only at hSw); go_simp; try with_reducible rfl)
      simp only [Act.put, List.setIfInBounds_toArray, List.set_cons_zero, List.set_cons_succ]
      refine wpAnyH_take (i := 39) (oi := { dst := some 63, op := Op.load 24 (Operand.tmp 6), type := 24, pos := "law.go:53", after := #[{ on := 31, ground := Ground.guard }], guard := some (31, true) }) (v := ?vv25) rfl (by kernel_rfl) (by kernel_rfl) (by kernel_rfl) (fun _ _ _ h => h) (Or.inl ⟨by rfl, ?hy25⟩) hHeld ?rest25
      case hy25 => (intro wS hSw; (try dsimp only at hSw); go_simp; try with_reducible rfl)
      simp only [Act.put, List.setIfInBounds_toArray, List.set_cons_zero, List.set_cons_succ]
      refine wpAnyH_ready (rs := [34]) (by kernel_rfl) (by simp) ?_
      refine AllReadyH.cons (o := { dst := some 58, op := Op.call { callee := Callee.value (Operand.func 17), args := #[Operand.tmp 57], argTypes := #[24] }, type := 24, pos := "law.go:53", after := #[{ on := 33, ground := Ground.data }, { on := 31, ground := Ground.chain }, { on := 31, ground := Ground.guard }], guard := some (31, true) }) rfl (fun K hK => ?_) AllReadyH.nil
      go_simp
      with_reducible refine (PV2.out _ _ (KS.out _ hcall.out).2.1.rc).mono ?_
      rintro e wq ⟨a7, n7, c7, rfl, ho, hb'⟩
      have R7 := Lib.hid (rc_of_owns ho (by omega))
      clear ho
      replace hcall := Lib.hid (hcall.out.trans (hb'.mono hcall.out.size))
      clear hb' hHeld
      try go_wp2_with fail
      refine hK.out _ _ (SC6.out _ hcall.out) (fun hHeld => ?_)
      clear hK K
      try simp only [Act.put, List.setIfInBounds_toArray, List.set_cons_zero, List.set_cons_succ]
      refine wpAnyH_ready (rs := [35]) (by kernel_rfl) (by simp) ?_
      refine AllReadyH.cons (o := { dst := some 59, op := Op.call { callee := Callee.value (Operand.func 15), args := #[Operand.tmp 56, Operand.tmp 58], argTypes := #[24, 24] }, type := 24, pos := "law.go:53", after := #[{ on := 32, ground := Ground.data }, { on := 34, ground := Ground.data }, { on := 34, ground := Ground.chain }, { on := 31, ground := Ground.guard }], guard := some (31, true) }) rfl (fun K hK => ?_) AllReadyH.nil
      go_simp
      with_reducible refine (PW.out _ _ _ (KS.out _ hcall.out).2.2.2.2.1.rc R7.out).mono ?_
      rintro e wq ⟨a8, n8, c8, rfl, ho, hb'⟩
      have R8 := Lib.hid (rc_of_owns ho (by omega))
      clear ho
      replace hcall := Lib.hid (hcall.out.trans (hb'.mono hcall.out.size))
      clear hb' hHeld
      try go_wp2_with fail
      refine hK.out _ _ (SC6.out _ hcall.out) (fun hHeld => ?_)
      clear hK K
      try simp only [Act.put, List.setIfInBounds_toArray, List.set_cons_zero, List.set_cons_succ]
      refine wpAnyH_ready (rs := [36]) (by kernel_rfl) (by simp) ?_
      refine AllReadyH.cons (o := { dst := some 60, op := Op.call { callee := Callee.value (Operand.func 23), args := #[Operand.tmp 59], argTypes := #[24] }, type := 24, pos := "law.go:53", after := #[{ on := 35, ground := Ground.data }, { on := 35, ground := Ground.chain }, { on := 31, ground := Ground.guard }], guard := some (31, true) }) rfl (fun K hK => ?_) AllReadyH.nil
      go_simp
      with_reducible refine (PX.out _ _ R8.out).mono ?_
      rintro e wq ⟨a9, n9, c9, rfl, ho, hb'⟩
      have R9 := Lib.hid (rc_of_owns ho (by omega))
      clear ho
      replace hcall := Lib.hid (hcall.out.trans (hb'.mono hcall.out.size))
      clear hb' hHeld
      try go_wp2_with fail
      refine hK.out _ _ (SC6.out _ hcall.out) (fun hHeld => ?_)
      clear hK K
      try simp only [Act.put, List.setIfInBounds_toArray, List.set_cons_zero, List.set_cons_succ]
      refine wpAnyH_ready (rs := [38]) (by kernel_rfl) (by simp) ?_
      refine AllReadyH.cons (o := { dst := some 62, op := Op.call { callee := Callee.value (Operand.func 20), args := #[Operand.tmp 61], argTypes := #[24] }, type := 24, pos := "law.go:53", after := #[{ on := 37, ground := Ground.data }, { on := 36, ground := Ground.chain }, { on := 31, ground := Ground.guard }], guard := some (31, true) }) rfl (fun K hK => ?_) AllReadyH.nil
      go_simp
      with_reducible refine (PU.out _ _ (KS.out _ hcall.out).1.rc).mono ?_
      rintro e wq ⟨a10, n10, c10, rfl, ho, hb'⟩
      have R10 := Lib.hid (rc_of_owns ho (by omega))
      clear ho
      replace R9 := Lib.hid ((R9.out.below hb').mono hb'.size)
      replace hcall := Lib.hid (hcall.out.trans (hb'.mono hcall.out.size))
      clear hb' hHeld
      try go_wp2_with fail
      refine hK.out _ _ (SC6.out _ hcall.out) (fun hHeld => ?_)
      clear hK K
      try simp only [Act.put, List.setIfInBounds_toArray, List.set_cons_zero, List.set_cons_succ]
      refine wpAnyH_ready (rs := [40]) (by kernel_rfl) (by simp) ?_
      refine AllReadyH.cons (o := { dst := some 64, op := Op.call { callee := Callee.value (Operand.func 20), args := #[Operand.tmp 63], argTypes := #[24] }, type := 24, pos := "law.go:53", after := #[{ on := 39, ground := Ground.data }, { on := 38, ground := Ground.chain }, { on := 31, ground := Ground.guard }], guard := some (31, true) }) rfl (fun K hK => ?_) AllReadyH.nil
      go_simp
      with_reducible refine (PV.out _ _ (KS.out _ hcall.out).2.1.rc).mono ?_
      rintro e wq ⟨a11, n11, c11, rfl, ho, hb'⟩
      have R11 := Lib.hid (rc_of_owns ho (by omega))
      clear ho
      replace R9 := Lib.hid ((R9.out.below hb').mono hb'.size)
      replace R10 := Lib.hid ((R10.out.below hb').mono hb'.size)
      replace hcall := Lib.hid (hcall.out.trans (hb'.mono hcall.out.size))
      clear hb' hHeld
      try go_wp2_with fail
      refine hK.out _ _ (SC6.out _ hcall.out) (fun hHeld => ?_)
      clear hK K
      try simp only [Act.put, List.setIfInBounds_toArray, List.set_cons_zero, List.set_cons_succ]
      refine wpAnyH_ready (rs := [41]) (by kernel_rfl) (by simp) ?_
      refine AllReadyH.cons (o := { dst := some 65, op := Op.call { callee := Callee.value (Operand.func 19), args := #[Operand.tmp 62, Operand.tmp 64, Operand.const (Value.int IntKind.u8 106)], argTypes := #[24, 24, 5] }, type := 24, pos := "law.go:53", after := #[{ on := 38, ground := Ground.data }, { on := 40, ground := Ground.data }, { on := 40, ground := Ground.chain }, { on := 31, ground := Ground.guard }], guard := some (31, true) }) rfl (fun K hK => ?_) AllReadyH.nil
      go_simp
      with_reducible refine (PWR.out _ _ _ R10.out R11.out).mono ?_
      rintro e wq ⟨a12, n12, c12, rfl, ho, hb'⟩
      have R12 := Lib.hid (rc_of_owns ho (by omega))
      clear ho
      replace R9 := Lib.hid ((R9.out.below hb').mono hb'.size)
      replace hcall := Lib.hid (hcall.out.trans (hb'.mono hcall.out.size))
      clear hb' hHeld
      try go_wp2_with fail
      refine hK.out _ _ (SC6.out _ hcall.out) (fun hHeld => ?_)
      clear hK K
      try simp only [Act.put, List.setIfInBounds_toArray, List.set_cons_zero, List.set_cons_succ]
      refine wpAnyH_ready (rs := [42]) (by kernel_rfl) (by simp) ?_
      refine AllReadyH.cons (o := { dst := some 66, op := Op.call { callee := Callee.value (Operand.func 24), args := #[Operand.tmp 65], argTypes := #[24] }, type := 24, pos := "law.go:53", after := #[{ on := 41, ground := Ground.data }, { on := 41, ground := Ground.chain }, { on := 31, ground := Ground.guard }], guard := some (31, true) }) rfl (fun K hK => ?_) AllReadyH.nil
      go_simp
      with_reducible refine (PXR.out _ _ R12.out).mono ?_
      rintro e wq ⟨a13, n13, c13, rfl, ho, hb'⟩
      have R13 := Lib.hid (rc_of_owns ho (by omega))
      clear ho
      replace R9 := Lib.hid ((R9.out.below hb').mono hb'.size)
      replace hcall := Lib.hid (hcall.out.trans (hb'.mono hcall.out.size))
      clear hb' hHeld
      try go_wp2_with fail
      refine hK.out _ _ (SC6.out _ hcall.out) (fun hHeld => ?_)
      clear hK K
      try simp only [Act.put, List.setIfInBounds_toArray, List.set_cons_zero, List.set_cons_succ]
      refine wpAnyH_ready (rs := [43]) (by kernel_rfl) (by simp) ?_
      refine AllReadyH.cons (o := { dst := some 67, op := Op.call { callee := Callee.value (Operand.func 18), args := #[Operand.tmp 60, Operand.tmp 66], argTypes := #[24, 24] }, type := 4, pos := "law.go:53", after := #[{ on := 36, ground := Ground.data }, { on := 42, ground := Ground.data }, { on := 42, ground := Ground.chain }, { on := 31, ground := Ground.guard }], guard := some (31, true) }) rfl (fun K hK => ?_) AllReadyH.nil
      go_simp
      with_reducible refine (same_yes R9.out R13.out ⟨rfl, rfl⟩).mono ?_
      rintro e wq ⟨rfl, hb'⟩
      replace hcall := Lib.hid (hcall.out.trans (hb'.mono hcall.out.size))
      clear hb' hHeld
      try go_wp2_with fail
      refine hK.out _ _ (SC6.out _ hcall.out) (fun hHeld => ?_)
      clear hK K
      try simp only [Act.put, List.setIfInBounds_toArray, List.set_cons_zero, List.set_cons_succ]
      refine wpAnyH_take (i := 44) (oi := { dst := some 68, op := Op.pick (Operand.tmp 55) (Operand.tmp 67) (Operand.const (Value.bool false)), type := 4, pos := "law.go:53", after := #[{ on := 31, ground := Ground.data }, { on := 43, ground := Ground.data }], guard := none }) (v := ?vv26) rfl (by kernel_rfl) (by kernel_rfl) (by kernel_rfl) (fun _ _ _ h => h) (Or.inl ⟨by rfl, ?hy26⟩) hHeld ?rest26
      case hy26 => (intro wS hSw; (try dsimp only at hSw); go_simp; try with_reducible rfl)
      simp only [Act.put, List.setIfInBounds_toArray, List.set_cons_zero, List.set_cons_succ]
      refine wpAnyH_take (i := 45) (oi := { dst := some 4, op := Op.assign (Operand.tmp 68), type := 4, pos := "law.go:53", after := #[{ on := 44, ground := Ground.data }, { on := 43, ground := Ground.chain }, { on := 0, ground := Ground.phase }, { on := 1, ground := Ground.phase }, { on := 2, ground := Ground.phase }, { on := 3, ground := Ground.phase }, { on := 4, ground := Ground.phase }, { on := 5, ground := Ground.phase }, { on := 6, ground := Ground.phase }, { on := 7, ground := Ground.phase }, { on := 8, ground := Ground.phase }, { on := 9, ground := Ground.phase }, { on := 10, ground := Ground.phase }, { on := 11, ground := Ground.phase }, { on := 12, ground := Ground.phase }, { on := 13, ground := Ground.phase }, { on := 14, ground := Ground.phase }, { on := 15, ground := Ground.phase }, { on := 16, ground := Ground.phase }, { on := 17, ground := Ground.phase }, { on := 18, ground := Ground.phase }, { on := 19, ground := Ground.phase }, { on := 20, ground := Ground.phase }, { on := 21, ground := Ground.phase }, { on := 22, ground := Ground.phase }, { on := 23, ground := Ground.phase }, { on := 24, ground := Ground.phase }, { on := 25, ground := Ground.phase }, { on := 26, ground := Ground.phase }, { on := 27, ground := Ground.phase }, { on := 28, ground := Ground.phase }, { on := 29, ground := Ground.phase }, { on := 30, ground := Ground.phase }, { on := 31, ground := Ground.phase }, { on := 32, ground := Ground.phase }, { on := 33, ground := Ground.phase }, { on := 34, ground := Ground.phase }, { on := 35, ground := Ground.phase }, { on := 36, ground := Ground.phase }, { on := 37, ground := Ground.phase }, { on := 38, ground := Ground.phase }, { on := 39, ground := Ground.phase }, { on := 40, ground := Ground.phase }, { on := 41, ground := Ground.phase }, { on := 42, ground := Ground.phase }, { on := 43, ground := Ground.phase }, { on := 44, ground := Ground.phase }], guard := none }) (v := ?vv27) rfl (by kernel_rfl) (by kernel_rfl) (by kernel_rfl) (fun _ _ _ h => h) (Or.inl ⟨by rfl, ?hy27⟩) hHeld ?rest27
      case hy27 => (intro wS hSw; (try dsimp only at hSw); go_simp; try with_reducible rfl)
      simp only [Act.put, List.setIfInBounds_toArray, List.set_cons_zero, List.set_cons_succ]
      refine wpAnyH_done (by kernel_rfl) ?_ _
      all_goals
        go_wp2_with fail
        go_ret
        exact ⟨by first | rfl | simp, (KS.out _ hcall.out).2.2.2.2.2⟩
end Go.Proofs.Ytlkhbbdigljpjaa
