import Derived.Test.YtlkhbbdigljpjaaUf
import Derived.Test.YtlkhbbdigljpjaaUg
namespace Go.Proofs.Ytlkhbbdigljpjaa
open Go.RowKit
set_option linter.unusedVariables false
set_option linter.unusedSimpArgs false

set_option maxRecDepth 100000 in
set_option maxHeartbeats 4000000 in
theorem asks_law (S0 S1 x2 y2 : Int) (v0 v1 : Value) (w : World) (h0 : Ints w v0) (h1 : Ints w v1) :
    Calls Try.prog 5 #[.agg #[.int .i64 S0, v0], .agg #[.int .i64 S1, v1], .agg #[.int .i64 x2, .int .i64 y2]] w fun e w' => e = .returned (.bool true) ∧ Below w.heap.size w w' := by
  obtain ⟨va0, vn0, vc0, rfl⟩ : ∃ a n c, v0 = .slice a n c := by rcases h0 with ⟨a, c, rfl⟩ | ⟨b, off, cap, n, ls, rfl, _⟩ <;> exact ⟨_, _, _, rfl⟩
  obtain ⟨va1, vn1, vc1, rfl⟩ : ∃ a n c, v1 = .slice a n c := by rcases h1 with ⟨a, c, rfl⟩ | ⟨b, off, cap, n, ls, rfl, _⟩ <;> exact ⟨_, _, _, rfl⟩
  have HI0 := Lib.hid h0
  have HI1 := Lib.hid h1
  have HFit := Lib.hid (fun (W : World) => fit_any W)
  obtain ⟨W0, e0⟩ : ∃ W0, W0 = (((w.alloc (Obj.cells #[.int .i64 S0, .slice va0 vn0 vc0] 29)).alloc (Obj.cells #[.int .i64 S1, .slice va1 vn1 vc1] 29)).alloc (Obj.cells #[.int .i64 x2, .int .i64 y2] 36)) := ⟨_, rfl⟩
  have hB : Below w.heap.size w W0 := by rw [e0]; exact (((Below.refl _ _).alloc (Nat.le_refl _) _).alloc (by simp <;> omega) _).alloc (by simp <;> omega) _
  have hk0 : W0.heap[w.heap.size]? = some (Obj.cells #[.int .i64 S0, .slice va0 vn0 vc0] 29) := by
    rw [e0]
    rw [Below.heap_alloc _ _ _ (by simp <;> omega)]
    rw [Below.heap_alloc _ _ _ (by simp <;> omega)]
    have := heap_alloc_new w (Obj.cells #[.int .i64 S0, .slice va0 vn0 vc0] 29); simpa using this
  have hk1 : W0.heap[w.heap.size + 1]? = some (Obj.cells #[.int .i64 S1, .slice va1 vn1 vc1] 29) := by
    rw [e0]
    rw [Below.heap_alloc _ _ _ (by simp <;> omega)]
    have := heap_alloc_new (w.alloc (Obj.cells #[.int .i64 S0, .slice va0 vn0 vc0] 29)) (Obj.cells #[.int .i64 S1, .slice va1 vn1 vc1] 29); simpa using this
  have hk2 : W0.heap[w.heap.size + 2]? = some (Obj.cells #[.int .i64 x2, .int .i64 y2] 36) := by
    rw [e0]
    have := heap_alloc_new ((w.alloc (Obj.cells #[.int .i64 S0, .slice va0 vn0 vc0] 29)).alloc (Obj.cells #[.int .i64 S1, .slice va1 vn1 vc1] 29)) (Obj.cells #[.int .i64 x2, .int .i64 y2] 36); simpa using this
  have HB := Lib.hid hB
  have HK := Lib.hid (show W0.heap[w.heap.size]? = some (Obj.cells #[.int .i64 S0, .slice va0 vn0 vc0] 29) ∧ W0.heap[w.heap.size + 1]? = some (Obj.cells #[.int .i64 S1, .slice va1 vn1 vc1] 29) ∧ W0.heap[w.heap.size + 2]? = some (Obj.cells #[.int .i64 x2, .int .i64 y2] 36) from ⟨hk0, hk1, hk2⟩)
  clear h0 h1 hB hk0 hk1 hk2
  go_enter Try.func5, Try.ntmps5
  go_wp2_with fail
  rw [← e0]
  clear e0
  refine (HFit.out _).mono ?_
  rintro e w1 ⟨rfl, hb1⟩
  have hS : ∀ wx, Below w1.heap.size w1 wx → Below w.heap.size w wx ∧ wx.cell? ⟨w.heap.size, 0, none⟩ = some (.int .i64 S0) ∧ wx.cell? ⟨w.heap.size, 1, none⟩ = some (.slice va0 vn0 vc0) ∧ wx.cell? ⟨w.heap.size + 1, 0, none⟩ = some (.int .i64 S1) ∧ wx.cell? ⟨w.heap.size + 1, 1, none⟩ = some (.slice va1 vn1 vc1) ∧ wx.cell? ⟨w.heap.size + 2, 0, none⟩ = some (.int .i64 x2) ∧ wx.cell? ⟨w.heap.size + 2, 1, none⟩ = some (.int .i64 y2) := fun wx hx => by
    have h0 := hb1.trans (hx.mono hb1.size)
    have r0 : wx.heap[w.heap.size]? = some (Obj.cells #[.int .i64 S0, .slice va0 vn0 vc0] 29) := by rw [h0.block _ (Array.getElem?_eq_some_iff.1 HK.out.1).1]; exact HK.out.1
    have r1 : wx.heap[w.heap.size + 1]? = some (Obj.cells #[.int .i64 S1, .slice va1 vn1 vc1] 29) := by rw [h0.block _ (Array.getElem?_eq_some_iff.1 HK.out.2.1).1]; exact HK.out.2.1
    have r2 : wx.heap[w.heap.size + 2]? = some (Obj.cells #[.int .i64 x2, .int .i64 y2] 36) := by rw [h0.block _ (Array.getElem?_eq_some_iff.1 HK.out.2.2).1]; exact HK.out.2.2
    exact ⟨HB.out.trans (h0.mono HB.out.size), by rw [cell_of_row _ _ 0 _ 29 (0, 0) r0]; rfl, by rw [cell_of_row _ _ 1 _ 29 (0, 0) r0]; rfl, by rw [cell_of_row _ _ 0 _ 29 (0, 0) r1]; rfl, by rw [cell_of_row _ _ 1 _ 29 (0, 0) r1]; rfl, by rw [cell_of_row _ _ 0 _ 36 (0, 0) r2]; rfl, by rw [cell_of_row _ _ 1 _ 36 (0, 0) r2]; rfl⟩
  have HS := Lib.hid hS
  clear hS hb1
  go_upto_region 3 with fail
  have hcall := Lib.hid ((Below.refl w1.heap.size w1).drew)
  have C0 := Lib.hid (fun (W : World) (h : Below w1.heap.size w1 W) => seed_form S0 (.slice va0 vn0 vc0) W (HI0.out.below (HS.out W h).1))
  have C1 := Lib.hid (fun (W : World) (h : Below w1.heap.size w1 W) => seed_form S1 (.slice va1 vn1 vc1) W (HI1.out.below (HS.out W h).1))
  have SS := Lib.hid (fun (wx : World) (h : Below w1.heap.size w1 wx) => ((HS.out wx h).2 : wx.cell? ⟨w.heap.size, 0, none⟩ = some (.int .i64 S0) ∧ wx.cell? ⟨w.heap.size, 1, none⟩ = some (.slice va0 vn0 vc0) ∧ wx.cell? ⟨w.heap.size + 1, 0, none⟩ = some (.int .i64 S1) ∧ wx.cell? ⟨w.heap.size + 1, 1, none⟩ = some (.slice va1 vn1 vc1) ∧ wx.cell? ⟨w.heap.size + 2, 0, none⟩ = some (.int .i64 x2) ∧ wx.cell? ⟨w.heap.size + 2, 1, none⟩ = some (.int .i64 y2)))
  go_cut [7, 8, 17, 18, 19, 20] (fun s7 s8 s17 s18 s19 s20 wx => ∃ A0 D0 ps0 a0 n0 c0 A1 D1 ps1 a1 n1 c1, s7 = .pointer (some ⟨A0, 0, none⟩) ∧ s8 = .pointer (some ⟨A1, 0, none⟩) ∧ Hid (Lbl wx A0 D0 (.slice a0 n0 c0) ps0 ∧ Lbl wx A1 D1 (.slice a1 n1 c1) ps1 ∧ Lab.Fine D0 ps0 ∧ Lab.Fine D1 ps1 ∧ Below w1.heap.size w1 wx))
  case first =>
    refine wp_region_any (by kernel_rfl) ?_
    refine wpAny_inv (I := fun L a wz => ∃ y7 y8 y17 y18 y19 y20 : Value, a = { tmps := #[.agg #[.int .i64 S0, .slice va0 vn0 vc0], .agg #[.int .i64 S1, .slice va1 vn1 vc1], .agg #[.int .i64 x2, .int .i64 y2], .pointer (some ⟨w.heap.size, 0, none⟩), .pointer (some ⟨w.heap.size + 1, 0, none⟩), .pointer (some ⟨w.heap.size + 2, 0, none⟩), .bool false, y7, y8, undef, undef, undef, undef, undef, undef, .bool true, .bool false, y17, y18, y19, y20, undef, undef, undef, undef, undef, undef, undef, undef, undef, undef, undef, undef, undef, undef, undef, undef, undef, undef, undef, undef, undef, undef, undef, undef, undef, undef, undef, undef, undef, undef, undef, undef, undef, undef, undef, undef, undef, undef, undef, undef, undef, undef, undef, undef, undef, undef, undef, undef, undef, undef, undef, undef, undef, undef, undef, undef, undef, undef, undef, undef, undef, undef, undef, undef, undef, undef, undef, undef, undef, undef, undef, undef, undef, undef, undef, undef, undef, undef, undef, undef, undef, undef, undef, undef, undef, undef, undef, undef, undef], defers := [] } ∧ Hid (L.size = 8 ∧ Below w1.heap.size w1 wz ∧ (L[0]? = some true → y17 = .agg #[.int .i64 S0, .slice va0 vn0 vc0]) ∧ (L[1]? = some true → LV w1 wz Lab.Fine y18) ∧ (L[2]? = some true → y19 = .agg #[.int .i64 S1, .slice va1 vn1 vc1]) ∧ (L[3]? = some true → LV w1 wz Lab.Fine y20) ∧ (L[4]? = some true → AV w1 wz y7) ∧ (L[5]? = some true → AV w1 wz y8) ∧ (L[4]? = some true → L[5]? = some true → y7 ≠ y8) ∧ (L[6]? = some true → SV wz y7 y18) ∧ (L[7]? = some true → SV wz y8 y20) ∧ (L[6]? = some true → (L[4]? = some true ∧ L[1]? = some true)) ∧ (L[7]? = some true → (L[5]? = some true ∧ L[3]? = some true)))) ?step ?fin _ _ _ _ ⟨_, _, _, _, _, _, rfl, Lib.hid ⟨by rfl, Below.drew (Below.refl _ _), gone (by rfl), gone (by rfl), gone (by rfl), gone (by rfl), gone (by rfl), gone (by rfl), gone (by rfl), gone (by rfl), gone (by rfl), gone (by rfl), gone (by rfl)⟩⟩ (by decide)
    case step =>
      intro L a wz i o hI ho hL hdeps K hK
      obtain ⟨y7, y8, y17, y18, y19, y20, rfl, hinv⟩ := hI
      have hi : i < 8 := by have := (Array.getElem?_eq_some_iff.1 ho).1; exact this
      obtain ⟨hN, hbel, z0, z1, z2, z3, z4, z5, z6, z7, z8, z9, z10⟩ := hinv.out
      obtain rfl | rfl | rfl | rfl | rfl | rfl | rfl | rfl : i = 0 ∨ i = 1 ∨ i = 2 ∨ i = 3 ∨ i = 4 ∨ i = 5 ∨ i = 6 ∨ i = 7 := by omega
      · obtain rfl := Option.some.inj ho
        obtain ⟨b0, b1, _⟩ := SS.out wz hbel
        clear ho
        have Z := hinv
        clear hinv hbel hN hdeps z0 z1 z2 z3 z4 z5 z6 z7 z8 z9 z10
        go_simp
        obtain ⟨hN, hbel, z0, z1, z2, z3, z4, z5, z6, z7, z8, z9, z10⟩ := Z.out
        exact hK _ _ ⟨_, _, _, _, _, _, rfl, Lib.hid ⟨by simpa using hN, hbel, fun _ => rfl, fun g0 => (z1 ((set_other (by decide)).symm.trans g0)), fun g0 => (z2 ((set_other (by decide)).symm.trans g0)), fun g0 => (z3 ((set_other (by decide)).symm.trans g0)), fun g0 => (z4 ((set_other (by decide)).symm.trans g0)), fun g0 => (z5 ((set_other (by decide)).symm.trans g0)), fun g0 g1 => (z6 ((set_other (by decide)).symm.trans g0) ((set_other (by decide)).symm.trans g1)), fun g0 => (z7 ((set_other (by decide)).symm.trans g0)), fun g0 => (z8 ((set_other (by decide)).symm.trans g0)), fun g0 => ⟨set_keep (z9 ((set_other (by decide)).symm.trans g0)).1, set_keep (z9 ((set_other (by decide)).symm.trans g0)).2⟩, fun g0 => ⟨set_keep (z10 ((set_other (by decide)).symm.trans g0)).1, set_keep (z10 ((set_other (by decide)).symm.trans g0)).2⟩⟩⟩
      · obtain rfl := Option.some.inj ho
        have e0 := z0 (dep (by simp [Region.binds] at hdeps ⊢; simp [hdeps]))
        subst e0
        have CC := Lib.hid (C0.out wz hbel)
        have Z := hinv
        clear hinv ho hbel hN hdeps z0 z1 z2 z3 z4 z5 z6 z7 z8 z9 z10
        go_simp
        refine CC.out.mono ?_
        rintro e wq ⟨D, a, n, c, ps, rfl, hg, how, hb'⟩
        obtain ⟨hN, hbel, z0, z1, z2, z3, z4, z5, z6, z7, z8, z9, z10⟩ := Z.out
        exact hK _ _ ⟨_, _, _, _, _, _, rfl, Lib.hid ⟨by simpa using hN, hbel.trans (hb'.mono hbel.size), fun g0 => (z0 ((set_other (by decide)).symm.trans g0)), fun _ => ⟨D, a, n, c, ps, rfl, hg, owns_mono how hbel.size⟩, fun g0 => (z2 ((set_other (by decide)).symm.trans g0)), fun g0 => (z3 ((set_other (by decide)).symm.trans g0)).below hb', fun g0 => (z4 ((set_other (by decide)).symm.trans g0)).below hb', fun g0 => (z5 ((set_other (by decide)).symm.trans g0)).below hb', fun g0 g1 => (z6 ((set_other (by decide)).symm.trans g0) ((set_other (by decide)).symm.trans g1)), fun g0 => not_done hL (z9 ((set_other (by decide)).symm.trans g0)).2, fun g0 => (z8 ((set_other (by decide)).symm.trans g0)).below hb', fun g0 => ⟨set_keep (z9 ((set_other (by decide)).symm.trans g0)).1, set_keep (z9 ((set_other (by decide)).symm.trans g0)).2⟩, fun g0 => ⟨set_keep (z10 ((set_other (by decide)).symm.trans g0)).1, set_keep (z10 ((set_other (by decide)).symm.trans g0)).2⟩⟩⟩
      · obtain rfl := Option.some.inj ho
        obtain ⟨_, _, b0, b1, _⟩ := SS.out wz hbel
        clear ho
        have Z := hinv
        clear hinv hbel hN hdeps z0 z1 z2 z3 z4 z5 z6 z7 z8 z9 z10
        go_simp
        obtain ⟨hN, hbel, z0, z1, z2, z3, z4, z5, z6, z7, z8, z9, z10⟩ := Z.out
        exact hK _ _ ⟨_, _, _, _, _, _, rfl, Lib.hid ⟨by simpa using hN, hbel, fun g0 => (z0 ((set_other (by decide)).symm.trans g0)), fun g0 => (z1 ((set_other (by decide)).symm.trans g0)), fun _ => rfl, fun g0 => (z3 ((set_other (by decide)).symm.trans g0)), fun g0 => (z4 ((set_other (by decide)).symm.trans g0)), fun g0 => (z5 ((set_other (by decide)).symm.trans g0)), fun g0 g1 => (z6 ((set_other (by decide)).symm.trans g0) ((set_other (by decide)).symm.trans g1)), fun g0 => (z7 ((set_other (by decide)).symm.trans g0)), fun g0 => (z8 ((set_other (by decide)).symm.trans g0)), fun g0 => ⟨set_keep (z9 ((set_other (by decide)).symm.trans g0)).1, set_keep (z9 ((set_other (by decide)).symm.trans g0)).2⟩, fun g0 => ⟨set_keep (z10 ((set_other (by decide)).symm.trans g0)).1, set_keep (z10 ((set_other (by decide)).symm.trans g0)).2⟩⟩⟩
      · obtain rfl := Option.some.inj ho
        have e2 := z2 (dep (by simp [Region.binds] at hdeps ⊢; simp [hdeps]))
        subst e2
        have CC := Lib.hid (C1.out wz hbel)
        have Z := hinv
        clear hinv ho hbel hN hdeps z0 z1 z2 z3 z4 z5 z6 z7 z8 z9 z10
        go_simp
        refine CC.out.mono ?_
        rintro e wq ⟨D, a, n, c, ps, rfl, hg, how, hb'⟩
        obtain ⟨hN, hbel, z0, z1, z2, z3, z4, z5, z6, z7, z8, z9, z10⟩ := Z.out
        exact hK _ _ ⟨_, _, _, _, _, _, rfl, Lib.hid ⟨by simpa using hN, hbel.trans (hb'.mono hbel.size), fun g0 => (z0 ((set_other (by decide)).symm.trans g0)), fun g0 => (z1 ((set_other (by decide)).symm.trans g0)).below hb', fun g0 => (z2 ((set_other (by decide)).symm.trans g0)), fun _ => ⟨D, a, n, c, ps, rfl, hg, owns_mono how hbel.size⟩, fun g0 => (z4 ((set_other (by decide)).symm.trans g0)).below hb', fun g0 => (z5 ((set_other (by decide)).symm.trans g0)).below hb', fun g0 g1 => (z6 ((set_other (by decide)).symm.trans g0) ((set_other (by decide)).symm.trans g1)), fun g0 => (z7 ((set_other (by decide)).symm.trans g0)).below hb', fun g0 => not_done hL (z10 ((set_other (by decide)).symm.trans g0)).2, fun g0 => ⟨set_keep (z9 ((set_other (by decide)).symm.trans g0)).1, set_keep (z9 ((set_other (by decide)).symm.trans g0)).2⟩, fun g0 => ⟨set_keep (z10 ((set_other (by decide)).symm.trans g0)).1, set_keep (z10 ((set_other (by decide)).symm.trans g0)).2⟩⟩⟩
      · obtain rfl := Option.some.inj ho
        have Z := hinv
        clear hinv ho hbel hN hdeps z0 z1 z2 z3 z4 z5 z6 z7 z8 z9 z10
        go_simp
        obtain ⟨hN, hbel, z0, z1, z2, z3, z4, z5, z6, z7, z8, z9, z10⟩ := Z.out
        have hb' := below_alloc1 wz (Obj.cells #[.int .i64 0, .slice none 0 0] 24)
        exact hK _ _ ⟨_, _, _, _, _, _, rfl, Lib.hid ⟨by simpa using hN, hbel.trans (hb'.mono hbel.size), fun g0 => (z0 ((set_other (by decide)).symm.trans g0)), fun g0 => (z1 ((set_other (by decide)).symm.trans g0)).below hb', fun g0 => (z2 ((set_other (by decide)).symm.trans g0)), fun g0 => (z3 ((set_other (by decide)).symm.trans g0)).below hb', fun _ => AV.new _ _ _ _ hbel.size, fun g0 => (z5 ((set_other (by decide)).symm.trans g0)).below hb', fun g0 g1 => ((z5 ((set_other (by decide)).symm.trans g1)).ne).symm, fun g0 => not_done hL (z9 ((set_other (by decide)).symm.trans g0)).1, fun g0 => (z8 ((set_other (by decide)).symm.trans g0)).below hb', fun g0 => ⟨set_keep (z9 ((set_other (by decide)).symm.trans g0)).1, set_keep (z9 ((set_other (by decide)).symm.trans g0)).2⟩, fun g0 => ⟨set_keep (z10 ((set_other (by decide)).symm.trans g0)).1, set_keep (z10 ((set_other (by decide)).symm.trans g0)).2⟩⟩⟩
      · obtain rfl := Option.some.inj ho
        have Z := hinv
        clear hinv ho hbel hN hdeps z0 z1 z2 z3 z4 z5 z6 z7 z8 z9 z10
        go_simp
        obtain ⟨hN, hbel, z0, z1, z2, z3, z4, z5, z6, z7, z8, z9, z10⟩ := Z.out
        have hb' := below_alloc1 wz (Obj.cells #[.int .i64 0, .slice none 0 0] 24)
        exact hK _ _ ⟨_, _, _, _, _, _, rfl, Lib.hid ⟨by simpa using hN, hbel.trans (hb'.mono hbel.size), fun g0 => (z0 ((set_other (by decide)).symm.trans g0)), fun g0 => (z1 ((set_other (by decide)).symm.trans g0)).below hb', fun g0 => (z2 ((set_other (by decide)).symm.trans g0)), fun g0 => (z3 ((set_other (by decide)).symm.trans g0)).below hb', fun g0 => (z4 ((set_other (by decide)).symm.trans g0)).below hb', fun _ => AV.new _ _ _ _ hbel.size, fun g0 g1 => (z4 ((set_other (by decide)).symm.trans g0)).ne, fun g0 => (z7 ((set_other (by decide)).symm.trans g0)).below hb', fun g0 => not_done hL (z10 ((set_other (by decide)).symm.trans g0)).1, fun g0 => ⟨set_keep (z9 ((set_other (by decide)).symm.trans g0)).1, set_keep (z9 ((set_other (by decide)).symm.trans g0)).2⟩, fun g0 => ⟨set_keep (z10 ((set_other (by decide)).symm.trans g0)).1, set_keep (z10 ((set_other (by decide)).symm.trans g0)).2⟩⟩⟩
      · obtain rfl := Option.some.inj ho
        have hds : L[4]? = some true ∧ L[5]? = some true ∧ L[1]? = some true := by
          simp [Region.binds] at hdeps
          refine ⟨?_, ?_, ?_⟩ <;> (refine dep ?_; simp [hdeps])
        obtain ⟨d4, d5, d1⟩ := hds
        obtain ⟨A0, hA1, hA2, x0, u0, hA3⟩ := z4 d4
        obtain ⟨D, a, n, c, ps, hc1, hc2, hc3⟩ := z1 d1
        subst hA1
        subst hc1
        obtain ⟨s0, s1, s2, s3, s4, _⟩ := old2 wz A0 24 _ _ (.int .i64 D) (.slice a n c) hA3
        have S4 := Lib.hid s4
        have HA3 := Lib.hid hA3
        have HA2 := Lib.hid hA2
        have Z := hinv
        clear hinv ho hbel hN hdeps s4 hA2 hA3 hc2 hc3 z0 z1 z2 z3 z4 z5 z6 z7 z8 z9 z10
        go_simp
        obtain ⟨hN, hbel, z0, z1, z2, z3, z4, z5, z6, z7, z8, z9, z10⟩ := Z.out
        have hA4 := heap_setCell_same wz A0 0 _ 24 (.int .i64 D) HA3.out
        simp only [List.setIfInBounds_toArray, List.set_cons_zero] at hA4
        exact hK _ _ ⟨_, _, _, _, _, _, rfl, Lib.hid ⟨by simpa using hN, (hbel.setCell (p := ⟨A0, 0, none⟩) HA2.out _).setCell (p := ⟨A0, 1, none⟩) HA2.out _, fun g0 => (z0 ((set_other (by decide)).symm.trans g0)), fun g0 => ((z1 ((set_other (by decide)).symm.trans g0)).set HA3.out).set hA4, fun g0 => (z2 ((set_other (by decide)).symm.trans g0)), fun g0 => ((z3 ((set_other (by decide)).symm.trans g0)).set HA3.out).set hA4, fun _ => ⟨A0, rfl, HA2.out, _, _, S4.out⟩, fun g0 => ((z5 ((set_other (by decide)).symm.trans g0)).set ((z6 d4 d5)).symm).set ((z6 d4 d5)).symm, fun g0 g1 => (z6 ((set_other (by decide)).symm.trans g0) ((set_other (by decide)).symm.trans g1)), fun _ => ⟨A0, D, .slice a n c, rfl, rfl, S4.out⟩, fun g0 => ((z8 ((set_other (by decide)).symm.trans g0)).set ((z6 d4 d5)).symm).set ((z6 d4 d5)).symm, fun _ => ⟨set_keep d4, set_keep d1⟩, fun g0 => ⟨set_keep (z10 ((set_other (by decide)).symm.trans g0)).1, set_keep (z10 ((set_other (by decide)).symm.trans g0)).2⟩⟩⟩
      · obtain rfl := Option.some.inj ho
        have hds : L[5]? = some true ∧ L[4]? = some true ∧ L[3]? = some true := by
          simp [Region.binds] at hdeps
          refine ⟨?_, ?_, ?_⟩ <;> (refine dep ?_; simp [hdeps])
        obtain ⟨d5, d4, d3⟩ := hds
        obtain ⟨A0, hA1, hA2, x0, u0, hA3⟩ := z5 d5
        obtain ⟨D, a, n, c, ps, hc1, hc2, hc3⟩ := z3 d3
        subst hA1
        subst hc1
        obtain ⟨s0, s1, s2, s3, s4, _⟩ := old2 wz A0 24 _ _ (.int .i64 D) (.slice a n c) hA3
        have S4 := Lib.hid s4
        have HA3 := Lib.hid hA3
        have HA2 := Lib.hid hA2
        have Z := hinv
        clear hinv ho hbel hN hdeps s4 hA2 hA3 hc2 hc3 z0 z1 z2 z3 z4 z5 z6 z7 z8 z9 z10
        go_simp
        obtain ⟨hN, hbel, z0, z1, z2, z3, z4, z5, z6, z7, z8, z9, z10⟩ := Z.out
        have hA4 := heap_setCell_same wz A0 0 _ 24 (.int .i64 D) HA3.out
        simp only [List.setIfInBounds_toArray, List.set_cons_zero] at hA4
        exact hK _ _ ⟨_, _, _, _, _, _, rfl, Lib.hid ⟨by simpa using hN, (hbel.setCell (p := ⟨A0, 0, none⟩) HA2.out _).setCell (p := ⟨A0, 1, none⟩) HA2.out _, fun g0 => (z0 ((set_other (by decide)).symm.trans g0)), fun g0 => ((z1 ((set_other (by decide)).symm.trans g0)).set HA3.out).set hA4, fun g0 => (z2 ((set_other (by decide)).symm.trans g0)), fun g0 => ((z3 ((set_other (by decide)).symm.trans g0)).set HA3.out).set hA4, fun g0 => ((z4 ((set_other (by decide)).symm.trans g0)).set (z6 d4 d5)).set (z6 d4 d5), fun _ => ⟨A0, rfl, HA2.out, _, _, S4.out⟩, fun g0 g1 => (z6 ((set_other (by decide)).symm.trans g0) ((set_other (by decide)).symm.trans g1)), fun g0 => ((z7 ((set_other (by decide)).symm.trans g0)).set (z6 d4 d5)).set (z6 d4 d5), fun _ => ⟨A0, D, .slice a n c, rfl, rfl, S4.out⟩, fun g0 => ⟨set_keep (z9 ((set_other (by decide)).symm.trans g0)).1, set_keep (z9 ((set_other (by decide)).symm.trans g0)).2⟩, fun _ => ⟨set_keep d5, set_keep d3⟩⟩⟩
    case fin =>
      intro L a wz hI hr
      obtain ⟨y7, y8, y17, y18, y19, y20, rfl, hinv⟩ := hI
      obtain ⟨hN, hbel, z0, z1, z2, z3, z4, z5, z6, z7, z8, z9, z10⟩ := hinv.out
      have f0 : L[0]? = some true := by
        cases hb : L[0]? with
        | none => have := (Array.getElem?_eq_none_iff.1 hb); omega
        | some b =>
          cases b with
          | true => rfl
          | false =>
            exact (ready_nil hr hb (by rfl) (by simp [Region.binds])).elim
      have f1 : L[1]? = some true := by
        cases hb : L[1]? with
        | none => have := (Array.getElem?_eq_none_iff.1 hb); omega
        | some b =>
          cases b with
          | true => rfl
          | false =>
            exact (ready_nil hr hb (by rfl) (by simp [Region.binds, f0])).elim
      have f2 : L[2]? = some true := by
        cases hb : L[2]? with
        | none => have := (Array.getElem?_eq_none_iff.1 hb); omega
        | some b =>
          cases b with
          | true => rfl
          | false =>
            exact (ready_nil hr hb (by rfl) (by simp [Region.binds, f0, f1])).elim
      have f3 : L[3]? = some true := by
        cases hb : L[3]? with
        | none => have := (Array.getElem?_eq_none_iff.1 hb); omega
        | some b =>
          cases b with
          | true => rfl
          | false =>
            exact (ready_nil hr hb (by rfl) (by simp [Region.binds, f0, f1, f2])).elim
      have f4 : L[4]? = some true := by
        cases hb : L[4]? with
        | none => have := (Array.getElem?_eq_none_iff.1 hb); omega
        | some b =>
          cases b with
          | true => rfl
          | false =>
            exact (ready_nil hr hb (by rfl) (by simp [Region.binds, f0, f1, f2, f3])).elim
      have f5 : L[5]? = some true := by
        cases hb : L[5]? with
        | none => have := (Array.getElem?_eq_none_iff.1 hb); omega
        | some b =>
          cases b with
          | true => rfl
          | false =>
            exact (ready_nil hr hb (by rfl) (by simp [Region.binds, f0, f1, f2, f3, f4])).elim
      have f6 : L[6]? = some true := by
        cases hb : L[6]? with
        | none => have := (Array.getElem?_eq_none_iff.1 hb); omega
        | some b =>
          cases b with
          | true => rfl
          | false =>
            exact (ready_nil hr hb (by rfl) (by simp [Region.binds, f0, f1, f2, f3, f4, f5])).elim
      have f7 : L[7]? = some true := by
        cases hb : L[7]? with
        | none => have := (Array.getElem?_eq_none_iff.1 hb); omega
        | some b =>
          cases b with
          | true => rfl
          | false =>
            exact (ready_nil hr hb (by rfl) (by simp [Region.binds, f0, f1, f2, f3, f4, f5, f6])).elim
      obtain ⟨A0, D0, v0, hp0, hy0, hh0⟩ := z7 f6
      obtain ⟨D0', a0, n0, c0, ps0, hz0, hg0, ho0⟩ := z1 f1
      rw [hy0] at hz0
      obtain ⟨rfl, rfl⟩ : D0 = D0' ∧ v0 = .slice a0 n0 c0 := by simpa using hz0
      obtain ⟨A1, D1, v1, hp1, hy1, hh1⟩ := z8 f7
      obtain ⟨D1', a1, n1, c1, ps1, hz1, hg1, ho1⟩ := z3 f3
      rw [hy1] at hz1
      obtain ⟨rfl, rfl⟩ : D1 = D1' ∧ v1 = .slice a1 n1 c1 := by simpa using hz1
      subst hp0 hp1
      have HF := Lib.hid (show Lbl wz A0 D0 (.slice a0 n0 c0) ps0 ∧ Lbl wz A1 D1 (.slice a1 n1 c1) ps1 ∧ Lab.Fine D0 ps0 ∧ Lab.Fine D1 ps1 ∧ Below w1.heap.size w1 wz from ⟨⟨hh0, rc_of_owns ho0 (by have := hg0.2.2.2.2; omega)⟩, ⟨hh1, rc_of_owns ho1 (by have := hg1.2.2.2.2; omega)⟩, hg0, hg1, hbel⟩)
      go_wp2_with fail
      go_meet
      exact ⟨_, _, _, _, _, _, _, _, _, _, _, _, rfl, rfl, HF⟩
  case rest =>
    obtain ⟨A0, D0, ps0, a0, n0, c0, A1, D1, ps1, a1, n1, c1, rfl, rfl, HF⟩ := hcut
    have HBw := Lib.hid (HS.out w1 (Below.refl _ _)).1
    have SX := Lib.hid (fun (wx : World) (h : Below w1.heap.size w1 wx) => (⟨(SS.out wx h).2.2.2.2.1, (SS.out wx h).2.2.2.2.2⟩ : wx.cell? ⟨w.heap.size + 2, 0, none⟩ = some (.int .i64 x2) ∧ wx.cell? ⟨w.heap.size + 2, 1, none⟩ = some (.int .i64 y2)))
    clear HS SS C0 C1 hcall HI0 HI1 HK HB HFit
    obtain ⟨X, rfl⟩ : ∃ X, X = wc := ⟨_, rfl⟩
    obtain ⟨L0, L1, F0, F1, hbx⟩ := HF.out
    have HX := Lib.hid (HBw.out.trans (hbx.mono HBw.out.size))
    have O0 := Lib.hid F0.1
    have l0 := F0.2.2.2.2
    have O1 := Lib.hid F1.1
    have l1 := F1.2.2.2.2
    obtain ⟨q0a, q0b⟩ := SX.out X hbx
    go_upto_region 4 with fail
    go_region
    obtain ⟨c, hc1, hc2, hc⟩ := cat_of x2
    obtain ⟨l, el⟩ : ∃ l, (wrap64 (y2.tmod 5 + 5)).tmod 5 = l := ⟨_, rfl⟩
    simp only [hc, el]
    clear hc el q0a q0b
    obtain ⟨Y, eY⟩ : ∃ Y, Y = X.drew := ⟨_, rfl⟩
    rw [← eY]
    have hxy : Below X.heap.size X Y := by rw [eY]; exact (Below.refl _ _).drew
    have HY := Lib.hid (HX.out.trans (hxy.mono HX.out.size))
    clear eY
    obtain ⟨Zw, eZw⟩ : ∃ X, Lab.put D0 ps0 c l = X := ⟨_, rfl⟩
    have lZw : Zw.length ≤ 13 := by rw [← eZw]; have := Lab.put_len D0 ps0 c l; omega
    have Ow := Lib.hid (show Lab.Ok D0 Zw by rw [← eZw]; exact Lab.put_ok O0.out hc1 (by omega))
    have hAt := Lib.hid (show Lab.at' D0 Zw c = l by rw [← eZw, Lab.put_at, if_pos rfl])
    obtain ⟨Mu, eMu⟩ : ∃ X, Lab.turn 0 5 D0 = X := ⟨_, rfl⟩
    obtain ⟨Zu, eZu⟩ : ∃ X, Lab.tn 0 5 D0 ps0 = X := ⟨_, rfl⟩
    have Ou := Lib.hid (show Lab.Ok Mu Zu by rw [← eMu, ← eZu]; exact Lab.tn_ok O0.out)
    have lZu : Zu.length ≤ 24 := by rw [← eZu]; have := Lab.tn_len 0 5 D0 ps0; omega
    obtain ⟨rab, hrab⟩ := bool_is (∀ c, Lab.at' D0 ps0 c ≤ Lab.at' D1 ps1 c)
    have Qab := Lib.hid (fun (W : World) (v0 v1 : Value) (r0 : RC W.heap.size W v0 ps0) (r1 : RC W.heap.size W v1 ps1) => (pleq_any D0 D1 v0 v1 ps0 ps1 W O0.out O1.out r0 r1 rab hrab : Calls Try.prog 31 #[.agg #[.int .i64 D0, v0], .agg #[.int .i64 D1, v1]] W fun e w' => e = .returned (.bool rab) ∧ Below W.heap.size W w'))
    obtain ⟨rub, hrub⟩ := bool_is (∀ c, Lab.at' Mu Zu c ≤ Lab.at' D1 ps1 c)
    have Qub := Lib.hid (fun (W : World) (v0 v1 : Value) (r0 : RC W.heap.size W v0 Zu) (r1 : RC W.heap.size W v1 ps1) => (pleq_any Mu D1 v0 v1 Zu ps1 W Ou.out O1.out r0 r1 rub hrub : Calls Try.prog 31 #[.agg #[.int .i64 Mu, v0], .agg #[.int .i64 D1, v1]] W fun e w' => e = .returned (.bool rub) ∧ Below W.heap.size W w'))
    have CU := Lib.hid (by rw [← eZw]; exact with_c c l O0.out (L0.below hxy).rc (by omega) : Calls Try.prog 25 #[.agg #[.int .i64 D0, .slice a0 n0 c0], .int .u32 c, .int .i64 l] Y (LG Y D0 Zw))
    have PW := Lib.hid (fun (W : World) (v0 : Value) (r0 : RC W.heap.size W v0 ps0) => (by rw [← eZw]; exact rwith_c c l O0.out r0 (by omega) hc1 (by omega) : Calls Try.prog 30 #[.agg #[.int .i64 D0, v0], .int .u32 c, .int .i64 l] W (LG W D0 Zw)))
    obtain ⟨va, eva⟩ : ∃ X, Lab.at' D0 ps0 c = X := ⟨_, rfl⟩
    have PA := Lib.hid (fun (W : World) (v0 : Value) (r0 : RC W.heap.size W v0 ps0) => (at_c O0.out r0 eva : Calls Try.prog 28 #[.agg #[.int .i64 D0, v0], .int .u32 c] W fun e w' => e = .returned (.int .i64 va) ∧ Below W.heap.size W w'))
    have PAR := Lib.hid (fun (W : World) (v0 : Value) (r0 : RC W.heap.size W v0 ps0) => (rat_c r0 eva : Calls Try.prog 29 #[.agg #[.int .i64 D0, v0], .int .u32 c] W fun e w' => e = .returned (.int .i64 va) ∧ Below W.heap.size W w'))
    have PAW := Lib.hid (fun (W : World) (v0 : Value) (r0 : RC W.heap.size W v0 Zw) => (at_c Ow.out r0 hAt.out : Calls Try.prog 28 #[.agg #[.int .i64 D0, v0], .int .u32 c] W fun e w' => e = .returned (.int .i64 l) ∧ Below W.heap.size W w'))
    have PU := Lib.hid (fun (W : World) (v0 : Value) (r0 : RC W.heap.size W v0 ps0) => (by rw [← eMu, ← eZu]; exact raise_c r0 (by omega) : Calls Try.prog 17 #[.agg #[.int .i64 D0, v0]] W (LG W Mu Zu)))
    have PUR := Lib.hid (fun (W : World) (v0 : Value) (r0 : RC W.heap.size W v0 ps0) => (by rw [← eMu, ← eZu]; exact rraise_c O0.out r0 (by omega) : Calls Try.prog 20 #[.agg #[.int .i64 D0, v0]] W (LG W Mu Zu)))
    have QRab := Lib.hid (fun (W : World) (v0 v1 : Value) (r0 : RC W.heap.size W v0 ps0) (r1 : RC W.heap.size W v1 ps1) => (rleq_c rab O0.out O1.out r0 r1 (by omega) hrab : Calls Try.prog 32 #[.agg #[.int .i64 D0, v0], .agg #[.int .i64 D1, v1]] W fun e w' => e = .returned (.bool rab) ∧ Below W.heap.size W w'))
    have QRub := Lib.hid (fun (W : World) (v0 v1 : Value) (r0 : RC W.heap.size W v0 Zu) (r1 : RC W.heap.size W v1 ps1) => (rleq_c rub Ou.out O1.out r0 r1 (by omega) hrub : Calls Try.prog 32 #[.agg #[.int .i64 Mu, v0], .agg #[.int .i64 D1, v1]] W fun e w' => e = .returned (.bool rub) ∧ Below W.heap.size W w'))
    obtain ⟨sm, esm⟩ : ∃ s, decide (D0 = D1 ∧ ps0 = ps1) = s := ⟨_, rfl⟩
    have PS := Lib.hid (fun (W : World) (v0 v1 : Value) (r0 : RC W.heap.size W v0 ps0) (r1 : RC W.heap.size W v1 ps1) => (by rw [← esm]; exact same_c r0 r1 : Calls Try.prog 18 #[.agg #[.int .i64 D0, v0], .agg #[.int .i64 D1, v1]] W fun e w' => e = .returned (.bool sm) ∧ Below W.heap.size W w'))
    have PSR := Lib.hid (fun (W : World) (v0 v1 : Value) (r0 : RC W.heap.size W v0 ps0) (r1 : RC W.heap.size W v1 ps1) => (by rw [← esm]; exact same_any v0 v1 ps0 ps1 D0 D1 W (r0.reads (Nat.le_refl _)) (r1.reads (Nat.le_refl _)) : Calls Try.prog 33 #[.agg #[.int .i64 D0, v0], .agg #[.int .i64 D1, v1]] W fun e w' => e = .returned (.bool sm) ∧ Below W.heap.size W w'))
    obtain ⟨n, en⟩ : ∃ n, (Lab.owns ps0).length = n := ⟨_, rfl⟩
    have hn12 : n ≤ 12 := by have := Lab.owns_le ps0; omega
    have PO := Lib.hid (fun (W : World) (v0 : Value) (r0 : RC W.heap.size W v0 ps0) => ((owns_c r0 (by omega)).mono (fun e w' ⟨a, c, h1, h2, h3⟩ => ⟨a, c, by rw [h1, en], h2, h3⟩) : Calls Try.prog 26 #[.agg #[.int .i64 D0, v0]] W (fun e w' => ∃ a c, e = .returned (.slice a n c) ∧ OR w' a (Lab.owns ps0) ∧ Below W.heap.size W w')))
    have POR := Lib.hid (fun (W : World) (v0 : Value) (r0 : RC W.heap.size W v0 ps0) => ((rowns_c r0 (by omega)).mono (fun e w' ⟨a, c, h1, h2, h3⟩ => ⟨a, c, by rw [h1, en], h2, h3⟩) : Calls Try.prog 27 #[.agg #[.int .i64 D0, v0]] W (fun e w' => ∃ a c, e = .returned (.slice a n c) ∧ OR w' a (Lab.owns ps0) ∧ Below W.heap.size W w')))
    have EN := Lib.hid en
    obtain ⟨b0, b1⟩ := (L0.below hxy).cells
    have HL := Lib.hid (And.intro (L0.below hxy) (L1.below hxy))
    clear en hrab hrub L0 L1 F0 F1 hbx HF HBw eMu eZu eZw eva esm hxy HX SX hAt
    go_upto_region 5 with fail
    go_wp2_with fail
    refine CU.out.mono ?_
    rintro e Y1 ⟨a2, n2, c2, rfl, hou, hbu⟩
    have hb2 := below_alloc1 Y1 (Obj.cells #[.int .i64 D0, .slice a2 n2 c2] 24)
    have hk4 := heap_alloc_new Y1 (Obj.cells #[.int .i64 D0, .slice a2 n2 c2] 24)
    obtain ⟨s0, s1, s2, s3, _⟩ := fresh2 Y1 24 (.int .i64 0) (.slice none 0 0) (.int .i64 D0) (.slice a2 n2 c2)
    have hru := rc_of_owns hou (by omega)
    go_upto_region 6 with fail
    obtain ⟨X6, e6⟩ : ∃ X6, X6 = Y1.alloc (Obj.cells #[.int .i64 D0, .slice a2 n2 c2] 24) := ⟨_, rfl⟩
    rw [← e6] at hb2 hk4 ⊢
    clear e6 s0 s1 s2 s3 b0 b1
    obtain ⟨A2, eA2⟩ : ∃ A2, Y1.heap.size = A2 := ⟨_, rfl⟩
    rw [eA2] at hk4 ⊢
    clear eA2
    have hyx : Below Y.heap.size Y X6 := hbu.trans (hb2.mono hbu.size)
    have U2 : Lbl X6 A2 D0 (.slice a2 n2 c2) Zw := ⟨hk4, (hru.below hb2).mono hb2.size⟩
    obtain ⟨L0, L1⟩ := HL.out
    have hxw := HY.out.trans (hyx.mono HY.out.size)
    have KS := Lib.hid (fun (wx : World) (h : Below X6.heap.size X6 wx) => (⟨(L0.below hyx).below h, (L1.below hyx).below h, (U2).below h, (hxw).trans (h.mono (hxw).size)⟩ : Lbl wx A0 D0 (.slice a0 n0 c0) ps0 ∧ Lbl wx A1 D1 (.slice a1 n1 c1) ps1 ∧ Lbl wx A2 D0 (.slice a2 n2 c2) Zw ∧ Below w.heap.size w wx))
    have SC := Lib.hid (fun (wx : World) (h : Below X6.heap.size X6 wx) => (⟨(KS.out wx h).1.cells.1, (KS.out wx h).1.cells.2, (KS.out wx h).2.1.cells.1, (KS.out wx h).2.1.cells.2, (KS.out wx h).2.2.1.cells.1, (KS.out wx h).2.2.1.cells.2⟩ : wx.cell? ⟨A0, 0, none⟩ = some (.int .i64 D0) ∧ wx.cell? ⟨A0, 1, none⟩ = some ((.slice a0 n0 c0)) ∧ wx.cell? ⟨A1, 0, none⟩ = some (.int .i64 D1) ∧ wx.cell? ⟨A1, 1, none⟩ = some ((.slice a1 n1 c1)) ∧ wx.cell? ⟨A2, 0, none⟩ = some (.int .i64 D0) ∧ wx.cell? ⟨A2, 1, none⟩ = some ((.slice a2 n2 c2))))
    clear hru hou hbu hb2 hk4 hyx U2 L0 L1 hxw HL CU HY O0 O1 Ow Ou
    go_cut [12, 13, 35, 36, 37, 38] (fun s12 s13 s35 s36 s37 s38 wx => ∃ a3 c3 a4 c4, s12 = .slice a3 n c3 ∧ s13 = .slice a4 n c4 ∧ Hid (OR wx a3 (Lab.owns ps0) ∧ OR wx a4 (Lab.owns ps0) ∧ Below X6.heap.size X6 wx))
    case first =>
      have hcall := Lib.hid ((Below.refl X6.heap.size X6).drew)
      have st0 := Lib.hid (show 0 = 0 from rfl)
      go_region_held3 (fun w' => w'.cell? ⟨A0, 0, none⟩ = some (.int .i64 D0) ∧ w'.cell? ⟨A0, 1, none⟩ = some ((.slice a0 n0 c0)) ∧ w'.cell? ⟨A1, 0, none⟩ = some (.int .i64 D1) ∧ w'.cell? ⟨A1, 1, none⟩ = some ((.slice a1 n1 c1)) ∧ w'.cell? ⟨A2, 0, none⟩ = some (.int .i64 D0) ∧ w'.cell? ⟨A2, 1, none⟩ = some ((.slice a2 n2 c2)))
        (first
          | exact SC.out _ hcall.out)
        (first
          | (have _ := st0
             with_reducible refine (PO.out _ _ (KS.out _ hcall.out).1.rc).mono ?_
             rintro e wq ⟨a3, c3, rfl, hor3, hb'⟩
             have R3 := Lib.hid hor3
             clear hor3
             replace hcall := Lib.hid (hcall.out.trans (hb'.mono hcall.out.size))
             clear hb' st0
             have st1 := Lib.hid (show 1 = 1 from rfl))
          | (have _ := st1
             with_reducible refine (POR.out _ _ (KS.out _ hcall.out).1.rc).mono ?_
             rintro e wq ⟨a4, c4, rfl, hor4, hb'⟩
             have R4 := Lib.hid hor4
             clear hor4
             replace R3 := Lib.hid (R3.out.below hb')
             replace hcall := Lib.hid (hcall.out.trans (hb'.mono hcall.out.size))
             clear hb' st1
             have st2 := Lib.hid (show 2 = 2 from rfl)))
      all_goals
        go_wp2_with fail
        go_meet
        exact ⟨_, _, _, _, rfl, rfl, Lib.hid ⟨R3.out.below (Below.refl _ _), R4.out.below (Below.refl _ _), hcall.out⟩⟩
    case rest =>
      obtain ⟨a3, c3, a4, c4, rfl, rfl, HF3⟩ := hcut
      obtain ⟨X7, rfl⟩ : ∃ X7, X7 = wc := ⟨_, rfl⟩
      have R3 := Lib.hid HF3.out.1
      have R4 := Lib.hid HF3.out.2.1
      have H7 := Lib.hid HF3.out.2.2
      clear HF3 PO POR
      go_wp2_with fail
      go_loopg [46] n (fun g i wr => ∃ k : Nat, k ≤ n ∧ Hid (g = n - k) ∧ i = .int .i64 k ∧ Hid (Below X7.heap.size X7 wr))
      case atStart => exact ⟨0, by omega, Lib.hid (by omega), rfl, Lib.hid (Below.refl _ _)⟩
      case round =>
        obtain ⟨k, hk, hg, rfl, hr⟩ := hrel
        by_cases hlt : k < n
        · obtain ⟨x, hx⟩ : ∃ c, (Lab.owns ps0)[k]? = some c := ⟨_, List.getElem?_eq_getElem (by rw [EN.out]; exact hlt)⟩
          obtain ⟨b3, o3, rfl, hb3, h3⟩ := (R3.out.below hr.out) k x hx
          obtain ⟨b4, o4, rfl, hb4, h4⟩ := (R4.out.below hr.out) k x hx
          clear hx
          go_upto_region 12 with fail
          go_region
          all_goals
            go_wp2_with fail
            go_roundg (n - (k + 1))
            case measure => rw [hg.out]; omega
            case rel => exact ⟨k + 1, by omega, Lib.hid rfl, by go_num, Lib.hid hr.out.drew⟩
        · have hcall := Lib.hid (H7.out.trans (hr.out.mono H7.out.size)).drew
          clear R3 R4 EN hg hr H7
          go_upto_region 15 with fail
          have st0 := Lib.hid (show 0 = 0 from rfl)
          refine wp_region_held_drew (S := fun w' => w'.cell? ⟨A0, 0, none⟩ = some (.int .i64 D0) ∧ w'.cell? ⟨A0, 1, none⟩ = some ((.slice a0 n0 c0)) ∧ w'.cell? ⟨A1, 0, none⟩ = some (.int .i64 D1) ∧ w'.cell? ⟨A1, 1, none⟩ = some ((.slice a1 n1 c1)) ∧ w'.cell? ⟨A2, 0, none⟩ = some (.int .i64 D0) ∧ w'.cell? ⟨A2, 1, none⟩ = some ((.slice a2 n2 c2))) (by kernel_rfl) (SC.out _ hcall.out) (fun hHeld => ?_)
          refine wpAnyH_take (i := 0) (oi := { dst := some 59, op := Op.load 24 (Operand.tmp 7), type := 24, pos := "law.go:73", after := #[], guard := none }) (v := ?vv1) rfl (by kernel_rfl) (by kernel_rfl) (by kernel_rfl) (fun _ _ _ h => h) (Or.inl ⟨by rfl, ?hy1⟩) hHeld ?rest1
          case hy1 => (intro wS hSw; (try dsimp only at hSw); go_simp; try with_reducible rfl)
          simp only [Act.put, List.setIfInBounds_toArray, List.set_cons_zero, List.set_cons_succ]
          refine wpAnyH_take (i := 1) (oi := { dst := some 60, op := Op.move (Operand.tmp 9), type := 37, pos := "law.go:73", after := #[], guard := none }) (v := ?vv2) rfl (by kernel_rfl) (by kernel_rfl) (by kernel_rfl) (fun _ _ _ h => h) (Or.inl ⟨by rfl, ?hy2⟩) hHeld ?rest2
          case hy2 => (intro wS hSw; (try dsimp only at hSw); go_simp; try with_reducible rfl)
          simp only [Act.put, List.setIfInBounds_toArray, List.set_cons_zero, List.set_cons_succ]
          refine wpAnyH_take (i := 3) (oi := { dst := some 62, op := Op.load 24 (Operand.tmp 7), type := 24, pos := "law.go:73", after := #[], guard := none }) (v := ?vv3) rfl (by kernel_rfl) (by kernel_rfl) (by kernel_rfl) (fun _ _ _ h => h) (Or.inl ⟨by rfl, ?hy3⟩) hHeld ?rest3
          case hy3 => (intro wS hSw; (try dsimp only at hSw); go_simp; try with_reducible rfl)
          simp only [Act.put, List.setIfInBounds_toArray, List.set_cons_zero, List.set_cons_succ]
          refine wpAnyH_take (i := 4) (oi := { dst := some 63, op := Op.move (Operand.tmp 9), type := 37, pos := "law.go:73", after := #[], guard := none }) (v := ?vv4) rfl (by kernel_rfl) (by kernel_rfl) (by kernel_rfl) (fun _ _ _ h => h) (Or.inl ⟨by rfl, ?hy4⟩) hHeld ?rest4
          case hy4 => (intro wS hSw; (try dsimp only at hSw); go_simp; try with_reducible rfl)
          simp only [Act.put, List.setIfInBounds_toArray, List.set_cons_zero, List.set_cons_succ]
          refine wpAnyH_ready (rs := [2]) (by kernel_rfl) (by simp) ?_
          refine AllReadyH.cons (o := { dst := some 61, op := Op.call { callee := Callee.value (Operand.func 28), args := #[Operand.tmp 59, Operand.tmp 60], argTypes := #[24, 37] }, type := 3, pos := "law.go:73", after := #[{ on := 0, ground := Ground.data }, { on := 1, ground := Ground.data }], guard := none }) rfl (fun K hK => ?_) AllReadyH.nil
          go_simp
          with_reducible refine (PA.out _ _ (KS.out _ hcall.out).1.rc).mono ?_
          rintro e wq ⟨rfl, hb'⟩
          replace hcall := Lib.hid (hcall.out.trans (hb'.mono hcall.out.size))
          clear hb' hHeld
          try go_wp2_with fail
          refine hK.out _ _ (SC.out _ hcall.out) (fun hHeld => ?_)
          clear hK K
          try simp only [Act.put, List.setIfInBounds_toArray, List.set_cons_zero, List.set_cons_succ]
          refine wpAnyH_ready (rs := [5]) (by kernel_rfl) (by simp) ?_
          refine AllReadyH.cons (o := { dst := some 64, op := Op.call { callee := Callee.value (Operand.func 29), args := #[Operand.tmp 62, Operand.tmp 63], argTypes := #[24, 37] }, type := 3, pos := "law.go:73", after := #[{ on := 3, ground := Ground.data }, { on := 4, ground := Ground.data }, { on := 2, ground := Ground.chain }], guard := none }) rfl (fun K hK => ?_) AllReadyH.nil
          go_simp
          with_reducible refine (PAR.out _ _ (KS.out _ hcall.out).1.rc).mono ?_
          rintro e wq ⟨rfl, hb'⟩
          replace hcall := Lib.hid (hcall.out.trans (hb'.mono hcall.out.size))
          clear hb' hHeld
          try go_wp2_with fail
          refine hK.out _ _ (SC.out _ hcall.out) (fun hHeld => ?_)
          clear hK K
          try simp only [Act.put, List.setIfInBounds_toArray, List.set_cons_zero, List.set_cons_succ]
          refine wpAnyH_take (i := 6) (oi := { dst := some 65, op := Op.binOp BinOp.eql 3 (Operand.tmp 61) (Operand.tmp 64) 3, type := 4, pos := "law.go:73", after := #[{ on := 2, ground := Ground.data }, { on := 5, ground := Ground.data }], guard := none }) (v := ?vv5) rfl (by kernel_rfl) (by kernel_rfl) (by kernel_rfl) (fun _ _ _ h => h) (Or.inl ⟨by rfl, ?hy5⟩) hHeld ?rest5
          case hy5 => (intro wS hSw; (try dsimp only at hSw); go_simp; try with_reducible rfl)
          simp only [Act.put, List.setIfInBounds_toArray, List.set_cons_zero, List.set_cons_succ]
          refine wpAnyH_take (i := 7) (oi := { dst := some 66, op := Op.move (Operand.tmp 65), type := 4, pos := "law.go:73", after := #[{ on := 6, ground := Ground.data }, { on := 5, ground := Ground.chain }], guard := none }) (v := ?vv6) rfl (by kernel_rfl) (by kernel_rfl) (by kernel_rfl) (fun _ _ _ h => h) (Or.inl ⟨by rfl, ?hy6⟩) hHeld ?rest6
          case hy6 => (intro wS hSw; (try dsimp only at hSw); go_simp; try with_reducible rfl)
          simp only [Act.put, List.setIfInBounds_toArray, List.set_cons_zero, List.set_cons_succ]
          refine wpAnyH_take (i := 8) (oi := { dst := some 67, op := Op.load 24 (Operand.tmp 11), type := 24, pos := "law.go:73", after := #[{ on := 7, ground := Ground.guard }], guard := some (7, true) }) (v := ?vv7) rfl (by kernel_rfl) (by kernel_rfl) (by kernel_rfl) (fun _ _ _ h => h) (Or.inl ⟨by rfl, ?hy7⟩) hHeld ?rest7
          case hy7 => (intro wS hSw; (try dsimp only at hSw); go_simp; try with_reducible rfl)
          simp only [Act.put, List.setIfInBounds_toArray, List.set_cons_zero, List.set_cons_succ]
          refine wpAnyH_take (i := 9) (oi := { dst := some 68, op := Op.load 24 (Operand.tmp 7), type := 24, pos := "law.go:73", after := #[{ on := 7, ground := Ground.guard }], guard := some (7, true) }) (v := ?vv8) rfl (by kernel_rfl) (by kernel_rfl) (by kernel_rfl) (fun _ _ _ h => h) (Or.inl ⟨by rfl, ?hy8⟩) hHeld ?rest8
          case hy8 => (intro wS hSw; (try dsimp only at hSw); go_simp; try with_reducible rfl)
          simp only [Act.put, List.setIfInBounds_toArray, List.set_cons_zero, List.set_cons_succ]
          refine wpAnyH_take (i := 10) (oi := { dst := some 69, op := Op.move (Operand.tmp 9), type := 37, pos := "law.go:73", after := #[{ on := 7, ground := Ground.guard }], guard := some (7, true) }) (v := ?vv9) rfl (by kernel_rfl) (by kernel_rfl) (by kernel_rfl) (fun _ _ _ h => h) (Or.inl ⟨by rfl, ?hy9⟩) hHeld ?rest9
          case hy9 => (intro wS hSw; (try dsimp only at hSw); go_simp; try with_reducible rfl)
          simp only [Act.put, List.setIfInBounds_toArray, List.set_cons_zero, List.set_cons_succ]
          refine wpAnyH_take (i := 11) (oi := { dst := some 70, op := Op.move (Operand.tmp 10), type := 3, pos := "law.go:73", after := #[{ on := 7, ground := Ground.guard }], guard := some (7, true) }) (v := ?vv10) rfl (by kernel_rfl) (by kernel_rfl) (by kernel_rfl) (fun _ _ _ h => h) (Or.inl ⟨by rfl, ?hy10⟩) hHeld ?rest10
          case hy10 => (intro wS hSw; (try dsimp only at hSw); go_simp; try with_reducible rfl)
          simp only [Act.put, List.setIfInBounds_toArray, List.set_cons_zero, List.set_cons_succ]
          refine wpAnyH_ready (rs := [12]) (by kernel_rfl) (by simp) ?_
          refine AllReadyH.cons (o := { dst := some 71, op := Op.call { callee := Callee.value (Operand.func 30), args := #[Operand.tmp 68, Operand.tmp 69, Operand.tmp 70], argTypes := #[24, 37, 3] }, type := 24, pos := "law.go:73", after := #[{ on := 9, ground := Ground.data }, { on := 10, ground := Ground.data }, { on := 11, ground := Ground.data }, { on := 7, ground := Ground.chain }, { on := 7, ground := Ground.guard }], guard := some (7, true) }) rfl (fun K hK => ?_) AllReadyH.nil
          go_simp
          with_reducible refine (PW.out _ _ (KS.out _ hcall.out).1.rc).mono ?_
          rintro e wq ⟨a9, n9, c9, rfl, ho, hb'⟩
          have R9 := Lib.hid (rc_of_owns ho (by omega))
          clear ho
          replace hcall := Lib.hid (hcall.out.trans (hb'.mono hcall.out.size))
          clear hb' hHeld
          try go_wp2_with fail
          refine hK.out _ _ (SC.out _ hcall.out) (fun hHeld => ?_)
          clear hK K
          try simp only [Act.put, List.setIfInBounds_toArray, List.set_cons_zero, List.set_cons_succ]
          refine wpAnyH_ready (rs := [13]) (by kernel_rfl) (by simp) ?_
          refine AllReadyH.cons (o := { dst := some 72, op := Op.call { callee := Callee.value (Operand.func 18), args := #[Operand.tmp 67, Operand.tmp 71], argTypes := #[24, 24] }, type := 4, pos := "law.go:73", after := #[{ on := 8, ground := Ground.data }, { on := 12, ground := Ground.data }, { on := 12, ground := Ground.chain }, { on := 7, ground := Ground.guard }], guard := some (7, true) }) rfl (fun K hK => ?_) AllReadyH.nil
          go_simp
          with_reducible refine (same_yes (KS.out _ hcall.out).2.2.1.rc R9.out ⟨rfl, rfl⟩).mono ?_
          rintro e wq ⟨rfl, hb'⟩
          replace hcall := Lib.hid (hcall.out.trans (hb'.mono hcall.out.size))
          clear hb' hHeld
          try go_wp2_with fail
          refine hK.out _ _ (SC.out _ hcall.out) (fun hHeld => ?_)
          clear hK K
          try simp only [Act.put, List.setIfInBounds_toArray, List.set_cons_zero, List.set_cons_succ]
          refine wpAnyH_take (i := 14) (oi := { dst := some 73, op := Op.pick (Operand.tmp 66) (Operand.tmp 72) (Operand.const (Value.bool false)), type := 4, pos := "law.go:73", after := #[{ on := 7, ground := Ground.data }, { on := 13, ground := Ground.data }], guard := none }) (v := ?vv11) rfl (by kernel_rfl) (by kernel_rfl) (by kernel_rfl) (fun _ _ _ h => h) (Or.inl ⟨by rfl, ?hy11⟩) hHeld ?rest11
          case hy11 => (intro wS hSw; (try dsimp only at hSw); go_simp; try with_reducible rfl)
          simp only [Act.put, List.setIfInBounds_toArray, List.set_cons_zero, List.set_cons_succ]
          refine wpAnyH_take (i := 15) (oi := { dst := some 74, op := Op.move (Operand.tmp 73), type := 4, pos := "law.go:73", after := #[{ on := 14, ground := Ground.data }, { on := 13, ground := Ground.chain }], guard := none }) (v := ?vv12) rfl (by kernel_rfl) (by kernel_rfl) (by kernel_rfl) (fun _ _ _ h => h) (Or.inl ⟨by rfl, ?hy12⟩) hHeld ?rest12
          case hy12 => (intro wS hSw; (try dsimp only at hSw); go_simp; try with_reducible rfl)
          simp only [Act.put, List.setIfInBounds_toArray, List.set_cons_zero, List.set_cons_succ]
          refine wpAnyH_take (i := 16) (oi := { dst := some 75, op := Op.load 24 (Operand.tmp 11), type := 24, pos := "law.go:73", after := #[{ on := 15, ground := Ground.guard }], guard := some (15, true) }) (v := ?vv13) rfl (by kernel_rfl) (by kernel_rfl) (by kernel_rfl) (fun _ _ _ h => h) (Or.inl ⟨by rfl, ?hy13⟩) hHeld ?rest13
          case hy13 => (intro wS hSw; (try dsimp only at hSw); go_simp; try with_reducible rfl)
          simp only [Act.put, List.setIfInBounds_toArray, List.set_cons_zero, List.set_cons_succ]
          refine wpAnyH_take (i := 17) (oi := { dst := some 76, op := Op.move (Operand.tmp 9), type := 37, pos := "law.go:73", after := #[{ on := 15, ground := Ground.guard }], guard := some (15, true) }) (v := ?vv14) rfl (by kernel_rfl) (by kernel_rfl) (by kernel_rfl) (fun _ _ _ h => h) (Or.inl ⟨by rfl, ?hy14⟩) hHeld ?rest14
          case hy14 => (intro wS hSw; (try dsimp only at hSw); go_simp; try with_reducible rfl)
          simp only [Act.put, List.setIfInBounds_toArray, List.set_cons_zero, List.set_cons_succ]
          refine wpAnyH_take (i := 19) (oi := { dst := some 78, op := Op.move (Operand.tmp 10), type := 3, pos := "law.go:73", after := #[{ on := 15, ground := Ground.guard }], guard := some (15, true) }) (v := ?vv15) rfl (by kernel_rfl) (by kernel_rfl) (by kernel_rfl) (fun _ _ _ h => h) (Or.inl ⟨by rfl, ?hy15⟩) hHeld ?rest15
          case hy15 => (intro wS hSw; (try dsimp only at hSw); go_simp; try with_reducible rfl)
          simp only [Act.put, List.setIfInBounds_toArray, List.set_cons_zero, List.set_cons_succ]
          refine wpAnyH_ready (rs := [18]) (by kernel_rfl) (by simp) ?_
          refine AllReadyH.cons (o := { dst := some 77, op := Op.call { callee := Callee.value (Operand.func 28), args := #[Operand.tmp 75, Operand.tmp 76], argTypes := #[24, 37] }, type := 3, pos := "law.go:73", after := #[{ on := 16, ground := Ground.data }, { on := 17, ground := Ground.data }, { on := 15, ground := Ground.chain }, { on := 15, ground := Ground.guard }], guard := some (15, true) }) rfl (fun K hK => ?_) AllReadyH.nil
          go_simp
          with_reducible refine (PAW.out _ _ (KS.out _ hcall.out).2.2.1.rc).mono ?_
          rintro e wq ⟨rfl, hb'⟩
          replace hcall := Lib.hid (hcall.out.trans (hb'.mono hcall.out.size))
          clear hb' hHeld
          try go_wp2_with fail
          refine hK.out _ _ (SC.out _ hcall.out) (fun hHeld => ?_)
          clear hK K
          try simp only [Act.put, List.setIfInBounds_toArray, List.set_cons_zero, List.set_cons_succ]
          refine wpAnyH_take (i := 20) (oi := { dst := some 79, op := Op.binOp BinOp.eql 3 (Operand.tmp 77) (Operand.tmp 78) 3, type := 4, pos := "law.go:73", after := #[{ on := 18, ground := Ground.data }, { on := 19, ground := Ground.data }, { on := 15, ground := Ground.guard }], guard := some (15, true) }) (v := ?vv16) rfl (by kernel_rfl) (by kernel_rfl) (by kernel_rfl) (fun _ _ _ h => h) (Or.inl ⟨by rfl, ?hy16⟩) hHeld ?rest16
          case hy16 => (intro wS hSw; (try dsimp only at hSw); go_simp; try with_reducible rfl)
          simp only [Act.put, List.setIfInBounds_toArray, List.set_cons_zero, List.set_cons_succ]
          refine wpAnyH_take (i := 21) (oi := { dst := some 80, op := Op.pick (Operand.tmp 74) (Operand.tmp 79) (Operand.const (Value.bool false)), type := 4, pos := "law.go:73", after := #[{ on := 15, ground := Ground.data }, { on := 20, ground := Ground.data }], guard := none }) (v := ?vv17) rfl (by kernel_rfl) (by kernel_rfl) (by kernel_rfl) (fun _ _ _ h => h) (Or.inl ⟨by rfl, ?hy17⟩) hHeld ?rest17
          case hy17 => (intro wS hSw; (try dsimp only at hSw); go_simp; try with_reducible rfl)
          simp only [Act.put, List.setIfInBounds_toArray, List.set_cons_zero, List.set_cons_succ]
          refine wpAnyH_take (i := 22) (oi := { dst := some 81, op := Op.move (Operand.tmp 80), type := 4, pos := "law.go:73", after := #[{ on := 21, ground := Ground.data }, { on := 18, ground := Ground.chain }], guard := none }) (v := ?vv18) rfl (by kernel_rfl) (by kernel_rfl) (by kernel_rfl) (fun _ _ _ h => h) (Or.inl ⟨by rfl, ?hy18⟩) hHeld ?rest18
          case hy18 => (intro wS hSw; (try dsimp only at hSw); go_simp; try with_reducible rfl)
          simp only [Act.put, List.setIfInBounds_toArray, List.set_cons_zero, List.set_cons_succ]
          refine wpAnyH_take (i := 23) (oi := { dst := some 82, op := Op.load 24 (Operand.tmp 7), type := 24, pos := "law.go:73", after := #[{ on := 22, ground := Ground.guard }], guard := some (22, true) }) (v := ?vv19) rfl (by kernel_rfl) (by kernel_rfl) (by kernel_rfl) (fun _ _ _ h => h) (Or.inl ⟨by rfl, ?hy19⟩) hHeld ?rest19
          case hy19 => (intro wS hSw; (try dsimp only at hSw); go_simp; try with_reducible rfl)
          simp only [Act.put, List.setIfInBounds_toArray, List.set_cons_zero, List.set_cons_succ]
          refine wpAnyH_take (i := 24) (oi := { dst := some 83, op := Op.load 24 (Operand.tmp 8), type := 24, pos := "law.go:73", after := #[{ on := 22, ground := Ground.guard }], guard := some (22, true) }) (v := ?vv20) rfl (by kernel_rfl) (by kernel_rfl) (by kernel_rfl) (fun _ _ _ h => h) (Or.inl ⟨by rfl, ?hy20⟩) hHeld ?rest20
          case hy20 => (intro wS hSw; (try dsimp only at hSw); go_simp; try with_reducible rfl)
          simp only [Act.put, List.setIfInBounds_toArray, List.set_cons_zero, List.set_cons_succ]
          refine wpAnyH_take (i := 26) (oi := { dst := some 85, op := Op.load 24 (Operand.tmp 7), type := 24, pos := "law.go:73", after := #[{ on := 22, ground := Ground.guard }], guard := some (22, true) }) (v := ?vv21) rfl (by kernel_rfl) (by kernel_rfl) (by kernel_rfl) (fun _ _ _ h => h) (Or.inl ⟨by rfl, ?hy21⟩) hHeld ?rest21
          case hy21 => (intro wS hSw; (try dsimp only at hSw); go_simp; try with_reducible rfl)
          simp only [Act.put, List.setIfInBounds_toArray, List.set_cons_zero, List.set_cons_succ]
          refine wpAnyH_take (i := 27) (oi := { dst := some 86, op := Op.load 24 (Operand.tmp 8), type := 24, pos := "law.go:73", after := #[{ on := 22, ground := Ground.guard }], guard := some (22, true) }) (v := ?vv22) rfl (by kernel_rfl) (by kernel_rfl) (by kernel_rfl) (fun _ _ _ h => h) (Or.inl ⟨by rfl, ?hy22⟩) hHeld ?rest22
          case hy22 => (intro wS hSw; (try dsimp only at hSw); go_simp; try with_reducible rfl)
          simp only [Act.put, List.setIfInBounds_toArray, List.set_cons_zero, List.set_cons_succ]
          refine wpAnyH_ready (rs := [25]) (by kernel_rfl) (by simp) ?_
          refine AllReadyH.cons (o := { dst := some 84, op := Op.call { callee := Callee.value (Operand.func 31), args := #[Operand.tmp 82, Operand.tmp 83], argTypes := #[24, 24] }, type := 4, pos := "law.go:73", after := #[{ on := 23, ground := Ground.data }, { on := 24, ground := Ground.data }, { on := 22, ground := Ground.chain }, { on := 22, ground := Ground.guard }], guard := some (22, true) }) rfl (fun K hK => ?_) AllReadyH.nil
          go_simp
          with_reducible refine (Qab.out _ _ _ (KS.out _ hcall.out).1.rc (KS.out _ hcall.out).2.1.rc).mono ?_
          rintro e wq ⟨rfl, hb'⟩
          replace hcall := Lib.hid (hcall.out.trans (hb'.mono hcall.out.size))
          clear hb' hHeld
          try go_wp2_with fail
          refine hK.out _ _ (SC.out _ hcall.out) (fun hHeld => ?_)
          clear hK K
          try simp only [Act.put, List.setIfInBounds_toArray, List.set_cons_zero, List.set_cons_succ]
          refine wpAnyH_ready (rs := [28]) (by kernel_rfl) (by simp) ?_
          refine AllReadyH.cons (o := { dst := some 87, op := Op.call { callee := Callee.value (Operand.func 32), args := #[Operand.tmp 85, Operand.tmp 86], argTypes := #[24, 24] }, type := 4, pos := "law.go:73", after := #[{ on := 26, ground := Ground.data }, { on := 27, ground := Ground.data }, { on := 25, ground := Ground.chain }, { on := 22, ground := Ground.guard }], guard := some (22, true) }) rfl (fun K hK => ?_) AllReadyH.nil
          go_simp
          with_reducible refine (QRab.out _ _ _ (KS.out _ hcall.out).1.rc (KS.out _ hcall.out).2.1.rc).mono ?_
          rintro e wq ⟨rfl, hb'⟩
          replace hcall := Lib.hid (hcall.out.trans (hb'.mono hcall.out.size))
          clear hb' hHeld
          try go_wp2_with fail
          refine hK.out _ _ (SC.out _ hcall.out) (fun hHeld => ?_)
          clear hK K
          try simp only [Act.put, List.setIfInBounds_toArray, List.set_cons_zero, List.set_cons_succ]
          refine wpAnyH_take (i := 29) (oi := { dst := some 88, op := Op.binOp BinOp.eql 4 (Operand.tmp 84) (Operand.tmp 87) 4, type := 4, pos := "law.go:73", after := #[{ on := 25, ground := Ground.data }, { on := 28, ground := Ground.data }, { on := 22, ground := Ground.guard }], guard := some (22, true) }) (v := ?vv23) rfl (by kernel_rfl) (by kernel_rfl) (by kernel_rfl) (fun _ _ _ h => h) (Or.inl ⟨by rfl, ?hy23⟩) hHeld ?rest23
          case hy23 => (intro wS hSw; (try dsimp only at hSw); go_simp; try with_reducible rfl)
          simp only [Act.put, List.setIfInBounds_toArray, List.set_cons_zero, List.set_cons_succ]
          refine wpAnyH_take (i := 30) (oi := { dst := some 89, op := Op.pick (Operand.tmp 81) (Operand.tmp 88) (Operand.const (Value.bool false)), type := 4, pos := "law.go:73", after := #[{ on := 22, ground := Ground.data }, { on := 29, ground := Ground.data }], guard := none }) (v := ?vv24) rfl (by kernel_rfl) (by kernel_rfl) (by kernel_rfl) (fun _ _ _ h => h) (Or.inl ⟨by rfl, ?hy24⟩) hHeld ?rest24
          case hy24 => (intro wS hSw; (try dsimp only at hSw); go_simp; try with_reducible rfl)
          simp only [Act.put, List.setIfInBounds_toArray, List.set_cons_zero, List.set_cons_succ]
          refine wpAnyH_take (i := 31) (oi := { dst := some 90, op := Op.move (Operand.tmp 89), type := 4, pos := "law.go:73", after := #[{ on := 30, ground := Ground.data }, { on := 28, ground := Ground.chain }], guard := none }) (v := ?vv25) rfl (by kernel_rfl) (by kernel_rfl) (by kernel_rfl) (fun _ _ _ h => h) (Or.inl ⟨by rfl, ?hy25⟩) hHeld ?rest25
          case hy25 => (intro wS hSw; (try dsimp only at hSw); go_simp; try with_reducible rfl)
          simp only [Act.put, List.setIfInBounds_toArray, List.set_cons_zero, List.set_cons_succ]
          refine wpAnyH_take (i := 32) (oi := { dst := some 91, op := Op.load 24 (Operand.tmp 7), type := 24, pos := "law.go:73", after := #[{ on := 31, ground := Ground.guard }], guard := some (31, true) }) (v := ?vv26) rfl (by kernel_rfl) (by kernel_rfl) (by kernel_rfl) (fun _ _ _ h => h) (Or.inl ⟨by rfl, ?hy26⟩) hHeld ?rest26
          case hy26 => (intro wS hSw; (try dsimp only at hSw); go_simp; try with_reducible rfl)
          simp only [Act.put, List.setIfInBounds_toArray, List.set_cons_zero, List.set_cons_succ]
          refine wpAnyH_take (i := 33) (oi := { dst := some 92, op := Op.load 24 (Operand.tmp 8), type := 24, pos := "law.go:73", after := #[{ on := 31, ground := Ground.guard }], guard := some (31, true) }) (v := ?vv27) rfl (by kernel_rfl) (by kernel_rfl) (by kernel_rfl) (fun _ _ _ h => h) (Or.inl ⟨by rfl, ?hy27⟩) hHeld ?rest27
          case hy27 => (intro wS hSw; (try dsimp only at hSw); go_simp; try with_reducible rfl)
          simp only [Act.put, List.setIfInBounds_toArray, List.set_cons_zero, List.set_cons_succ]
          refine wpAnyH_take (i := 35) (oi := { dst := some 94, op := Op.load 24 (Operand.tmp 7), type := 24, pos := "law.go:73", after := #[{ on := 31, ground := Ground.guard }], guard := some (31, true) }) (v := ?vv28) rfl (by kernel_rfl) (by kernel_rfl) (by kernel_rfl) (fun _ _ _ h => h) (Or.inl ⟨by rfl, ?hy28⟩) hHeld ?rest28
          case hy28 => (intro wS hSw; (try dsimp only at hSw); go_simp; try with_reducible rfl)
          simp only [Act.put, List.setIfInBounds_toArray, List.set_cons_zero, List.set_cons_succ]
          refine wpAnyH_take (i := 36) (oi := { dst := some 95, op := Op.load 24 (Operand.tmp 8), type := 24, pos := "law.go:73", after := #[{ on := 31, ground := Ground.guard }], guard := some (31, true) }) (v := ?vv29) rfl (by kernel_rfl) (by kernel_rfl) (by kernel_rfl) (fun _ _ _ h => h) (Or.inl ⟨by rfl, ?hy29⟩) hHeld ?rest29
          case hy29 => (intro wS hSw; (try dsimp only at hSw); go_simp; try with_reducible rfl)
          simp only [Act.put, List.setIfInBounds_toArray, List.set_cons_zero, List.set_cons_succ]
          refine wpAnyH_ready (rs := [34]) (by kernel_rfl) (by simp) ?_
          refine AllReadyH.cons (o := { dst := some 93, op := Op.call { callee := Callee.value (Operand.func 18), args := #[Operand.tmp 91, Operand.tmp 92], argTypes := #[24, 24] }, type := 4, pos := "law.go:73", after := #[{ on := 32, ground := Ground.data }, { on := 33, ground := Ground.data }, { on := 31, ground := Ground.chain }, { on := 31, ground := Ground.guard }], guard := some (31, true) }) rfl (fun K hK => ?_) AllReadyH.nil
          go_simp
          with_reducible refine (PS.out _ _ _ (KS.out _ hcall.out).1.rc (KS.out _ hcall.out).2.1.rc).mono ?_
          rintro e wq ⟨rfl, hb'⟩
          replace hcall := Lib.hid (hcall.out.trans (hb'.mono hcall.out.size))
          clear hb' hHeld
          try go_wp2_with fail
          refine hK.out _ _ (SC.out _ hcall.out) (fun hHeld => ?_)
          clear hK K
          try simp only [Act.put, List.setIfInBounds_toArray, List.set_cons_zero, List.set_cons_succ]
          refine wpAnyH_ready (rs := [37]) (by kernel_rfl) (by simp) ?_
          refine AllReadyH.cons (o := { dst := some 96, op := Op.call { callee := Callee.value (Operand.func 33), args := #[Operand.tmp 94, Operand.tmp 95], argTypes := #[24, 24] }, type := 4, pos := "law.go:73", after := #[{ on := 35, ground := Ground.data }, { on := 36, ground := Ground.data }, { on := 34, ground := Ground.chain }, { on := 31, ground := Ground.guard }], guard := some (31, true) }) rfl (fun K hK => ?_) AllReadyH.nil
          go_simp
          with_reducible refine (PSR.out _ _ _ (KS.out _ hcall.out).1.rc (KS.out _ hcall.out).2.1.rc).mono ?_
          rintro e wq ⟨rfl, hb'⟩
          replace hcall := Lib.hid (hcall.out.trans (hb'.mono hcall.out.size))
          clear hb' hHeld
          try go_wp2_with fail
          refine hK.out _ _ (SC.out _ hcall.out) (fun hHeld => ?_)
          clear hK K
          try simp only [Act.put, List.setIfInBounds_toArray, List.set_cons_zero, List.set_cons_succ]
          refine wpAnyH_take (i := 38) (oi := { dst := some 97, op := Op.binOp BinOp.eql 4 (Operand.tmp 93) (Operand.tmp 96) 4, type := 4, pos := "law.go:73", after := #[{ on := 34, ground := Ground.data }, { on := 37, ground := Ground.data }, { on := 31, ground := Ground.guard }], guard := some (31, true) }) (v := ?vv30) rfl (by kernel_rfl) (by kernel_rfl) (by kernel_rfl) (fun _ _ _ h => h) (Or.inl ⟨by rfl, ?hy30⟩) hHeld ?rest30
          case hy30 => (intro wS hSw; (try dsimp only at hSw); go_simp; try with_reducible rfl)
          simp only [Act.put, List.setIfInBounds_toArray, List.set_cons_zero, List.set_cons_succ]
          refine wpAnyH_take (i := 39) (oi := { dst := some 98, op := Op.pick (Operand.tmp 90) (Operand.tmp 97) (Operand.const (Value.bool false)), type := 4, pos := "law.go:73", after := #[{ on := 31, ground := Ground.data }, { on := 38, ground := Ground.data }], guard := none }) (v := ?vv31) rfl (by kernel_rfl) (by kernel_rfl) (by kernel_rfl) (fun _ _ _ h => h) (Or.inl ⟨by rfl, ?hy31⟩) hHeld ?rest31
          case hy31 => (intro wS hSw; (try dsimp only at hSw); go_simp; try with_reducible rfl)
          simp only [Act.put, List.setIfInBounds_toArray, List.set_cons_zero, List.set_cons_succ]
          refine wpAnyH_take (i := 40) (oi := { dst := some 99, op := Op.move (Operand.tmp 98), type := 4, pos := "law.go:73", after := #[{ on := 39, ground := Ground.data }, { on := 37, ground := Ground.chain }], guard := none }) (v := ?vv32) rfl (by kernel_rfl) (by kernel_rfl) (by kernel_rfl) (fun _ _ _ h => h) (Or.inl ⟨by rfl, ?hy32⟩) hHeld ?rest32
          case hy32 => (intro wS hSw; (try dsimp only at hSw); go_simp; try with_reducible rfl)
          simp only [Act.put, List.setIfInBounds_toArray, List.set_cons_zero, List.set_cons_succ]
          refine wpAnyH_take (i := 41) (oi := { dst := some 100, op := Op.load 24 (Operand.tmp 7), type := 24, pos := "law.go:73", after := #[{ on := 40, ground := Ground.guard }], guard := some (40, true) }) (v := ?vv33) rfl (by kernel_rfl) (by kernel_rfl) (by kernel_rfl) (fun _ _ _ h => h) (Or.inl ⟨by rfl, ?hy33⟩) hHeld ?rest33
          case hy33 => (intro wS hSw; (try dsimp only at hSw); go_simp; try with_reducible rfl)
          simp only [Act.put, List.setIfInBounds_toArray, List.set_cons_zero, List.set_cons_succ]
          refine wpAnyH_take (i := 43) (oi := { dst := some 102, op := Op.load 24 (Operand.tmp 8), type := 24, pos := "law.go:73", after := #[{ on := 40, ground := Ground.guard }], guard := some (40, true) }) (v := ?vv34) rfl (by kernel_rfl) (by kernel_rfl) (by kernel_rfl) (fun _ _ _ h => h) (Or.inl ⟨by rfl, ?hy34⟩) hHeld ?rest34
          case hy34 => (intro wS hSw; (try dsimp only at hSw); go_simp; try with_reducible rfl)
          simp only [Act.put, List.setIfInBounds_toArray, List.set_cons_zero, List.set_cons_succ]
          refine wpAnyH_take (i := 45) (oi := { dst := some 104, op := Op.load 24 (Operand.tmp 7), type := 24, pos := "law.go:73", after := #[{ on := 40, ground := Ground.guard }], guard := some (40, true) }) (v := ?vv35) rfl (by kernel_rfl) (by kernel_rfl) (by kernel_rfl) (fun _ _ _ h => h) (Or.inl ⟨by rfl, ?hy35⟩) hHeld ?rest35
          case hy35 => (intro wS hSw; (try dsimp only at hSw); go_simp; try with_reducible rfl)
          simp only [Act.put, List.setIfInBounds_toArray, List.set_cons_zero, List.set_cons_succ]
          refine wpAnyH_take (i := 47) (oi := { dst := some 106, op := Op.load 24 (Operand.tmp 8), type := 24, pos := "law.go:73", after := #[{ on := 40, ground := Ground.guard }], guard := some (40, true) }) (v := ?vv36) rfl (by kernel_rfl) (by kernel_rfl) (by kernel_rfl) (fun _ _ _ h => h) (Or.inl ⟨by rfl, ?hy36⟩) hHeld ?rest36
          case hy36 => (intro wS hSw; (try dsimp only at hSw); go_simp; try with_reducible rfl)
          simp only [Act.put, List.setIfInBounds_toArray, List.set_cons_zero, List.set_cons_succ]
          refine wpAnyH_ready (rs := [42]) (by kernel_rfl) (by simp) ?_
          refine AllReadyH.cons (o := { dst := some 101, op := Op.call { callee := Callee.value (Operand.func 17), args := #[Operand.tmp 100], argTypes := #[24] }, type := 24, pos := "law.go:73", after := #[{ on := 41, ground := Ground.data }, { on := 40, ground := Ground.chain }, { on := 40, ground := Ground.guard }], guard := some (40, true) }) rfl (fun K hK => ?_) AllReadyH.nil
          go_simp
          with_reducible refine (PU.out _ _ (KS.out _ hcall.out).1.rc).mono ?_
          rintro e wq ⟨a10, n10, c10, rfl, ho, hb'⟩
          have R10 := Lib.hid (rc_of_owns ho (by omega))
          clear ho
          replace hcall := Lib.hid (hcall.out.trans (hb'.mono hcall.out.size))
          clear hb' hHeld
          try go_wp2_with fail
          refine hK.out _ _ (SC.out _ hcall.out) (fun hHeld => ?_)
          clear hK K
          try simp only [Act.put, List.setIfInBounds_toArray, List.set_cons_zero, List.set_cons_succ]
          refine wpAnyH_ready (rs := [44]) (by kernel_rfl) (by simp) ?_
          refine AllReadyH.cons (o := { dst := some 103, op := Op.call { callee := Callee.value (Operand.func 31), args := #[Operand.tmp 101, Operand.tmp 102], argTypes := #[24, 24] }, type := 4, pos := "law.go:73", after := #[{ on := 42, ground := Ground.data }, { on := 43, ground := Ground.data }, { on := 42, ground := Ground.chain }, { on := 40, ground := Ground.guard }], guard := some (40, true) }) rfl (fun K hK => ?_) AllReadyH.nil
          go_simp
          with_reducible refine (Qub.out _ _ _ R10.out (KS.out _ hcall.out).2.1.rc).mono ?_
          rintro e wq ⟨rfl, hb'⟩
          replace hcall := Lib.hid (hcall.out.trans (hb'.mono hcall.out.size))
          clear hb' hHeld
          try go_wp2_with fail
          refine hK.out _ _ (SC.out _ hcall.out) (fun hHeld => ?_)
          clear hK K
          try simp only [Act.put, List.setIfInBounds_toArray, List.set_cons_zero, List.set_cons_succ]
          refine wpAnyH_ready (rs := [46]) (by kernel_rfl) (by simp) ?_
          refine AllReadyH.cons (o := { dst := some 105, op := Op.call { callee := Callee.value (Operand.func 20), args := #[Operand.tmp 104], argTypes := #[24] }, type := 24, pos := "law.go:73", after := #[{ on := 45, ground := Ground.data }, { on := 44, ground := Ground.chain }, { on := 40, ground := Ground.guard }], guard := some (40, true) }) rfl (fun K hK => ?_) AllReadyH.nil
          go_simp
          with_reducible refine (PUR.out _ _ (KS.out _ hcall.out).1.rc).mono ?_
          rintro e wq ⟨a11, n11, c11, rfl, ho, hb'⟩
          have R11 := Lib.hid (rc_of_owns ho (by omega))
          clear ho
          replace hcall := Lib.hid (hcall.out.trans (hb'.mono hcall.out.size))
          clear hb' hHeld
          try go_wp2_with fail
          refine hK.out _ _ (SC.out _ hcall.out) (fun hHeld => ?_)
          clear hK K
          try simp only [Act.put, List.setIfInBounds_toArray, List.set_cons_zero, List.set_cons_succ]
          refine wpAnyH_ready (rs := [48]) (by kernel_rfl) (by simp) ?_
          refine AllReadyH.cons (o := { dst := some 107, op := Op.call { callee := Callee.value (Operand.func 32), args := #[Operand.tmp 105, Operand.tmp 106], argTypes := #[24, 24] }, type := 4, pos := "law.go:73", after := #[{ on := 46, ground := Ground.data }, { on := 47, ground := Ground.data }, { on := 46, ground := Ground.chain }, { on := 40, ground := Ground.guard }], guard := some (40, true) }) rfl (fun K hK => ?_) AllReadyH.nil
          go_simp
          with_reducible refine (QRub.out _ _ _ R11.out (KS.out _ hcall.out).2.1.rc).mono ?_
          rintro e wq ⟨rfl, hb'⟩
          replace hcall := Lib.hid (hcall.out.trans (hb'.mono hcall.out.size))
          clear hb' hHeld
          try go_wp2_with fail
          refine hK.out _ _ (SC.out _ hcall.out) (fun hHeld => ?_)
          clear hK K
          try simp only [Act.put, List.setIfInBounds_toArray, List.set_cons_zero, List.set_cons_succ]
          refine wpAnyH_take (i := 49) (oi := { dst := some 108, op := Op.binOp BinOp.eql 4 (Operand.tmp 103) (Operand.tmp 107) 4, type := 4, pos := "law.go:73", after := #[{ on := 44, ground := Ground.data }, { on := 48, ground := Ground.data }, { on := 40, ground := Ground.guard }], guard := some (40, true) }) (v := ?vv37) rfl (by kernel_rfl) (by kernel_rfl) (by kernel_rfl) (fun _ _ _ h => h) (Or.inl ⟨by rfl, ?hy37⟩) hHeld ?rest37
          case hy37 => (intro wS hSw; (try dsimp only at hSw); go_simp; try with_reducible rfl)
          simp only [Act.put, List.setIfInBounds_toArray, List.set_cons_zero, List.set_cons_succ]
          refine wpAnyH_take (i := 50) (oi := { dst := some 109, op := Op.pick (Operand.tmp 99) (Operand.tmp 108) (Operand.const (Value.bool false)), type := 4, pos := "law.go:73", after := #[{ on := 40, ground := Ground.data }, { on := 49, ground := Ground.data }], guard := none }) (v := ?vv38) rfl (by kernel_rfl) (by kernel_rfl) (by kernel_rfl) (fun _ _ _ h => h) (Or.inl ⟨by rfl, ?hy38⟩) hHeld ?rest38
          case hy38 => (intro wS hSw; (try dsimp only at hSw); go_simp; try with_reducible rfl)
          simp only [Act.put, List.setIfInBounds_toArray, List.set_cons_zero, List.set_cons_succ]
          refine wpAnyH_take (i := 51) (oi := { dst := some 6, op := Op.assign (Operand.tmp 109), type := 4, pos := "law.go:73", after := #[{ on := 50, ground := Ground.data }, { on := 48, ground := Ground.chain }, { on := 0, ground := Ground.phase }, { on := 1, ground := Ground.phase }, { on := 2, ground := Ground.phase }, { on := 3, ground := Ground.phase }, { on := 4, ground := Ground.phase }, { on := 5, ground := Ground.phase }, { on := 6, ground := Ground.phase }, { on := 7, ground := Ground.phase }, { on := 8, ground := Ground.phase }, { on := 9, ground := Ground.phase }, { on := 10, ground := Ground.phase }, { on := 11, ground := Ground.phase }, { on := 12, ground := Ground.phase }, { on := 13, ground := Ground.phase }, { on := 14, ground := Ground.phase }, { on := 15, ground := Ground.phase }, { on := 16, ground := Ground.phase }, { on := 17, ground := Ground.phase }, { on := 18, ground := Ground.phase }, { on := 19, ground := Ground.phase }, { on := 20, ground := Ground.phase }, { on := 21, ground := Ground.phase }, { on := 22, ground := Ground.phase }, { on := 23, ground := Ground.phase }, { on := 24, ground := Ground.phase }, { on := 25, ground := Ground.phase }, { on := 26, ground := Ground.phase }, { on := 27, ground := Ground.phase }, { on := 28, ground := Ground.phase }, { on := 29, ground := Ground.phase }, { on := 30, ground := Ground.phase }, { on := 31, ground := Ground.phase }, { on := 32, ground := Ground.phase }, { on := 33, ground := Ground.phase }, { on := 34, ground := Ground.phase }, { on := 35, ground := Ground.phase }, { on := 36, ground := Ground.phase }, { on := 37, ground := Ground.phase }, { on := 38, ground := Ground.phase }, { on := 39, ground := Ground.phase }, { on := 40, ground := Ground.phase }, { on := 41, ground := Ground.phase }, { on := 42, ground := Ground.phase }, { on := 43, ground := Ground.phase }, { on := 44, ground := Ground.phase }, { on := 45, ground := Ground.phase }, { on := 46, ground := Ground.phase }, { on := 47, ground := Ground.phase }, { on := 48, ground := Ground.phase }, { on := 49, ground := Ground.phase }, { on := 50, ground := Ground.phase }], guard := none }) (v := ?vv39) rfl (by kernel_rfl) (by kernel_rfl) (by kernel_rfl) (fun _ _ _ h => h) (Or.inl ⟨by rfl, ?hy39⟩) hHeld ?rest39
          case hy39 => (intro wS hSw; (try dsimp only at hSw); go_simp; try with_reducible rfl)
          simp only [Act.put, List.setIfInBounds_toArray, List.set_cons_zero, List.set_cons_succ]
          refine wpAnyH_done (by kernel_rfl) ?_ _
          all_goals
            go_wp2_with fail
            go_ret
            exact ⟨by first | rfl | simp, (KS.out _ hcall.out).2.2.2⟩
end Go.Proofs.Ytlkhbbdigljpjaa
