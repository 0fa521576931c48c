import Derived.Test.YtjmfjehjlnghmaaLa
import Derived.Deep.RegionHeld3
import Derived.Lib.MinMax
namespace Go.Proofs.Ytjmfjehjlnghmaa
open Go.RowKit
set_option linter.unusedVariables false
set_option linter.unusedSimpArgs false

theorem RC.len {m : Nat} {w : World} {a : Option Addr} {n c : Nat} {ps : List (Nat × Int)} (h : RC m w (.slice a n c) ps) : ps.length = n := by
  rcases h with ⟨h, rfl⟩ | ⟨b, off, cap, h, _⟩
  · simp at h; simp [h]
  · simp at h; exact h.2.1.symm
theorem YR.below {w w' : World} {A : Option Addr} {bs : List Nat} (h : YR w A bs) (hb : Below w.heap.size w w') : YR w' A bs :=
  h.kept fun b cs hh => by rw [hb.block _ (Array.getElem?_eq_some_iff.1 hh).1]; exact hh
set_option maxRecDepth 100000 in
set_option maxHeartbeats 4000000 in
theorem apart_law (S0 S1 : Int) (v0 v1 : Value) (w : World) (h0 : Ints w v0) (h1 : Ints w v1) :
    Calls Try.prog 7 #[.agg #[.int .i64 S0, v0], .agg #[.int .i64 S1, v1]] w fun e w' => e = .returned (.bool true) ∧ Below w.heap.size w w' := by
  obtain ⟨va0, vn0, vc0, rfl⟩ : ∃ a n c, v0 = .slice a n c := by rcases h0 with ⟨a, c, rfl⟩ | ⟨b, off, cap, n, ls, rfl, _⟩ <;> exact ⟨_, _, _, rfl⟩
  obtain ⟨va1, vn1, vc1, rfl⟩ : ∃ a n c, v1 = .slice a n c := by rcases h1 with ⟨a, c, rfl⟩ | ⟨b, off, cap, n, ls, rfl, _⟩ <;> exact ⟨_, _, _, rfl⟩
  have HI0 := Lib.hid h0
  have HI1 := Lib.hid h1
  have HFit := Lib.hid (fun (W : World) => fit_any W)
  obtain ⟨W0, e0⟩ : ∃ W0, W0 = ((w.alloc (Obj.cells #[.int .i64 S0, .slice va0 vn0 vc0] 27)).alloc (Obj.cells #[.int .i64 S1, .slice va1 vn1 vc1] 27)) := ⟨_, rfl⟩
  have hB : Below w.heap.size w W0 := by rw [e0]; exact ((Below.refl _ _).alloc (Nat.le_refl _) _).alloc (by simp <;> omega) _
  have hk0 : W0.heap[w.heap.size]? = some (Obj.cells #[.int .i64 S0, .slice va0 vn0 vc0] 27) := by
    rw [e0]
    rw [Below.heap_alloc _ _ _ (by simp <;> omega)]
    have := heap_alloc_new w (Obj.cells #[.int .i64 S0, .slice va0 vn0 vc0] 27); simpa using this
  have hk1 : W0.heap[w.heap.size + 1]? = some (Obj.cells #[.int .i64 S1, .slice va1 vn1 vc1] 27) := by
    rw [e0]
    have := heap_alloc_new (w.alloc (Obj.cells #[.int .i64 S0, .slice va0 vn0 vc0] 27)) (Obj.cells #[.int .i64 S1, .slice va1 vn1 vc1] 27); simpa using this
  have HB := Lib.hid hB
  have HK := Lib.hid (show W0.heap[w.heap.size]? = some (Obj.cells #[.int .i64 S0, .slice va0 vn0 vc0] 27) ∧ W0.heap[w.heap.size + 1]? = some (Obj.cells #[.int .i64 S1, .slice va1 vn1 vc1] 27) from ⟨hk0, hk1⟩)
  clear h0 h1 hB hk0 hk1
  go_enter Try.func7, Try.ntmps7
  go_wp2_with fail
  rw [← e0]
  clear e0
  refine (HFit.out _).mono ?_
  rintro e w1 ⟨rfl, hb1⟩
  have hS : ∀ wx, Below w1.heap.size w1 wx → Below w.heap.size w wx ∧ wx.cell? ⟨w.heap.size, 0, none⟩ = some (.int .i64 S0) ∧ wx.cell? ⟨w.heap.size, 1, none⟩ = some (.slice va0 vn0 vc0) ∧ wx.cell? ⟨w.heap.size + 1, 0, none⟩ = some (.int .i64 S1) ∧ wx.cell? ⟨w.heap.size + 1, 1, none⟩ = some (.slice va1 vn1 vc1) := fun wx hx => by
    have h0 := hb1.trans (hx.mono hb1.size)
    have r0 : wx.heap[w.heap.size]? = some (Obj.cells #[.int .i64 S0, .slice va0 vn0 vc0] 27) := by rw [h0.block _ (Array.getElem?_eq_some_iff.1 HK.out.1).1]; exact HK.out.1
    have r1 : wx.heap[w.heap.size + 1]? = some (Obj.cells #[.int .i64 S1, .slice va1 vn1 vc1] 27) := by rw [h0.block _ (Array.getElem?_eq_some_iff.1 HK.out.2).1]; exact HK.out.2
    exact ⟨HB.out.trans (h0.mono HB.out.size), by rw [cell_of_row _ _ 0 _ 27 (0, 0) r0]; rfl, by rw [cell_of_row _ _ 1 _ 27 (0, 0) r0]; rfl, by rw [cell_of_row _ _ 0 _ 27 (0, 0) r1]; rfl, by rw [cell_of_row _ _ 1 _ 27 (0, 0) r1]; rfl⟩
  have HS := Lib.hid hS
  clear hS hb1
  go_upto_region 3 with fail
  have hcall := Lib.hid ((Below.refl w1.heap.size w1).drew)
  have C0 := Lib.hid (fun (W : World) (h : Below w1.heap.size w1 W) => seed_form S0 (.slice va0 vn0 vc0) W (HI0.out.below (HS.out W h).1))
  have C1 := Lib.hid (fun (W : World) (h : Below w1.heap.size w1 W) => seed_form S1 (.slice va1 vn1 vc1) W (HI1.out.below (HS.out W h).1))
  have SS := Lib.hid (fun (wx : World) (h : Below w1.heap.size w1 wx) => ((HS.out wx h).2 : wx.cell? ⟨w.heap.size, 0, none⟩ = some (.int .i64 S0) ∧ wx.cell? ⟨w.heap.size, 1, none⟩ = some (.slice va0 vn0 vc0) ∧ wx.cell? ⟨w.heap.size + 1, 0, none⟩ = some (.int .i64 S1) ∧ wx.cell? ⟨w.heap.size + 1, 1, none⟩ = some (.slice va1 vn1 vc1)))
  go_cut [5, 6, 12, 13, 14, 15] (fun s5 s6 s12 s13 s14 s15 wx => ∃ A0 D0 ps0 a0 n0 c0 A1 D1 ps1 a1 n1 c1, s5 = .pointer (some ⟨A0, 0, none⟩) ∧ s6 = .pointer (some ⟨A1, 0, none⟩) ∧ Hid (Lbl wx A0 D0 (.slice a0 n0 c0) ps0 ∧ Lbl wx A1 D1 (.slice a1 n1 c1) ps1 ∧ Lab.Fine D0 ps0 ∧ Lab.Fine D1 ps1 ∧ Below w1.heap.size w1 wx))
  case first =>
    refine wp_region_any (by kernel_rfl) ?_
    refine wpAny_inv (I := fun L a wz => ∃ y5 y6 y12 y13 y14 y15 : Value, a = { tmps := #[.agg #[.int .i64 S0, .slice va0 vn0 vc0], .agg #[.int .i64 S1, .slice va1 vn1 vc1], .pointer (some ⟨w.heap.size, 0, none⟩), .pointer (some ⟨w.heap.size + 1, 0, none⟩), .bool false, y5, y6, undef, undef, undef, .bool true, .bool false, y12, y13, y14, y15, undef, undef, undef, undef, undef, undef, undef, undef, undef, undef, undef, undef, undef, undef, undef, undef, undef, undef, undef, undef, undef, undef, undef, undef, undef, undef, undef, undef, undef, undef, undef, undef, undef], defers := [] } ∧ Hid (L.size = 8 ∧ Below w1.heap.size w1 wz ∧ (L[0]? = some true → y12 = .agg #[.int .i64 S0, .slice va0 vn0 vc0]) ∧ (L[1]? = some true → LV w1 wz Lab.Fine y13) ∧ (L[2]? = some true → y14 = .agg #[.int .i64 S1, .slice va1 vn1 vc1]) ∧ (L[3]? = some true → LV w1 wz Lab.Fine y15) ∧ (L[4]? = some true → AV w1 wz y5) ∧ (L[5]? = some true → AV w1 wz y6) ∧ (L[4]? = some true → L[5]? = some true → y5 ≠ y6) ∧ (L[6]? = some true → SV wz y5 y13) ∧ (L[7]? = some true → SV wz y6 y15) ∧ (L[6]? = some true → (L[4]? = some true ∧ L[1]? = some true)) ∧ (L[7]? = some true → (L[5]? = some true ∧ L[3]? = some true)))) ?step ?fin _ _ _ _ ⟨_, _, _, _, _, _, rfl, Lib.hid ⟨by rfl, Below.drew (Below.refl _ _), gone (by rfl), gone (by rfl), gone (by rfl), gone (by rfl), gone (by rfl), gone (by rfl), gone (by rfl), gone (by rfl), gone (by rfl), gone (by rfl), gone (by rfl)⟩⟩ (by decide)
    case step =>
      intro L a wz i o hI ho hL hdeps K hK
      obtain ⟨y5, y6, y12, y13, y14, y15, rfl, hinv⟩ := hI
      have hi : i < 8 := by have := (Array.getElem?_eq_some_iff.1 ho).1; exact this
      obtain ⟨hN, hbel, z0, z1, z2, z3, z4, z5, z6, z7, z8, z9, z10⟩ := hinv.out
      obtain rfl | rfl | rfl | rfl | rfl | rfl | rfl | rfl : i = 0 ∨ i = 1 ∨ i = 2 ∨ i = 3 ∨ i = 4 ∨ i = 5 ∨ i = 6 ∨ i = 7 := by omega
      · obtain rfl := Option.some.inj ho
        obtain ⟨b0, b1, _⟩ := SS.out wz hbel
        clear ho
        have Z := hinv
        clear hinv hbel hN hdeps z0 z1 z2 z3 z4 z5 z6 z7 z8 z9 z10
        go_simp
        obtain ⟨hN, hbel, z0, z1, z2, z3, z4, z5, z6, z7, z8, z9, z10⟩ := Z.out
        exact hK _ _ ⟨_, _, _, _, _, _, rfl, Lib.hid ⟨by simpa using hN, hbel, fun _ => rfl, fun g0 => (z1 ((set_other (by decide)).symm.trans g0)), fun g0 => (z2 ((set_other (by decide)).symm.trans g0)), fun g0 => (z3 ((set_other (by decide)).symm.trans g0)), fun g0 => (z4 ((set_other (by decide)).symm.trans g0)), fun g0 => (z5 ((set_other (by decide)).symm.trans g0)), fun g0 g1 => (z6 ((set_other (by decide)).symm.trans g0) ((set_other (by decide)).symm.trans g1)), fun g0 => (z7 ((set_other (by decide)).symm.trans g0)), fun g0 => (z8 ((set_other (by decide)).symm.trans g0)), fun g0 => ⟨set_keep (z9 ((set_other (by decide)).symm.trans g0)).1, set_keep (z9 ((set_other (by decide)).symm.trans g0)).2⟩, fun g0 => ⟨set_keep (z10 ((set_other (by decide)).symm.trans g0)).1, set_keep (z10 ((set_other (by decide)).symm.trans g0)).2⟩⟩⟩
      · obtain rfl := Option.some.inj ho
        have e0 := z0 (dep (by simp [Region.binds] at hdeps ⊢; simp [hdeps]))
        subst e0
        have CC := Lib.hid (C0.out wz hbel)
        have Z := hinv
        clear hinv ho hbel hN hdeps z0 z1 z2 z3 z4 z5 z6 z7 z8 z9 z10
        go_simp
        refine CC.out.mono ?_
        rintro e wq ⟨D, a, n, c, ps, rfl, hg, how, hb'⟩
        obtain ⟨hN, hbel, z0, z1, z2, z3, z4, z5, z6, z7, z8, z9, z10⟩ := Z.out
        exact hK _ _ ⟨_, _, _, _, _, _, rfl, Lib.hid ⟨by simpa using hN, hbel.trans (hb'.mono hbel.size), fun g0 => (z0 ((set_other (by decide)).symm.trans g0)), fun _ => ⟨D, a, n, c, ps, rfl, hg, owns_mono how hbel.size⟩, fun g0 => (z2 ((set_other (by decide)).symm.trans g0)), fun g0 => (z3 ((set_other (by decide)).symm.trans g0)).below hb', fun g0 => (z4 ((set_other (by decide)).symm.trans g0)).below hb', fun g0 => (z5 ((set_other (by decide)).symm.trans g0)).below hb', fun g0 g1 => (z6 ((set_other (by decide)).symm.trans g0) ((set_other (by decide)).symm.trans g1)), fun g0 => not_done hL (z9 ((set_other (by decide)).symm.trans g0)).2, fun g0 => (z8 ((set_other (by decide)).symm.trans g0)).below hb', fun g0 => ⟨set_keep (z9 ((set_other (by decide)).symm.trans g0)).1, set_keep (z9 ((set_other (by decide)).symm.trans g0)).2⟩, fun g0 => ⟨set_keep (z10 ((set_other (by decide)).symm.trans g0)).1, set_keep (z10 ((set_other (by decide)).symm.trans g0)).2⟩⟩⟩
      · obtain rfl := Option.some.inj ho
        obtain ⟨_, _, b0, b1⟩ := SS.out wz hbel
        clear ho
        have Z := hinv
        clear hinv hbel hN hdeps z0 z1 z2 z3 z4 z5 z6 z7 z8 z9 z10
        go_simp
        obtain ⟨hN, hbel, z0, z1, z2, z3, z4, z5, z6, z7, z8, z9, z10⟩ := Z.out
        exact hK _ _ ⟨_, _, _, _, _, _, rfl, Lib.hid ⟨by simpa using hN, hbel, fun g0 => (z0 ((set_other (by decide)).symm.trans g0)), fun g0 => (z1 ((set_other (by decide)).symm.trans g0)), fun _ => rfl, fun g0 => (z3 ((set_other (by decide)).symm.trans g0)), fun g0 => (z4 ((set_other (by decide)).symm.trans g0)), fun g0 => (z5 ((set_other (by decide)).symm.trans g0)), fun g0 g1 => (z6 ((set_other (by decide)).symm.trans g0) ((set_other (by decide)).symm.trans g1)), fun g0 => (z7 ((set_other (by decide)).symm.trans g0)), fun g0 => (z8 ((set_other (by decide)).symm.trans g0)), fun g0 => ⟨set_keep (z9 ((set_other (by decide)).symm.trans g0)).1, set_keep (z9 ((set_other (by decide)).symm.trans g0)).2⟩, fun g0 => ⟨set_keep (z10 ((set_other (by decide)).symm.trans g0)).1, set_keep (z10 ((set_other (by decide)).symm.trans g0)).2⟩⟩⟩
      · obtain rfl := Option.some.inj ho
        have e2 := z2 (dep (by simp [Region.binds] at hdeps ⊢; simp [hdeps]))
        subst e2
        have CC := Lib.hid (C1.out wz hbel)
        have Z := hinv
        clear hinv ho hbel hN hdeps z0 z1 z2 z3 z4 z5 z6 z7 z8 z9 z10
        go_simp
        refine CC.out.mono ?_
        rintro e wq ⟨D, a, n, c, ps, rfl, hg, how, hb'⟩
        obtain ⟨hN, hbel, z0, z1, z2, z3, z4, z5, z6, z7, z8, z9, z10⟩ := Z.out
        exact hK _ _ ⟨_, _, _, _, _, _, rfl, Lib.hid ⟨by simpa using hN, hbel.trans (hb'.mono hbel.size), fun g0 => (z0 ((set_other (by decide)).symm.trans g0)), fun g0 => (z1 ((set_other (by decide)).symm.trans g0)).below hb', fun g0 => (z2 ((set_other (by decide)).symm.trans g0)), fun _ => ⟨D, a, n, c, ps, rfl, hg, owns_mono how hbel.size⟩, fun g0 => (z4 ((set_other (by decide)).symm.trans g0)).below hb', fun g0 => (z5 ((set_other (by decide)).symm.trans g0)).below hb', fun g0 g1 => (z6 ((set_other (by decide)).symm.trans g0) ((set_other (by decide)).symm.trans g1)), fun g0 => (z7 ((set_other (by decide)).symm.trans g0)).below hb', fun g0 => not_done hL (z10 ((set_other (by decide)).symm.trans g0)).2, fun g0 => ⟨set_keep (z9 ((set_other (by decide)).symm.trans g0)).1, set_keep (z9 ((set_other (by decide)).symm.trans g0)).2⟩, fun g0 => ⟨set_keep (z10 ((set_other (by decide)).symm.trans g0)).1, set_keep (z10 ((set_other (by decide)).symm.trans g0)).2⟩⟩⟩
      · obtain rfl := Option.some.inj ho
        have Z := hinv
        clear hinv ho hbel hN hdeps z0 z1 z2 z3 z4 z5 z6 z7 z8 z9 z10
        go_simp
        obtain ⟨hN, hbel, z0, z1, z2, z3, z4, z5, z6, z7, z8, z9, z10⟩ := Z.out
        have hb' := below_alloc1 wz (Obj.cells #[.int .i64 0, .slice none 0 0] 31)
        exact hK _ _ ⟨_, _, _, _, _, _, rfl, Lib.hid ⟨by simpa using hN, hbel.trans (hb'.mono hbel.size), fun g0 => (z0 ((set_other (by decide)).symm.trans g0)), fun g0 => (z1 ((set_other (by decide)).symm.trans g0)).below hb', fun g0 => (z2 ((set_other (by decide)).symm.trans g0)), fun g0 => (z3 ((set_other (by decide)).symm.trans g0)).below hb', fun _ => AV.new _ _ _ _ hbel.size, fun g0 => (z5 ((set_other (by decide)).symm.trans g0)).below hb', fun g0 g1 => ((z5 ((set_other (by decide)).symm.trans g1)).ne).symm, fun g0 => not_done hL (z9 ((set_other (by decide)).symm.trans g0)).1, fun g0 => (z8 ((set_other (by decide)).symm.trans g0)).below hb', fun g0 => ⟨set_keep (z9 ((set_other (by decide)).symm.trans g0)).1, set_keep (z9 ((set_other (by decide)).symm.trans g0)).2⟩, fun g0 => ⟨set_keep (z10 ((set_other (by decide)).symm.trans g0)).1, set_keep (z10 ((set_other (by decide)).symm.trans g0)).2⟩⟩⟩
      · obtain rfl := Option.some.inj ho
        have Z := hinv
        clear hinv ho hbel hN hdeps z0 z1 z2 z3 z4 z5 z6 z7 z8 z9 z10
        go_simp
        obtain ⟨hN, hbel, z0, z1, z2, z3, z4, z5, z6, z7, z8, z9, z10⟩ := Z.out
        have hb' := below_alloc1 wz (Obj.cells #[.int .i64 0, .slice none 0 0] 31)
        exact hK _ _ ⟨_, _, _, _, _, _, rfl, Lib.hid ⟨by simpa using hN, hbel.trans (hb'.mono hbel.size), fun g0 => (z0 ((set_other (by decide)).symm.trans g0)), fun g0 => (z1 ((set_other (by decide)).symm.trans g0)).below hb', fun g0 => (z2 ((set_other (by decide)).symm.trans g0)), fun g0 => (z3 ((set_other (by decide)).symm.trans g0)).below hb', fun g0 => (z4 ((set_other (by decide)).symm.trans g0)).below hb', fun _ => AV.new _ _ _ _ hbel.size, fun g0 g1 => (z4 ((set_other (by decide)).symm.trans g0)).ne, fun g0 => (z7 ((set_other (by decide)).symm.trans g0)).below hb', fun g0 => not_done hL (z10 ((set_other (by decide)).symm.trans g0)).1, fun g0 => ⟨set_keep (z9 ((set_other (by decide)).symm.trans g0)).1, set_keep (z9 ((set_other (by decide)).symm.trans g0)).2⟩, fun g0 => ⟨set_keep (z10 ((set_other (by decide)).symm.trans g0)).1, set_keep (z10 ((set_other (by decide)).symm.trans g0)).2⟩⟩⟩
      · obtain rfl := Option.some.inj ho
        have hds : L[4]? = some true ∧ L[5]? = some true ∧ L[1]? = some true := by
          simp [Region.binds] at hdeps
          refine ⟨?_, ?_, ?_⟩ <;> (refine dep ?_; simp [hdeps])
        obtain ⟨d4, d5, d1⟩ := hds
        obtain ⟨A0, hA1, hA2, x0, u0, hA3⟩ := z4 d4
        obtain ⟨D, a, n, c, ps, hc1, hc2, hc3⟩ := z1 d1
        subst hA1
        subst hc1
        obtain ⟨s0, s1, s2, s3, s4, _⟩ := old2 wz A0 31 _ _ (.int .i64 D) (.slice a n c) hA3
        have S4 := Lib.hid s4
        have HA3 := Lib.hid hA3
        have HA2 := Lib.hid hA2
        have Z := hinv
        clear hinv ho hbel hN hdeps s4 hA2 hA3 hc2 hc3 z0 z1 z2 z3 z4 z5 z6 z7 z8 z9 z10
        go_simp
        obtain ⟨hN, hbel, z0, z1, z2, z3, z4, z5, z6, z7, z8, z9, z10⟩ := Z.out
        have hA4 := heap_setCell_same wz A0 0 _ 31 (.int .i64 D) HA3.out
        simp only [List.setIfInBounds_toArray, List.set_cons_zero] at hA4
        exact hK _ _ ⟨_, _, _, _, _, _, rfl, Lib.hid ⟨by simpa using hN, (hbel.setCell (p := ⟨A0, 0, none⟩) HA2.out _).setCell (p := ⟨A0, 1, none⟩) HA2.out _, fun g0 => (z0 ((set_other (by decide)).symm.trans g0)), fun g0 => ((z1 ((set_other (by decide)).symm.trans g0)).set HA3.out).set hA4, fun g0 => (z2 ((set_other (by decide)).symm.trans g0)), fun g0 => ((z3 ((set_other (by decide)).symm.trans g0)).set HA3.out).set hA4, fun _ => ⟨A0, rfl, HA2.out, _, _, S4.out⟩, fun g0 => ((z5 ((set_other (by decide)).symm.trans g0)).set ((z6 d4 d5)).symm).set ((z6 d4 d5)).symm, fun g0 g1 => (z6 ((set_other (by decide)).symm.trans g0) ((set_other (by decide)).symm.trans g1)), fun _ => ⟨A0, D, .slice a n c, rfl, rfl, S4.out⟩, fun g0 => ((z8 ((set_other (by decide)).symm.trans g0)).set ((z6 d4 d5)).symm).set ((z6 d4 d5)).symm, fun _ => ⟨set_keep d4, set_keep d1⟩, fun g0 => ⟨set_keep (z10 ((set_other (by decide)).symm.trans g0)).1, set_keep (z10 ((set_other (by decide)).symm.trans g0)).2⟩⟩⟩
      · obtain rfl := Option.some.inj ho
        have hds : L[5]? = some true ∧ L[4]? = some true ∧ L[3]? = some true := by
          simp [Region.binds] at hdeps
          refine ⟨?_, ?_, ?_⟩ <;> (refine dep ?_; simp [hdeps])
        obtain ⟨d5, d4, d3⟩ := hds
        obtain ⟨A0, hA1, hA2, x0, u0, hA3⟩ := z5 d5
        obtain ⟨D, a, n, c, ps, hc1, hc2, hc3⟩ := z3 d3
        subst hA1
        subst hc1
        obtain ⟨s0, s1, s2, s3, s4, _⟩ := old2 wz A0 31 _ _ (.int .i64 D) (.slice a n c) hA3
        have S4 := Lib.hid s4
        have HA3 := Lib.hid hA3
        have HA2 := Lib.hid hA2
        have Z := hinv
        clear hinv ho hbel hN hdeps s4 hA2 hA3 hc2 hc3 z0 z1 z2 z3 z4 z5 z6 z7 z8 z9 z10
        go_simp
        obtain ⟨hN, hbel, z0, z1, z2, z3, z4, z5, z6, z7, z8, z9, z10⟩ := Z.out
        have hA4 := heap_setCell_same wz A0 0 _ 31 (.int .i64 D) HA3.out
        simp only [List.setIfInBounds_toArray, List.set_cons_zero] at hA4
        exact hK _ _ ⟨_, _, _, _, _, _, rfl, Lib.hid ⟨by simpa using hN, (hbel.setCell (p := ⟨A0, 0, none⟩) HA2.out _).setCell (p := ⟨A0, 1, none⟩) HA2.out _, fun g0 => (z0 ((set_other (by decide)).symm.trans g0)), fun g0 => ((z1 ((set_other (by decide)).symm.trans g0)).set HA3.out).set hA4, fun g0 => (z2 ((set_other (by decide)).symm.trans g0)), fun g0 => ((z3 ((set_other (by decide)).symm.trans g0)).set HA3.out).set hA4, fun g0 => ((z4 ((set_other (by decide)).symm.trans g0)).set (z6 d4 d5)).set (z6 d4 d5), fun _ => ⟨A0, rfl, HA2.out, _, _, S4.out⟩, fun g0 g1 => (z6 ((set_other (by decide)).symm.trans g0) ((set_other (by decide)).symm.trans g1)), fun g0 => ((z7 ((set_other (by decide)).symm.trans g0)).set (z6 d4 d5)).set (z6 d4 d5), fun _ => ⟨A0, D, .slice a n c, rfl, rfl, S4.out⟩, fun g0 => ⟨set_keep (z9 ((set_other (by decide)).symm.trans g0)).1, set_keep (z9 ((set_other (by decide)).symm.trans g0)).2⟩, fun _ => ⟨set_keep d5, set_keep d3⟩⟩⟩
    case fin =>
      intro L a wz hI hr
      obtain ⟨y5, y6, y12, y13, y14, y15, rfl, hinv⟩ := hI
      obtain ⟨hN, hbel, z0, z1, z2, z3, z4, z5, z6, z7, z8, z9, z10⟩ := hinv.out
      have f0 : L[0]? = some true := by
        cases hb : L[0]? with
        | none => have := (Array.getElem?_eq_none_iff.1 hb); omega
        | some b =>
          cases b with
          | true => rfl
          | false =>
            exact (ready_nil hr hb (by rfl) (by simp [Region.binds])).elim
      have f1 : L[1]? = some true := by
        cases hb : L[1]? with
        | none => have := (Array.getElem?_eq_none_iff.1 hb); omega
        | some b =>
          cases b with
          | true => rfl
          | false =>
            exact (ready_nil hr hb (by rfl) (by simp [Region.binds, f0])).elim
      have f2 : L[2]? = some true := by
        cases hb : L[2]? with
        | none => have := (Array.getElem?_eq_none_iff.1 hb); omega
        | some b =>
          cases b with
          | true => rfl
          | false =>
            exact (ready_nil hr hb (by rfl) (by simp [Region.binds, f0, f1])).elim
      have f3 : L[3]? = some true := by
        cases hb : L[3]? with
        | none => have := (Array.getElem?_eq_none_iff.1 hb); omega
        | some b =>
          cases b with
          | true => rfl
          | false =>
            exact (ready_nil hr hb (by rfl) (by simp [Region.binds, f0, f1, f2])).elim
      have f4 : L[4]? = some true := by
        cases hb : L[4]? with
        | none => have := (Array.getElem?_eq_none_iff.1 hb); omega
        | some b =>
          cases b with
          | true => rfl
          | false =>
            exact (ready_nil hr hb (by rfl) (by simp [Region.binds, f0, f1, f2, f3])).elim
      have f5 : L[5]? = some true := by
        cases hb : L[5]? with
        | none => have := (Array.getElem?_eq_none_iff.1 hb); omega
        | some b =>
          cases b with
          | true => rfl
          | false =>
            exact (ready_nil hr hb (by rfl) (by simp [Region.binds, f0, f1, f2, f3, f4])).elim
      have f6 : L[6]? = some true := by
        cases hb : L[6]? with
        | none => have := (Array.getElem?_eq_none_iff.1 hb); omega
        | some b =>
          cases b with
          | true => rfl
          | false =>
            exact (ready_nil hr hb (by rfl) (by simp [Region.binds, f0, f1, f2, f3, f4, f5])).elim
      have f7 : L[7]? = some true := by
        cases hb : L[7]? with
        | none => have := (Array.getElem?_eq_none_iff.1 hb); omega
        | some b =>
          cases b with
          | true => rfl
          | false =>
            exact (ready_nil hr hb (by rfl) (by simp [Region.binds, f0, f1, f2, f3, f4, f5, f6])).elim
      obtain ⟨A0, D0, v0, hp0, hy0, hh0⟩ := z7 f6
      obtain ⟨D0', a0, n0, c0, ps0, hz0, hg0, ho0⟩ := z1 f1
      rw [hy0] at hz0
      obtain ⟨rfl, rfl⟩ : D0 = D0' ∧ v0 = .slice a0 n0 c0 := by simpa using hz0
      obtain ⟨A1, D1, v1, hp1, hy1, hh1⟩ := z8 f7
      obtain ⟨D1', a1, n1, c1, ps1, hz1, hg1, ho1⟩ := z3 f3
      rw [hy1] at hz1
      obtain ⟨rfl, rfl⟩ : D1 = D1' ∧ v1 = .slice a1 n1 c1 := by simpa using hz1
      subst hp0 hp1
      have HF := Lib.hid (show Lbl wz A0 D0 (.slice a0 n0 c0) ps0 ∧ Lbl wz A1 D1 (.slice a1 n1 c1) ps1 ∧ Lab.Fine D0 ps0 ∧ Lab.Fine D1 ps1 ∧ Below w1.heap.size w1 wz from ⟨⟨hh0, rc_of_owns ho0 (by have := hg0.2.2.2.2; omega)⟩, ⟨hh1, rc_of_owns ho1 (by have := hg1.2.2.2.2; omega)⟩, hg0, hg1, hbel⟩)
      go_wp2_with fail
      go_meet
      exact ⟨_, _, _, _, _, _, _, _, _, _, _, _, rfl, rfl, HF⟩
  case rest =>
    obtain ⟨A0, D0, ps0, a0, n0, c0, A1, D1, ps1, a1, n1, c1, rfl, rfl, HF⟩ := hcut
    have HBw := Lib.hid (HS.out w1 (Below.refl _ _)).1
    clear HS SS C0 C1 hcall HI0 HI1 HK HB HFit
    obtain ⟨X, rfl⟩ : ∃ X, X = wc := ⟨_, rfl⟩
    obtain ⟨L0, L1, F0, F1, hbx⟩ := HF.out
    have HX := Lib.hid (HBw.out.trans (hbx.mono HBw.out.size))
    have O0 := Lib.hid F0.1
    have l0 := F0.2.2.2.2
    have O1 := Lib.hid F1.1
    have l1 := F1.2.2.2.2
    have R0 := Pk.right_of_fine F0
    have R1 := Pk.right_of_fine F1
    have KS := Lib.hid (fun (wx : World) (h : Below X.heap.size X wx) => (⟨(L0).below h, (L1).below h, (HX.out).trans (h.mono (HX.out).size)⟩ : Lbl wx A0 D0 (.slice a0 n0 c0) ps0 ∧ Lbl wx A1 D1 (.slice a1 n1 c1) ps1 ∧ Below w.heap.size w wx))
    have SC := Lib.hid (fun (wx : World) (h : Below X.heap.size X wx) => (⟨(KS.out wx h).1.cells.1, (KS.out wx h).1.cells.2, (KS.out wx h).2.1.cells.1, (KS.out wx h).2.1.cells.2⟩ : wx.cell? ⟨A0, 0, none⟩ = some (.int .i64 D0) ∧ wx.cell? ⟨A0, 1, none⟩ = some ((.slice a0 n0 c0)) ∧ wx.cell? ⟨A1, 0, none⟩ = some (.int .i64 D1) ∧ wx.cell? ⟨A1, 1, none⟩ = some ((.slice a1 n1 c1))))
    have S0 := Pk.small_of_right R0
    have S1 := Pk.small_of_right R1
    obtain ⟨x0, ex0⟩ : ∃ x, Pk.lab D0 ps0 = x := ⟨_, rfl⟩
    have C0 := Lib.hid (fun (W : World) (h : Below X.heap.size X W) => (show Calls Try.prog 9 #[.slice none 0 0, .agg #[.int .i64 D0, .slice a0 n0 c0]] W (fun e w' => ∃ A c, e = .returned (.slice A x0.length c) ∧ x0.length ≤ c ∧ YR w' A x0 ∧ Below W.heap.size W w') from by
      have q := plabel_any none 0 0 [] D0 (.slice a0 n0 c0) ps0 W rfl (by omega) (BR.none W) (fun _ => rfl) S0 ((KS.out _ h).1.2)
      rw [ex0] at q
      exact q.mono fun e w' ⟨v, h1, h2, h3⟩ => by
        obtain ⟨A, c, rfl, hc, hy, _⟩ := h2.form
        exact ⟨A, c, h1, hc, hy, h3⟩))
    obtain ⟨x1, ex1⟩ : ∃ x, Pk.lab D1 ps1 = x := ⟨_, rfl⟩
    have C1 := Lib.hid (fun (W : World) (h : Below X.heap.size X W) => (show Calls Try.prog 9 #[.slice none 0 0, .agg #[.int .i64 D1, .slice a1 n1 c1]] W (fun e w' => ∃ A c, e = .returned (.slice A x1.length c) ∧ x1.length ≤ c ∧ YR w' A x1 ∧ Below W.heap.size W w') from by
      have q := plabel_any none 0 0 [] D1 (.slice a1 n1 c1) ps1 W rfl (by omega) (BR.none W) (fun _ => rfl) S1 ((KS.out _ h).2.1.2)
      rw [ex1] at q
      exact q.mono fun e w' ⟨v, h1, h2, h3⟩ => by
        obtain ⟨A, c, rfl, hc, hy, _⟩ := h2.form
        exact ⟨A, c, h1, hc, hy, h3⟩))
    have HE := Lib.hid (And.intro ex0 ex1)
    have HR := Lib.hid (And.intro R0 R1)
    have HS2 := Lib.hid (And.intro S0 S1)
    have LN0 := Lib.hid (RC.len L0.2)
    have hlen0 : x0.length = 2 + 5 * n0 := by rw [← ex0, Pk.lab_len, LN0.out]
    have hb0 : ∀ x ∈ x0, x < 256 := by rw [← ex0]; exact Pk.lab_byte S0
    have hb1 : ∀ x ∈ x1, x < 256 := by rw [← ex1]; exact Pk.lab_byte S1
    have hle1 : x1.length ≤ 1000 := by rw [← ex1, Pk.lab_len]; have := F1.2.2.2.2; omega
    have hle0 : x0.length ≤ 1000 := by rw [← ex0, Pk.lab_len]; have := F0.2.2.2.2; omega
    have HBY := Lib.hid (And.intro hb0 hb1)
    have HXL := Lib.hid (And.intro hlen0 (And.intro hle0 hle1))
    obtain ⟨k0, k1, k2, k3⟩ := SC.out X (Below.refl _ _)
    have hcall := Lib.hid ((Below.refl X.heap.size X).drew)
    clear ex0 ex1 R0 R1 S0 S1 hb0 hb1 hlen0 hle0 hle1 L0 L1 F0 F1 HF hbx
    go_upto_region 4 with fail
    go_cut [7, 8, 16, 17, 18, 19] (fun s7 s8 s16 s17 s18 s19 wx => ∃ B0 d0 B1 d1, s7 = .slice B0 x0.length d0 ∧ s8 = .slice B1 x1.length d1 ∧ Hid (x0.length ≤ d0 ∧ x1.length ≤ d1 ∧ YR wx B0 x0 ∧ YR wx B1 x1 ∧ Below X.heap.size X wx))
    case first =>
      go_region_held3 (fun w' => w'.cell? ⟨A0, 0, none⟩ = some (.int .i64 D0) ∧ w'.cell? ⟨A0, 1, none⟩ = some ((.slice a0 n0 c0)) ∧ w'.cell? ⟨A1, 0, none⟩ = some (.int .i64 D1) ∧ w'.cell? ⟨A1, 1, none⟩ = some ((.slice a1 n1 c1)))
        (first | exact SC.out _ hcall.out)
        (first
          | (go_at_call_of 9 (Value.agg #[Value.int .i64 D0, .slice a0 n0 c0])
             with_reducible refine (C0.out _ hcall.out).mono ?_
             rintro e wq ⟨B0, d0, rfl, hd0, hy0, hb'⟩
             have Y0 := Lib.hid (And.intro hd0 hy0)
             replace hcall := Lib.hid (hcall.out.trans (hb'.mono hcall.out.size))
             clear hb' hd0 hy0)
          | (go_at_call_of 9 (Value.agg #[Value.int .i64 D1, .slice a1 n1 c1])
             with_reducible refine (C1.out _ hcall.out).mono ?_
             rintro e wr ⟨B1, d1, rfl, hd1, hy1, hb'⟩
             have Y1 := Lib.hid (And.intro hd1 (And.intro hy1 hb'))
             replace hcall := Lib.hid (hcall.out.trans (hb'.mono hcall.out.size))
             clear hb' hd1 hy1))
      all_goals
        have HF := Lib.hid (And.intro Y0.out.1 (And.intro Y1.out.1 (And.intro (Y0.out.2.below Y1.out.2.2) (And.intro Y1.out.2.1 hcall.out))))
        go_wp2_with fail
        go_meet
        exact ⟨_, _, _, _, rfl, rfl, HF⟩
    case rest =>
      obtain ⟨B0, d0, B1, d1, rfl, rfl, HF⟩ := hcut
      obtain ⟨X2, eX2⟩ : ∃ X2, X2 = wc := ⟨_, rfl⟩
      rw [← eX2] at HF
      have hx2 := HF.out.2.2.2.2
      have HX2 := Lib.hid (HX.out.trans (hx2.mono HX.out.size))
      have HL := Lib.hid (And.intro (KS.out X2 hx2).1 (KS.out X2 hx2).2.1)
      have hy0 := HF.out.2.2.1
      have hy1 := HF.out.2.2.2.1
      have hc0 := HF.out.1
      have hc1 := HF.out.2.1
      obtain ⟨k0, k1⟩ := HL.out.1.cells
      obtain ⟨k2, k3⟩ := HL.out.2.cells
      have CS := Lib.hid (same_any (.slice a0 n0 c0) (.slice a1 n1 c1) ps0 ps1 D0 D1 X2 (HL.out.1.2.reads (Nat.le_refl _)) (HL.out.2.2.reads (Nat.le_refl _)))
      have HY := Lib.hid (And.intro hy0 hy1)
      have xl := HXL.out
      obtain ⟨l0, el0⟩ : ∃ l, x0.length = l := ⟨_, rfl⟩
      obtain ⟨l1, el1⟩ : ∃ l, x1.length = l := ⟨_, rfl⟩
      rw [el0] at hc0 xl ⊢
      rw [el1] at hc1 xl ⊢
      have EL := Lib.hid (And.intro el0 el1)
      obtain ⟨xl1, xl2, xl3⟩ := xl
      have XL := Lib.hid xl1
      have hn0 : n0 ≤ 1000 := by omega
      rw [← eX2]
      clear hx2 hy0 hy1 el0 el1 xl1 eX2 HF SC KS C0 C1 hcall HX HXL HBw
      by_cases he : D0 = D1 ∧ ps0 = ps1
      · rw [decide_eq_true he] at CS
        have hxx : x0 = x1 := by rw [← HE.out.1, ← HE.out.2, he.1, he.2]
        have HXX := Lib.hid hxx
        clear he hxx
        go_wp2_with fail
        refine CS.out.mono ?_
        rintro e w5 ⟨rfl, hb5⟩
        have CB := Lib.hid (same_any_b B0 B1 l0 l1 d0 d1 x0 x1 true w5 EL.out.1 EL.out.2 (HY.out.1.br.below hb5) (HY.out.2.br.below hb5) HBY.out.1 HBY.out.2 (by rw [decide_eq_true HXX.out]))
        have HW := Lib.hid (HX2.out.trans (hb5.mono HX2.out.size))
        clear hb5 CS
        go_wp2_with fail
        refine CB.out.mono ?_
        rintro e w6 ⟨rfl, rfl⟩
        go_wp2_with fail
        go_ret
        exact ⟨rfl, HW.out⟩
      · rw [decide_eq_false he] at CS
        obtain ⟨nn, enn⟩ : ∃ nn, nn = min l0 l1 := ⟨_, rfl⟩
        have hmin : min (l0 : Int) (l1 : Int) = (nn : Int) := by omega
        have hn1 : nn ≤ l0 := by omega
        have hn2 : nn ≤ l1 := by omega
        have hne : decide (x0.take nn = x1.take nn) = false := by
          refine decide_eq_false fun h => he ?_
          rw [← HE.out.1, ← HE.out.2] at h
          exact Pk.lab_apart HR.out.1 HR.out.2 (by rw [HE.out.1, HE.out.2, EL.out.1, EL.out.2]; exact enn) h
        have HNE := Lib.hid hne
        have hBa : ((l0 : Int) == 2 + 5 * (n0 : Int)) = true := by rw [beq_iff_eq]; have := XL.out; omega
        have hBb : decide ((l0 : Int) = 2 + 5 * (n0 : Int)) = true := decide_eq_true (by have := XL.out; omega)
        clear he hne enn
        go_wp2_with fail
        refine CS.out.mono ?_
        rintro e w5 ⟨rfl, hb5⟩
        have hq0 : BR w5 B0 (x0.take nn) := (HY.out.1.take nn).br.below hb5
        have hq1 : BR w5 B1 (x1.take nn) := (HY.out.2.take nn).br.below hb5
        have HC := Lib.hid (fun (q : Nat) => (show Calls Try.prog 14 #[.slice B0 nn d0, .slice B1 nn d1] (w5.drewN q) (fun e w' => e = .returned (.bool false) ∧ w' = w5.drewN q) from
          (same_any_b B0 B1 nn nn d0 d1 (x0.take nn) (x1.take nn) false (w5.drewN q) (by rw [List.length_take, EL.out.1]; omega) (by rw [List.length_take, EL.out.2]; omega) (show BR (w5.drewN q) B0 (x0.take nn) from hq0) (show BR (w5.drewN q) B1 (x1.take nn) from hq1)
            (fun x hx => HBY.out.1 x (List.mem_of_mem_take hx)) (fun x hx => HBY.out.2 x (List.mem_of_mem_take hx)) HNE.out.symm).mono fun e w' ⟨h1, h2⟩ => ⟨h1, h2.symm⟩))
        have HW := Lib.hid (HX2.out.trans (hb5.mono HX2.out.size))
        obtain ⟨q0, q1⟩ := (HL.out.1.below hb5).cells
        clear hb5 CS k0 k1 k2 k3 hq0 hq1
        go_upto_region 8 with fail
        go_quiet ((go_at_call 14; exact Calls.quiet_of_same (HC.out _)))
        all_goals
          go_wp2_with fail
          go_ret
          exact ⟨by first | rfl | simp, HW.out.os, HW.out.tape, HW.out.output, HW.out.size, HW.out.block⟩
end Go.Proofs.Ytjmfjehjlnghmaa
