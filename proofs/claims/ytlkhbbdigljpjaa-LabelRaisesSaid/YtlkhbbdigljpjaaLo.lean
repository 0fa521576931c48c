import Derived.Test.YtlkhbbdigljpjaaUe
namespace Go.Proofs.Ytlkhbbdigljpjaa
open Go.RowKit
set_option linter.unusedVariables false
set_option linter.unusedSimpArgs false

theorem leq_self (D : Int) (ps : List (Nat × Int)) : ∀ c, Lab.at' D ps c ≤ Lab.at' D ps c := fun c => Int.le_refl _
theorem leq_anti {D E : Int} {ps qs : List (Nat × Int)} (o1 : Lab.Ok D ps) (o2 : Lab.Ok E qs) (h1 : ∀ c, Lab.at' D ps c ≤ Lab.at' E qs c) (h2 : ∀ c, Lab.at' E qs c ≤ Lab.at' D ps c) : D = E ∧ ps = qs :=
  pair_ext o1 o2 (by have a := h1 0; have b := h2 0; rw [Lab.at_zero o1, Lab.at_zero o2] at a b; omega) fun c => by have := h1 c; have := h2 c; omega
theorem leq_jn {D E F : Int} {ps qs rs : List (Nat × Int)} (o1 : Lab.Ok D ps) (o2 : Lab.Ok E qs) : (∀ c, Lab.at' (max D E) (Lab.jn D ps E qs) c ≤ Lab.at' F rs c) ↔ (∀ c, Lab.at' D ps c ≤ Lab.at' F rs c) ∧ ∀ c, Lab.at' E qs c ≤ Lab.at' F rs c := by
  constructor
  · intro h
    exact ⟨fun c => by have := h c; rw [Lab.jn_at o1 o2] at this; omega, fun c => by have := h c; rw [Lab.jn_at o1 o2] at this; omega⟩
  · rintro ⟨h1, h2⟩ c
    have := h1 c; have := h2 c
    rw [Lab.jn_at o1 o2]; omega
theorem order_cases {pab pba pbc pac pjc pE : Prop} {rab rba rbc rac rjc : Bool} (h1 : rab = true ↔ pab) (h2 : rba = true ↔ pba) (h3 : rbc = true ↔ pbc) (h4 : rac = true ↔ pac) (h5 : rjc = true ↔ pjc)
    (k1 : pab → pba → pE) (k2 : pab → pbc → pac) (k3 : pjc ↔ pac ∧ pbc) :
    (rab = false ∧ rjc = false) ∨ (rab = false ∧ rjc = true ∧ rac = true ∧ rbc = true) ∨ (rab = true ∧ rba = false ∧ rbc = false ∧ rjc = false) ∨ (rab = true ∧ rba = false ∧ rbc = true ∧ rac = true ∧ rjc = true) ∨
      (rab = true ∧ rba = true ∧ rbc = false ∧ rjc = false ∧ pE) ∨ (rab = true ∧ rba = true ∧ rbc = true ∧ rac = true ∧ rjc = true ∧ pE) := by
  cases rab <;> cases rba <;> cases rbc <;> cases rac <;> cases rjc <;> simp_all
set_option maxRecDepth 100000 in
set_option maxHeartbeats 4000000 in
theorem order_law (S0 S1 S2 : Int) (v0 v1 v2 : Value) (w : World) (h0 : Ints w v0) (h1 : Ints w v1) (h2 : Ints w v2) :
    Calls Try.prog 6 #[.agg #[.int .i64 S0, v0], .agg #[.int .i64 S1, v1], .agg #[.int .i64 S2, v2]] w fun e w' => e = .returned (.bool true) ∧ Below w.heap.size w w' := by
  obtain ⟨va0, vn0, vc0, rfl⟩ : ∃ a n c, v0 = .slice a n c := by rcases h0 with ⟨a, c, rfl⟩ | ⟨b, off, cap, n, ls, rfl, _⟩ <;> exact ⟨_, _, _, rfl⟩
  obtain ⟨va1, vn1, vc1, rfl⟩ : ∃ a n c, v1 = .slice a n c := by rcases h1 with ⟨a, c, rfl⟩ | ⟨b, off, cap, n, ls, rfl, _⟩ <;> exact ⟨_, _, _, rfl⟩
  obtain ⟨va2, vn2, vc2, rfl⟩ : ∃ a n c, v2 = .slice a n c := by rcases h2 with ⟨a, c, rfl⟩ | ⟨b, off, cap, n, ls, rfl, _⟩ <;> exact ⟨_, _, _, rfl⟩
  have HI0 := Lib.hid h0
  have HI1 := Lib.hid h1
  have HI2 := Lib.hid h2
  have HFit := Lib.hid (fun (W : World) => fit_any W)
  obtain ⟨W0, e0⟩ : ∃ W0, W0 = (((w.alloc (Obj.cells #[.int .i64 S0, .slice va0 vn0 vc0] 29)).alloc (Obj.cells #[.int .i64 S1, .slice va1 vn1 vc1] 29)).alloc (Obj.cells #[.int .i64 S2, .slice va2 vn2 vc2] 29)) := ⟨_, rfl⟩
  have hB : Below w.heap.size w W0 := by rw [e0]; exact (((Below.refl _ _).alloc (Nat.le_refl _) _).alloc (by simp <;> omega) _).alloc (by simp <;> omega) _
  have hk0 : W0.heap[w.heap.size]? = some (Obj.cells #[.int .i64 S0, .slice va0 vn0 vc0] 29) := by
    rw [e0]
    rw [Below.heap_alloc _ _ _ (by simp <;> omega)]
    rw [Below.heap_alloc _ _ _ (by simp <;> omega)]
    have := heap_alloc_new w (Obj.cells #[.int .i64 S0, .slice va0 vn0 vc0] 29); simpa using this
  have hk1 : W0.heap[w.heap.size + 1]? = some (Obj.cells #[.int .i64 S1, .slice va1 vn1 vc1] 29) := by
    rw [e0]
    rw [Below.heap_alloc _ _ _ (by simp <;> omega)]
    have := heap_alloc_new (w.alloc (Obj.cells #[.int .i64 S0, .slice va0 vn0 vc0] 29)) (Obj.cells #[.int .i64 S1, .slice va1 vn1 vc1] 29); simpa using this
  have hk2 : W0.heap[w.heap.size + 2]? = some (Obj.cells #[.int .i64 S2, .slice va2 vn2 vc2] 29) := by
    rw [e0]
    have := heap_alloc_new ((w.alloc (Obj.cells #[.int .i64 S0, .slice va0 vn0 vc0] 29)).alloc (Obj.cells #[.int .i64 S1, .slice va1 vn1 vc1] 29)) (Obj.cells #[.int .i64 S2, .slice va2 vn2 vc2] 29); simpa using this
  have HB := Lib.hid hB
  have HK := Lib.hid (show W0.heap[w.heap.size]? = some (Obj.cells #[.int .i64 S0, .slice va0 vn0 vc0] 29) ∧ W0.heap[w.heap.size + 1]? = some (Obj.cells #[.int .i64 S1, .slice va1 vn1 vc1] 29) ∧ W0.heap[w.heap.size + 2]? = some (Obj.cells #[.int .i64 S2, .slice va2 vn2 vc2] 29) from ⟨hk0, hk1, hk2⟩)
  clear h0 h1 h2 hB hk0 hk1 hk2
  go_enter Try.func6, Try.ntmps6
  go_wp2_with fail
  rw [← e0]
  clear e0
  refine (HFit.out _).mono ?_
  rintro e w1 ⟨rfl, hb1⟩
  have hS : ∀ wx, Below w1.heap.size w1 wx → Below w.heap.size w wx ∧ wx.cell? ⟨w.heap.size, 0, none⟩ = some (.int .i64 S0) ∧ wx.cell? ⟨w.heap.size, 1, none⟩ = some (.slice va0 vn0 vc0) ∧ wx.cell? ⟨w.heap.size + 1, 0, none⟩ = some (.int .i64 S1) ∧ wx.cell? ⟨w.heap.size + 1, 1, none⟩ = some (.slice va1 vn1 vc1) ∧ wx.cell? ⟨w.heap.size + 2, 0, none⟩ = some (.int .i64 S2) ∧ wx.cell? ⟨w.heap.size + 2, 1, none⟩ = some (.slice va2 vn2 vc2) := fun wx hx => by
    have h0 := hb1.trans (hx.mono hb1.size)
    have r0 : wx.heap[w.heap.size]? = some (Obj.cells #[.int .i64 S0, .slice va0 vn0 vc0] 29) := by rw [h0.block _ (Array.getElem?_eq_some_iff.1 HK.out.1).1]; exact HK.out.1
    have r1 : wx.heap[w.heap.size + 1]? = some (Obj.cells #[.int .i64 S1, .slice va1 vn1 vc1] 29) := by rw [h0.block _ (Array.getElem?_eq_some_iff.1 HK.out.2.1).1]; exact HK.out.2.1
    have r2 : wx.heap[w.heap.size + 2]? = some (Obj.cells #[.int .i64 S2, .slice va2 vn2 vc2] 29) := by rw [h0.block _ (Array.getElem?_eq_some_iff.1 HK.out.2.2).1]; exact HK.out.2.2
    exact ⟨HB.out.trans (h0.mono HB.out.size), by rw [cell_of_row _ _ 0 _ 29 (0, 0) r0]; rfl, by rw [cell_of_row _ _ 1 _ 29 (0, 0) r0]; rfl, by rw [cell_of_row _ _ 0 _ 29 (0, 0) r1]; rfl, by rw [cell_of_row _ _ 1 _ 29 (0, 0) r1]; rfl, by rw [cell_of_row _ _ 0 _ 29 (0, 0) r2]; rfl, by rw [cell_of_row _ _ 1 _ 29 (0, 0) r2]; rfl⟩
  have HS := Lib.hid hS
  clear hS hb1
  go_upto_region 3 with fail
  have hcall := Lib.hid ((Below.refl w1.heap.size w1).drew)
  have C0 := Lib.hid (fun (W : World) (h : Below w1.heap.size w1 W) => seed_form S0 (.slice va0 vn0 vc0) W (HI0.out.below (HS.out W h).1))
  have C1 := Lib.hid (fun (W : World) (h : Below w1.heap.size w1 W) => seed_form S1 (.slice va1 vn1 vc1) W (HI1.out.below (HS.out W h).1))
  have C2 := Lib.hid (fun (W : World) (h : Below w1.heap.size w1 W) => seed_form S2 (.slice va2 vn2 vc2) W (HI2.out.below (HS.out W h).1))
  have SS := Lib.hid (fun (wx : World) (h : Below w1.heap.size w1 wx) => ((HS.out wx h).2 : wx.cell? ⟨w.heap.size, 0, none⟩ = some (.int .i64 S0) ∧ wx.cell? ⟨w.heap.size, 1, none⟩ = some (.slice va0 vn0 vc0) ∧ wx.cell? ⟨w.heap.size + 1, 0, none⟩ = some (.int .i64 S1) ∧ wx.cell? ⟨w.heap.size + 1, 1, none⟩ = some (.slice va1 vn1 vc1) ∧ wx.cell? ⟨w.heap.size + 2, 0, none⟩ = some (.int .i64 S2) ∧ wx.cell? ⟨w.heap.size + 2, 1, none⟩ = some (.slice va2 vn2 vc2)))
  go_cut [7, 8, 9, 13, 14, 15, 16, 17, 18] (fun s7 s8 s9 s13 s14 s15 s16 s17 s18 wx => ∃ A0 D0 ps0 a0 n0 c0 A1 D1 ps1 a1 n1 c1 A2 D2 ps2 a2 n2 c2, s7 = .pointer (some ⟨A0, 0, none⟩) ∧ s8 = .pointer (some ⟨A1, 0, none⟩) ∧ s9 = .pointer (some ⟨A2, 0, none⟩) ∧ Hid (Lbl wx A0 D0 (.slice a0 n0 c0) ps0 ∧ Lbl wx A1 D1 (.slice a1 n1 c1) ps1 ∧ Lbl wx A2 D2 (.slice a2 n2 c2) ps2 ∧ Lab.Fine D0 ps0 ∧ Lab.Fine D1 ps1 ∧ Lab.Fine D2 ps2 ∧ Below w1.heap.size w1 wx))
  case first =>
    refine wp_region_any (by kernel_rfl) ?_
    refine wpAny_inv (I := fun L a wz => ∃ y7 y8 y9 y13 y14 y15 y16 y17 y18 : Value, a = { tmps := #[.agg #[.int .i64 S0, .slice va0 vn0 vc0], .agg #[.int .i64 S1, .slice va1 vn1 vc1], .agg #[.int .i64 S2, .slice va2 vn2 vc2], .pointer (some ⟨w.heap.size, 0, none⟩), .pointer (some ⟨w.heap.size + 1, 0, none⟩), .pointer (some ⟨w.heap.size + 2, 0, none⟩), .bool false, y7, y8, y9, undef, .bool true, .bool false, y13, y14, y15, y16, y17, y18, undef, undef, undef, undef, undef, undef, undef, undef, undef, undef, undef, undef, undef, undef, undef, undef, undef, undef, undef, undef, undef, undef, undef, undef, undef, undef, undef, undef, undef, undef, undef, undef, undef, undef, undef, undef, undef, undef, undef, undef, undef, undef, undef, undef, undef, undef, undef, undef, undef, undef, undef, undef, undef, undef, undef, undef], defers := [] } ∧ Hid (L.size = 12 ∧ Below w1.heap.size w1 wz ∧ (L[0]? = some true → y13 = .agg #[.int .i64 S0, .slice va0 vn0 vc0]) ∧ (L[1]? = some true → LV w1 wz Lab.Fine y14) ∧ (L[2]? = some true → y15 = .agg #[.int .i64 S1, .slice va1 vn1 vc1]) ∧ (L[3]? = some true → LV w1 wz Lab.Fine y16) ∧ (L[4]? = some true → y17 = .agg #[.int .i64 S2, .slice va2 vn2 vc2]) ∧ (L[5]? = some true → LV w1 wz Lab.Fine y18) ∧ (L[6]? = some true → AV w1 wz y7) ∧ (L[7]? = some true → AV w1 wz y8) ∧ (L[8]? = some true → AV w1 wz y9) ∧ (L[6]? = some true → L[7]? = some true → y7 ≠ y8) ∧ (L[6]? = some true → L[8]? = some true → y7 ≠ y9) ∧ (L[7]? = some true → L[8]? = some true → y8 ≠ y9) ∧ (L[9]? = some true → SV wz y7 y14) ∧ (L[10]? = some true → SV wz y8 y16) ∧ (L[11]? = some true → SV wz y9 y18) ∧ (L[9]? = some true → (L[6]? = some true ∧ L[1]? = some true)) ∧ (L[10]? = some true → (L[7]? = some true ∧ L[3]? = some true)) ∧ (L[11]? = some true → (L[8]? = some true ∧ L[5]? = some true)))) ?step ?fin _ _ _ _ ⟨_, _, _, _, _, _, _, _, _, rfl, Lib.hid ⟨by rfl, Below.drew (Below.refl _ _), gone (by rfl), gone (by rfl), gone (by rfl), gone (by rfl), gone (by rfl), gone (by rfl), gone (by rfl), gone (by rfl), gone (by rfl), gone (by rfl), gone (by rfl), gone (by rfl), gone (by rfl), gone (by rfl), gone (by rfl), gone (by rfl), gone (by rfl), gone (by rfl)⟩⟩ (by decide)
    case step =>
      intro L a wz i o hI ho hL hdeps K hK
      obtain ⟨y7, y8, y9, y13, y14, y15, y16, y17, y18, rfl, hinv⟩ := hI
      have hi : i < 12 := by have := (Array.getElem?_eq_some_iff.1 ho).1; exact this
      obtain ⟨hN, hbel, z0, z1, z2, z3, z4, z5, z6, z7, z8, z9, z10, z11, z12, z13, z14, z15, z16, z17⟩ := hinv.out
      obtain rfl | rfl | rfl | rfl | rfl | rfl | rfl | rfl | rfl | rfl | rfl | rfl : i = 0 ∨ i = 1 ∨ i = 2 ∨ i = 3 ∨ i = 4 ∨ i = 5 ∨ i = 6 ∨ i = 7 ∨ i = 8 ∨ i = 9 ∨ i = 10 ∨ i = 11 := by omega
      · obtain rfl := Option.some.inj ho
        obtain ⟨b0, b1, _⟩ := SS.out wz hbel
        clear ho
        have Z := hinv
        clear hinv hbel hN hdeps z0 z1 z2 z3 z4 z5 z6 z7 z8 z9 z10 z11 z12 z13 z14 z15 z16 z17
        go_simp
        obtain ⟨hN, hbel, z0, z1, z2, z3, z4, z5, z6, z7, z8, z9, z10, z11, z12, z13, z14, z15, z16, z17⟩ := Z.out
        exact hK _ _ ⟨_, _, _, _, _, _, _, _, _, rfl, Lib.hid ⟨by simpa using hN, hbel, fun _ => rfl, fun g0 => (z1 ((set_other (by decide)).symm.trans g0)), fun g0 => (z2 ((set_other (by decide)).symm.trans g0)), fun g0 => (z3 ((set_other (by decide)).symm.trans g0)), fun g0 => (z4 ((set_other (by decide)).symm.trans g0)), fun g0 => (z5 ((set_other (by decide)).symm.trans g0)), fun g0 => (z6 ((set_other (by decide)).symm.trans g0)), fun g0 => (z7 ((set_other (by decide)).symm.trans g0)), fun g0 => (z8 ((set_other (by decide)).symm.trans g0)), fun g0 g1 => (z9 ((set_other (by decide)).symm.trans g0) ((set_other (by decide)).symm.trans g1)), fun g0 g1 => (z10 ((set_other (by decide)).symm.trans g0) ((set_other (by decide)).symm.trans g1)), fun g0 g1 => (z11 ((set_other (by decide)).symm.trans g0) ((set_other (by decide)).symm.trans g1)), fun g0 => (z12 ((set_other (by decide)).symm.trans g0)), fun g0 => (z13 ((set_other (by decide)).symm.trans g0)), fun g0 => (z14 ((set_other (by decide)).symm.trans g0)), fun g0 => ⟨set_keep (z15 ((set_other (by decide)).symm.trans g0)).1, set_keep (z15 ((set_other (by decide)).symm.trans g0)).2⟩, fun g0 => ⟨set_keep (z16 ((set_other (by decide)).symm.trans g0)).1, set_keep (z16 ((set_other (by decide)).symm.trans g0)).2⟩, fun g0 => ⟨set_keep (z17 ((set_other (by decide)).symm.trans g0)).1, set_keep (z17 ((set_other (by decide)).symm.trans g0)).2⟩⟩⟩
      · obtain rfl := Option.some.inj ho
        have e0 := z0 (dep (by simp [Region.binds] at hdeps ⊢; simp [hdeps]))
        subst e0
        have CC := Lib.hid (C0.out wz hbel)
        have Z := hinv
        clear hinv ho hbel hN hdeps z0 z1 z2 z3 z4 z5 z6 z7 z8 z9 z10 z11 z12 z13 z14 z15 z16 z17
        go_simp
        refine CC.out.mono ?_
        rintro e wq ⟨D, a, n, c, ps, rfl, hg, how, hb'⟩
        obtain ⟨hN, hbel, z0, z1, z2, z3, z4, z5, z6, z7, z8, z9, z10, z11, z12, z13, z14, z15, z16, z17⟩ := Z.out
        exact hK _ _ ⟨_, _, _, _, _, _, _, _, _, rfl, Lib.hid ⟨by simpa using hN, hbel.trans (hb'.mono hbel.size), fun g0 => (z0 ((set_other (by decide)).symm.trans g0)), fun _ => ⟨D, a, n, c, ps, rfl, hg, owns_mono how hbel.size⟩, fun g0 => (z2 ((set_other (by decide)).symm.trans g0)), fun g0 => (z3 ((set_other (by decide)).symm.trans g0)).below hb', fun g0 => (z4 ((set_other (by decide)).symm.trans g0)), fun g0 => (z5 ((set_other (by decide)).symm.trans g0)).below hb', fun g0 => (z6 ((set_other (by decide)).symm.trans g0)).below hb', fun g0 => (z7 ((set_other (by decide)).symm.trans g0)).below hb', fun g0 => (z8 ((set_other (by decide)).symm.trans g0)).below hb', fun g0 g1 => (z9 ((set_other (by decide)).symm.trans g0) ((set_other (by decide)).symm.trans g1)), fun g0 g1 => (z10 ((set_other (by decide)).symm.trans g0) ((set_other (by decide)).symm.trans g1)), fun g0 g1 => (z11 ((set_other (by decide)).symm.trans g0) ((set_other (by decide)).symm.trans g1)), fun g0 => not_done hL (z15 ((set_other (by decide)).symm.trans g0)).2, fun g0 => (z13 ((set_other (by decide)).symm.trans g0)).below hb', fun g0 => (z14 ((set_other (by decide)).symm.trans g0)).below hb', fun g0 => ⟨set_keep (z15 ((set_other (by decide)).symm.trans g0)).1, set_keep (z15 ((set_other (by decide)).symm.trans g0)).2⟩, fun g0 => ⟨set_keep (z16 ((set_other (by decide)).symm.trans g0)).1, set_keep (z16 ((set_other (by decide)).symm.trans g0)).2⟩, fun g0 => ⟨set_keep (z17 ((set_other (by decide)).symm.trans g0)).1, set_keep (z17 ((set_other (by decide)).symm.trans g0)).2⟩⟩⟩
      · obtain rfl := Option.some.inj ho
        obtain ⟨_, _, b0, b1, _⟩ := SS.out wz hbel
        clear ho
        have Z := hinv
        clear hinv hbel hN hdeps z0 z1 z2 z3 z4 z5 z6 z7 z8 z9 z10 z11 z12 z13 z14 z15 z16 z17
        go_simp
        obtain ⟨hN, hbel, z0, z1, z2, z3, z4, z5, z6, z7, z8, z9, z10, z11, z12, z13, z14, z15, z16, z17⟩ := Z.out
        exact hK _ _ ⟨_, _, _, _, _, _, _, _, _, rfl, Lib.hid ⟨by simpa using hN, hbel, fun g0 => (z0 ((set_other (by decide)).symm.trans g0)), fun g0 => (z1 ((set_other (by decide)).symm.trans g0)), fun _ => rfl, fun g0 => (z3 ((set_other (by decide)).symm.trans g0)), fun g0 => (z4 ((set_other (by decide)).symm.trans g0)), fun g0 => (z5 ((set_other (by decide)).symm.trans g0)), fun g0 => (z6 ((set_other (by decide)).symm.trans g0)), fun g0 => (z7 ((set_other (by decide)).symm.trans g0)), fun g0 => (z8 ((set_other (by decide)).symm.trans g0)), fun g0 g1 => (z9 ((set_other (by decide)).symm.trans g0) ((set_other (by decide)).symm.trans g1)), fun g0 g1 => (z10 ((set_other (by decide)).symm.trans g0) ((set_other (by decide)).symm.trans g1)), fun g0 g1 => (z11 ((set_other (by decide)).symm.trans g0) ((set_other (by decide)).symm.trans g1)), fun g0 => (z12 ((set_other (by decide)).symm.trans g0)), fun g0 => (z13 ((set_other (by decide)).symm.trans g0)), fun g0 => (z14 ((set_other (by decide)).symm.trans g0)), fun g0 => ⟨set_keep (z15 ((set_other (by decide)).symm.trans g0)).1, set_keep (z15 ((set_other (by decide)).symm.trans g0)).2⟩, fun g0 => ⟨set_keep (z16 ((set_other (by decide)).symm.trans g0)).1, set_keep (z16 ((set_other (by decide)).symm.trans g0)).2⟩, fun g0 => ⟨set_keep (z17 ((set_other (by decide)).symm.trans g0)).1, set_keep (z17 ((set_other (by decide)).symm.trans g0)).2⟩⟩⟩
      · obtain rfl := Option.some.inj ho
        have e2 := z2 (dep (by simp [Region.binds] at hdeps ⊢; simp [hdeps]))
        subst e2
        have CC := Lib.hid (C1.out wz hbel)
        have Z := hinv
        clear hinv ho hbel hN hdeps z0 z1 z2 z3 z4 z5 z6 z7 z8 z9 z10 z11 z12 z13 z14 z15 z16 z17
        go_simp
        refine CC.out.mono ?_
        rintro e wq ⟨D, a, n, c, ps, rfl, hg, how, hb'⟩
        obtain ⟨hN, hbel, z0, z1, z2, z3, z4, z5, z6, z7, z8, z9, z10, z11, z12, z13, z14, z15, z16, z17⟩ := Z.out
        exact hK _ _ ⟨_, _, _, _, _, _, _, _, _, rfl, Lib.hid ⟨by simpa using hN, hbel.trans (hb'.mono hbel.size), fun g0 => (z0 ((set_other (by decide)).symm.trans g0)), fun g0 => (z1 ((set_other (by decide)).symm.trans g0)).below hb', fun g0 => (z2 ((set_other (by decide)).symm.trans g0)), fun _ => ⟨D, a, n, c, ps, rfl, hg, owns_mono how hbel.size⟩, fun g0 => (z4 ((set_other (by decide)).symm.trans g0)), fun g0 => (z5 ((set_other (by decide)).symm.trans g0)).below hb', fun g0 => (z6 ((set_other (by decide)).symm.trans g0)).below hb', fun g0 => (z7 ((set_other (by decide)).symm.trans g0)).below hb', fun g0 => (z8 ((set_other (by decide)).symm.trans g0)).below hb', fun g0 g1 => (z9 ((set_other (by decide)).symm.trans g0) ((set_other (by decide)).symm.trans g1)), fun g0 g1 => (z10 ((set_other (by decide)).symm.trans g0) ((set_other (by decide)).symm.trans g1)), fun g0 g1 => (z11 ((set_other (by decide)).symm.trans g0) ((set_other (by decide)).symm.trans g1)), fun g0 => (z12 ((set_other (by decide)).symm.trans g0)).below hb', fun g0 => not_done hL (z16 ((set_other (by decide)).symm.trans g0)).2, fun g0 => (z14 ((set_other (by decide)).symm.trans g0)).below hb', fun g0 => ⟨set_keep (z15 ((set_other (by decide)).symm.trans g0)).1, set_keep (z15 ((set_other (by decide)).symm.trans g0)).2⟩, fun g0 => ⟨set_keep (z16 ((set_other (by decide)).symm.trans g0)).1, set_keep (z16 ((set_other (by decide)).symm.trans g0)).2⟩, fun g0 => ⟨set_keep (z17 ((set_other (by decide)).symm.trans g0)).1, set_keep (z17 ((set_other (by decide)).symm.trans g0)).2⟩⟩⟩
      · obtain rfl := Option.some.inj ho
        obtain ⟨_, _, _, _, b0, b1⟩ := SS.out wz hbel
        clear ho
        have Z := hinv
        clear hinv hbel hN hdeps z0 z1 z2 z3 z4 z5 z6 z7 z8 z9 z10 z11 z12 z13 z14 z15 z16 z17
        go_simp
        obtain ⟨hN, hbel, z0, z1, z2, z3, z4, z5, z6, z7, z8, z9, z10, z11, z12, z13, z14, z15, z16, z17⟩ := Z.out
        exact hK _ _ ⟨_, _, _, _, _, _, _, _, _, rfl, Lib.hid ⟨by simpa using hN, hbel, fun g0 => (z0 ((set_other (by decide)).symm.trans g0)), fun g0 => (z1 ((set_other (by decide)).symm.trans g0)), fun g0 => (z2 ((set_other (by decide)).symm.trans g0)), fun g0 => (z3 ((set_other (by decide)).symm.trans g0)), fun _ => rfl, fun g0 => (z5 ((set_other (by decide)).symm.trans g0)), fun g0 => (z6 ((set_other (by decide)).symm.trans g0)), fun g0 => (z7 ((set_other (by decide)).symm.trans g0)), fun g0 => (z8 ((set_other (by decide)).symm.trans g0)), fun g0 g1 => (z9 ((set_other (by decide)).symm.trans g0) ((set_other (by decide)).symm.trans g1)), fun g0 g1 => (z10 ((set_other (by decide)).symm.trans g0) ((set_other (by decide)).symm.trans g1)), fun g0 g1 => (z11 ((set_other (by decide)).symm.trans g0) ((set_other (by decide)).symm.trans g1)), fun g0 => (z12 ((set_other (by decide)).symm.trans g0)), fun g0 => (z13 ((set_other (by decide)).symm.trans g0)), fun g0 => (z14 ((set_other (by decide)).symm.trans g0)), fun g0 => ⟨set_keep (z15 ((set_other (by decide)).symm.trans g0)).1, set_keep (z15 ((set_other (by decide)).symm.trans g0)).2⟩, fun g0 => ⟨set_keep (z16 ((set_other (by decide)).symm.trans g0)).1, set_keep (z16 ((set_other (by decide)).symm.trans g0)).2⟩, fun g0 => ⟨set_keep (z17 ((set_other (by decide)).symm.trans g0)).1, set_keep (z17 ((set_other (by decide)).symm.trans g0)).2⟩⟩⟩
      · obtain rfl := Option.some.inj ho
        have e4 := z4 (dep (by simp [Region.binds] at hdeps ⊢; simp [hdeps]))
        subst e4
        have CC := Lib.hid (C2.out wz hbel)
        have Z := hinv
        clear hinv ho hbel hN hdeps z0 z1 z2 z3 z4 z5 z6 z7 z8 z9 z10 z11 z12 z13 z14 z15 z16 z17
        go_simp
        refine CC.out.mono ?_
        rintro e wq ⟨D, a, n, c, ps, rfl, hg, how, hb'⟩
        obtain ⟨hN, hbel, z0, z1, z2, z3, z4, z5, z6, z7, z8, z9, z10, z11, z12, z13, z14, z15, z16, z17⟩ := Z.out
        exact hK _ _ ⟨_, _, _, _, _, _, _, _, _, rfl, Lib.hid ⟨by simpa using hN, hbel.trans (hb'.mono hbel.size), fun g0 => (z0 ((set_other (by decide)).symm.trans g0)), fun g0 => (z1 ((set_other (by decide)).symm.trans g0)).below hb', fun g0 => (z2 ((set_other (by decide)).symm.trans g0)), fun g0 => (z3 ((set_other (by decide)).symm.trans g0)).below hb', fun g0 => (z4 ((set_other (by decide)).symm.trans g0)), fun _ => ⟨D, a, n, c, ps, rfl, hg, owns_mono how hbel.size⟩, fun g0 => (z6 ((set_other (by decide)).symm.trans g0)).below hb', fun g0 => (z7 ((set_other (by decide)).symm.trans g0)).below hb', fun g0 => (z8 ((set_other (by decide)).symm.trans g0)).below hb', fun g0 g1 => (z9 ((set_other (by decide)).symm.trans g0) ((set_other (by decide)).symm.trans g1)), fun g0 g1 => (z10 ((set_other (by decide)).symm.trans g0) ((set_other (by decide)).symm.trans g1)), fun g0 g1 => (z11 ((set_other (by decide)).symm.trans g0) ((set_other (by decide)).symm.trans g1)), fun g0 => (z12 ((set_other (by decide)).symm.trans g0)).below hb', fun g0 => (z13 ((set_other (by decide)).symm.trans g0)).below hb', fun g0 => not_done hL (z17 ((set_other (by decide)).symm.trans g0)).2, fun g0 => ⟨set_keep (z15 ((set_other (by decide)).symm.trans g0)).1, set_keep (z15 ((set_other (by decide)).symm.trans g0)).2⟩, fun g0 => ⟨set_keep (z16 ((set_other (by decide)).symm.trans g0)).1, set_keep (z16 ((set_other (by decide)).symm.trans g0)).2⟩, fun g0 => ⟨set_keep (z17 ((set_other (by decide)).symm.trans g0)).1, set_keep (z17 ((set_other (by decide)).symm.trans g0)).2⟩⟩⟩
      · obtain rfl := Option.some.inj ho
        have Z := hinv
        clear hinv ho hbel hN hdeps z0 z1 z2 z3 z4 z5 z6 z7 z8 z9 z10 z11 z12 z13 z14 z15 z16 z17
        go_simp
        obtain ⟨hN, hbel, z0, z1, z2, z3, z4, z5, z6, z7, z8, z9, z10, z11, z12, z13, z14, z15, z16, z17⟩ := Z.out
        have hb' := below_alloc1 wz (Obj.cells #[.int .i64 0, .slice none 0 0] 24)
        exact hK _ _ ⟨_, _, _, _, _, _, _, _, _, rfl, Lib.hid ⟨by simpa using hN, hbel.trans (hb'.mono hbel.size), fun g0 => (z0 ((set_other (by decide)).symm.trans g0)), fun g0 => (z1 ((set_other (by decide)).symm.trans g0)).below hb', fun g0 => (z2 ((set_other (by decide)).symm.trans g0)), fun g0 => (z3 ((set_other (by decide)).symm.trans g0)).below hb', fun g0 => (z4 ((set_other (by decide)).symm.trans g0)), fun g0 => (z5 ((set_other (by decide)).symm.trans g0)).below hb', fun _ => AV.new _ _ _ _ hbel.size, fun g0 => (z7 ((set_other (by decide)).symm.trans g0)).below hb', fun g0 => (z8 ((set_other (by decide)).symm.trans g0)).below hb', fun g0 g1 => ((z7 ((set_other (by decide)).symm.trans g1)).ne).symm, fun g0 g1 => ((z8 ((set_other (by decide)).symm.trans g1)).ne).symm, fun g0 g1 => (z11 ((set_other (by decide)).symm.trans g0) ((set_other (by decide)).symm.trans g1)), fun g0 => not_done hL (z15 ((set_other (by decide)).symm.trans g0)).1, fun g0 => (z13 ((set_other (by decide)).symm.trans g0)).below hb', fun g0 => (z14 ((set_other (by decide)).symm.trans g0)).below hb', fun g0 => ⟨set_keep (z15 ((set_other (by decide)).symm.trans g0)).1, set_keep (z15 ((set_other (by decide)).symm.trans g0)).2⟩, fun g0 => ⟨set_keep (z16 ((set_other (by decide)).symm.trans g0)).1, set_keep (z16 ((set_other (by decide)).symm.trans g0)).2⟩, fun g0 => ⟨set_keep (z17 ((set_other (by decide)).symm.trans g0)).1, set_keep (z17 ((set_other (by decide)).symm.trans g0)).2⟩⟩⟩
      · obtain rfl := Option.some.inj ho
        have Z := hinv
        clear hinv ho hbel hN hdeps z0 z1 z2 z3 z4 z5 z6 z7 z8 z9 z10 z11 z12 z13 z14 z15 z16 z17
        go_simp
        obtain ⟨hN, hbel, z0, z1, z2, z3, z4, z5, z6, z7, z8, z9, z10, z11, z12, z13, z14, z15, z16, z17⟩ := Z.out
        have hb' := below_alloc1 wz (Obj.cells #[.int .i64 0, .slice none 0 0] 24)
        exact hK _ _ ⟨_, _, _, _, _, _, _, _, _, rfl, Lib.hid ⟨by simpa using hN, hbel.trans (hb'.mono hbel.size), fun g0 => (z0 ((set_other (by decide)).symm.trans g0)), fun g0 => (z1 ((set_other (by decide)).symm.trans g0)).below hb', fun g0 => (z2 ((set_other (by decide)).symm.trans g0)), fun g0 => (z3 ((set_other (by decide)).symm.trans g0)).below hb', fun g0 => (z4 ((set_other (by decide)).symm.trans g0)), fun g0 => (z5 ((set_other (by decide)).symm.trans g0)).below hb', fun g0 => (z6 ((set_other (by decide)).symm.trans g0)).below hb', fun _ => AV.new _ _ _ _ hbel.size, fun g0 => (z8 ((set_other (by decide)).symm.trans g0)).below hb', fun g0 g1 => (z6 ((set_other (by decide)).symm.trans g0)).ne, fun g0 g1 => (z10 ((set_other (by decide)).symm.trans g0) ((set_other (by decide)).symm.trans g1)), fun g0 g1 => ((z8 ((set_other (by decide)).symm.trans g1)).ne).symm, fun g0 => (z12 ((set_other (by decide)).symm.trans g0)).below hb', fun g0 => not_done hL (z16 ((set_other (by decide)).symm.trans g0)).1, fun g0 => (z14 ((set_other (by decide)).symm.trans g0)).below hb', fun g0 => ⟨set_keep (z15 ((set_other (by decide)).symm.trans g0)).1, set_keep (z15 ((set_other (by decide)).symm.trans g0)).2⟩, fun g0 => ⟨set_keep (z16 ((set_other (by decide)).symm.trans g0)).1, set_keep (z16 ((set_other (by decide)).symm.trans g0)).2⟩, fun g0 => ⟨set_keep (z17 ((set_other (by decide)).symm.trans g0)).1, set_keep (z17 ((set_other (by decide)).symm.trans g0)).2⟩⟩⟩
      · obtain rfl := Option.some.inj ho
        have Z := hinv
        clear hinv ho hbel hN hdeps z0 z1 z2 z3 z4 z5 z6 z7 z8 z9 z10 z11 z12 z13 z14 z15 z16 z17
        go_simp
        obtain ⟨hN, hbel, z0, z1, z2, z3, z4, z5, z6, z7, z8, z9, z10, z11, z12, z13, z14, z15, z16, z17⟩ := Z.out
        have hb' := below_alloc1 wz (Obj.cells #[.int .i64 0, .slice none 0 0] 24)
        exact hK _ _ ⟨_, _, _, _, _, _, _, _, _, rfl, Lib.hid ⟨by simpa using hN, hbel.trans (hb'.mono hbel.size), fun g0 => (z0 ((set_other (by decide)).symm.trans g0)), fun g0 => (z1 ((set_other (by decide)).symm.trans g0)).below hb', fun g0 => (z2 ((set_other (by decide)).symm.trans g0)), fun g0 => (z3 ((set_other (by decide)).symm.trans g0)).below hb', fun g0 => (z4 ((set_other (by decide)).symm.trans g0)), fun g0 => (z5 ((set_other (by decide)).symm.trans g0)).below hb', fun g0 => (z6 ((set_other (by decide)).symm.trans g0)).below hb', fun g0 => (z7 ((set_other (by decide)).symm.trans g0)).below hb', fun _ => AV.new _ _ _ _ hbel.size, fun g0 g1 => (z9 ((set_other (by decide)).symm.trans g0) ((set_other (by decide)).symm.trans g1)), fun g0 g1 => (z6 ((set_other (by decide)).symm.trans g0)).ne, fun g0 g1 => (z7 ((set_other (by decide)).symm.trans g0)).ne, fun g0 => (z12 ((set_other (by decide)).symm.trans g0)).below hb', fun g0 => (z13 ((set_other (by decide)).symm.trans g0)).below hb', fun g0 => not_done hL (z17 ((set_other (by decide)).symm.trans g0)).1, fun g0 => ⟨set_keep (z15 ((set_other (by decide)).symm.trans g0)).1, set_keep (z15 ((set_other (by decide)).symm.trans g0)).2⟩, fun g0 => ⟨set_keep (z16 ((set_other (by decide)).symm.trans g0)).1, set_keep (z16 ((set_other (by decide)).symm.trans g0)).2⟩, fun g0 => ⟨set_keep (z17 ((set_other (by decide)).symm.trans g0)).1, set_keep (z17 ((set_other (by decide)).symm.trans g0)).2⟩⟩⟩
      · obtain rfl := Option.some.inj ho
        have hds : L[6]? = some true ∧ L[7]? = some true ∧ L[8]? = some true ∧ L[1]? = some true := by
          simp [Region.binds] at hdeps
          refine ⟨?_, ?_, ?_, ?_⟩ <;> (refine dep ?_; simp [hdeps])
        obtain ⟨d6, d7, d8, d1⟩ := hds
        obtain ⟨A0, hA1, hA2, x0, u0, hA3⟩ := z6 d6
        obtain ⟨D, a, n, c, ps, hc1, hc2, hc3⟩ := z1 d1
        subst hA1
        subst hc1
        obtain ⟨s0, s1, s2, s3, s4, _⟩ := old2 wz A0 24 _ _ (.int .i64 D) (.slice a n c) hA3
        have S4 := Lib.hid s4
        have HA3 := Lib.hid hA3
        have HA2 := Lib.hid hA2
        have Z := hinv
        clear hinv ho hbel hN hdeps s4 hA2 hA3 hc2 hc3 z0 z1 z2 z3 z4 z5 z6 z7 z8 z9 z10 z11 z12 z13 z14 z15 z16 z17
        go_simp
        obtain ⟨hN, hbel, z0, z1, z2, z3, z4, z5, z6, z7, z8, z9, z10, z11, z12, z13, z14, z15, z16, z17⟩ := Z.out
        have hA4 := heap_setCell_same wz A0 0 _ 24 (.int .i64 D) HA3.out
        simp only [List.setIfInBounds_toArray, List.set_cons_zero] at hA4
        exact hK _ _ ⟨_, _, _, _, _, _, _, _, _, rfl, Lib.hid ⟨by simpa using hN, (hbel.setCell (p := ⟨A0, 0, none⟩) HA2.out _).setCell (p := ⟨A0, 1, none⟩) HA2.out _, fun g0 => (z0 ((set_other (by decide)).symm.trans g0)), fun g0 => ((z1 ((set_other (by decide)).symm.trans g0)).set HA3.out).set hA4, fun g0 => (z2 ((set_other (by decide)).symm.trans g0)), fun g0 => ((z3 ((set_other (by decide)).symm.trans g0)).set HA3.out).set hA4, fun g0 => (z4 ((set_other (by decide)).symm.trans g0)), fun g0 => ((z5 ((set_other (by decide)).symm.trans g0)).set HA3.out).set hA4, fun _ => ⟨A0, rfl, HA2.out, _, _, S4.out⟩, fun g0 => ((z7 ((set_other (by decide)).symm.trans g0)).set ((z9 d6 d7)).symm).set ((z9 d6 d7)).symm, fun g0 => ((z8 ((set_other (by decide)).symm.trans g0)).set ((z10 d6 d8)).symm).set ((z10 d6 d8)).symm, fun g0 g1 => (z9 ((set_other (by decide)).symm.trans g0) ((set_other (by decide)).symm.trans g1)), fun g0 g1 => (z10 ((set_other (by decide)).symm.trans g0) ((set_other (by decide)).symm.trans g1)), fun g0 g1 => (z11 ((set_other (by decide)).symm.trans g0) ((set_other (by decide)).symm.trans g1)), fun _ => ⟨A0, D, .slice a n c, rfl, rfl, S4.out⟩, fun g0 => ((z13 ((set_other (by decide)).symm.trans g0)).set ((z9 d6 d7)).symm).set ((z9 d6 d7)).symm, fun g0 => ((z14 ((set_other (by decide)).symm.trans g0)).set ((z10 d6 d8)).symm).set ((z10 d6 d8)).symm, fun _ => ⟨set_keep d6, set_keep d1⟩, fun g0 => ⟨set_keep (z16 ((set_other (by decide)).symm.trans g0)).1, set_keep (z16 ((set_other (by decide)).symm.trans g0)).2⟩, fun g0 => ⟨set_keep (z17 ((set_other (by decide)).symm.trans g0)).1, set_keep (z17 ((set_other (by decide)).symm.trans g0)).2⟩⟩⟩
      · obtain rfl := Option.some.inj ho
        have hds : L[7]? = some true ∧ L[6]? = some true ∧ L[8]? = some true ∧ L[3]? = some true := by
          simp [Region.binds] at hdeps
          refine ⟨?_, ?_, ?_, ?_⟩ <;> (refine dep ?_; simp [hdeps])
        obtain ⟨d7, d6, d8, d3⟩ := hds
        obtain ⟨A0, hA1, hA2, x0, u0, hA3⟩ := z7 d7
        obtain ⟨D, a, n, c, ps, hc1, hc2, hc3⟩ := z3 d3
        subst hA1
        subst hc1
        obtain ⟨s0, s1, s2, s3, s4, _⟩ := old2 wz A0 24 _ _ (.int .i64 D) (.slice a n c) hA3
        have S4 := Lib.hid s4
        have HA3 := Lib.hid hA3
        have HA2 := Lib.hid hA2
        have Z := hinv
        clear hinv ho hbel hN hdeps s4 hA2 hA3 hc2 hc3 z0 z1 z2 z3 z4 z5 z6 z7 z8 z9 z10 z11 z12 z13 z14 z15 z16 z17
        go_simp
        obtain ⟨hN, hbel, z0, z1, z2, z3, z4, z5, z6, z7, z8, z9, z10, z11, z12, z13, z14, z15, z16, z17⟩ := Z.out
        have hA4 := heap_setCell_same wz A0 0 _ 24 (.int .i64 D) HA3.out
        simp only [List.setIfInBounds_toArray, List.set_cons_zero] at hA4
        exact hK _ _ ⟨_, _, _, _, _, _, _, _, _, rfl, Lib.hid ⟨by simpa using hN, (hbel.setCell (p := ⟨A0, 0, none⟩) HA2.out _).setCell (p := ⟨A0, 1, none⟩) HA2.out _, fun g0 => (z0 ((set_other (by decide)).symm.trans g0)), fun g0 => ((z1 ((set_other (by decide)).symm.trans g0)).set HA3.out).set hA4, fun g0 => (z2 ((set_other (by decide)).symm.trans g0)), fun g0 => ((z3 ((set_other (by decide)).symm.trans g0)).set HA3.out).set hA4, fun g0 => (z4 ((set_other (by decide)).symm.trans g0)), fun g0 => ((z5 ((set_other (by decide)).symm.trans g0)).set HA3.out).set hA4, fun g0 => ((z6 ((set_other (by decide)).symm.trans g0)).set (z9 d6 d7)).set (z9 d6 d7), fun _ => ⟨A0, rfl, HA2.out, _, _, S4.out⟩, fun g0 => ((z8 ((set_other (by decide)).symm.trans g0)).set ((z11 d7 d8)).symm).set ((z11 d7 d8)).symm, fun g0 g1 => (z9 ((set_other (by decide)).symm.trans g0) ((set_other (by decide)).symm.trans g1)), fun g0 g1 => (z10 ((set_other (by decide)).symm.trans g0) ((set_other (by decide)).symm.trans g1)), fun g0 g1 => (z11 ((set_other (by decide)).symm.trans g0) ((set_other (by decide)).symm.trans g1)), fun g0 => ((z12 ((set_other (by decide)).symm.trans g0)).set (z9 d6 d7)).set (z9 d6 d7), fun _ => ⟨A0, D, .slice a n c, rfl, rfl, S4.out⟩, fun g0 => ((z14 ((set_other (by decide)).symm.trans g0)).set ((z11 d7 d8)).symm).set ((z11 d7 d8)).symm, fun g0 => ⟨set_keep (z15 ((set_other (by decide)).symm.trans g0)).1, set_keep (z15 ((set_other (by decide)).symm.trans g0)).2⟩, fun _ => ⟨set_keep d7, set_keep d3⟩, fun g0 => ⟨set_keep (z17 ((set_other (by decide)).symm.trans g0)).1, set_keep (z17 ((set_other (by decide)).symm.trans g0)).2⟩⟩⟩
      · obtain rfl := Option.some.inj ho
        have hds : L[8]? = some true ∧ L[6]? = some true ∧ L[7]? = some true ∧ L[5]? = some true := by
          simp [Region.binds] at hdeps
          refine ⟨?_, ?_, ?_, ?_⟩ <;> (refine dep ?_; simp [hdeps])
        obtain ⟨d8, d6, d7, d5⟩ := hds
        obtain ⟨A0, hA1, hA2, x0, u0, hA3⟩ := z8 d8
        obtain ⟨D, a, n, c, ps, hc1, hc2, hc3⟩ := z5 d5
        subst hA1
        subst hc1
        obtain ⟨s0, s1, s2, s3, s4, _⟩ := old2 wz A0 24 _ _ (.int .i64 D) (.slice a n c) hA3
        have S4 := Lib.hid s4
        have HA3 := Lib.hid hA3
        have HA2 := Lib.hid hA2
        have Z := hinv
        clear hinv ho hbel hN hdeps s4 hA2 hA3 hc2 hc3 z0 z1 z2 z3 z4 z5 z6 z7 z8 z9 z10 z11 z12 z13 z14 z15 z16 z17
        go_simp
        obtain ⟨hN, hbel, z0, z1, z2, z3, z4, z5, z6, z7, z8, z9, z10, z11, z12, z13, z14, z15, z16, z17⟩ := Z.out
        have hA4 := heap_setCell_same wz A0 0 _ 24 (.int .i64 D) HA3.out
        simp only [List.setIfInBounds_toArray, List.set_cons_zero] at hA4
        exact hK _ _ ⟨_, _, _, _, _, _, _, _, _, rfl, Lib.hid ⟨by simpa using hN, (hbel.setCell (p := ⟨A0, 0, none⟩) HA2.out _).setCell (p := ⟨A0, 1, none⟩) HA2.out _, fun g0 => (z0 ((set_other (by decide)).symm.trans g0)), fun g0 => ((z1 ((set_other (by decide)).symm.trans g0)).set HA3.out).set hA4, fun g0 => (z2 ((set_other (by decide)).symm.trans g0)), fun g0 => ((z3 ((set_other (by decide)).symm.trans g0)).set HA3.out).set hA4, fun g0 => (z4 ((set_other (by decide)).symm.trans g0)), fun g0 => ((z5 ((set_other (by decide)).symm.trans g0)).set HA3.out).set hA4, fun g0 => ((z6 ((set_other (by decide)).symm.trans g0)).set (z10 d6 d8)).set (z10 d6 d8), fun g0 => ((z7 ((set_other (by decide)).symm.trans g0)).set (z11 d7 d8)).set (z11 d7 d8), fun _ => ⟨A0, rfl, HA2.out, _, _, S4.out⟩, fun g0 g1 => (z9 ((set_other (by decide)).symm.trans g0) ((set_other (by decide)).symm.trans g1)), fun g0 g1 => (z10 ((set_other (by decide)).symm.trans g0) ((set_other (by decide)).symm.trans g1)), fun g0 g1 => (z11 ((set_other (by decide)).symm.trans g0) ((set_other (by decide)).symm.trans g1)), fun g0 => ((z12 ((set_other (by decide)).symm.trans g0)).set (z10 d6 d8)).set (z10 d6 d8), fun g0 => ((z13 ((set_other (by decide)).symm.trans g0)).set (z11 d7 d8)).set (z11 d7 d8), fun _ => ⟨A0, D, .slice a n c, rfl, rfl, S4.out⟩, fun g0 => ⟨set_keep (z15 ((set_other (by decide)).symm.trans g0)).1, set_keep (z15 ((set_other (by decide)).symm.trans g0)).2⟩, fun g0 => ⟨set_keep (z16 ((set_other (by decide)).symm.trans g0)).1, set_keep (z16 ((set_other (by decide)).symm.trans g0)).2⟩, fun _ => ⟨set_keep d8, set_keep d5⟩⟩⟩
    case fin =>
      intro L a wz hI hr
      obtain ⟨y7, y8, y9, y13, y14, y15, y16, y17, y18, rfl, hinv⟩ := hI
      obtain ⟨hN, hbel, z0, z1, z2, z3, z4, z5, z6, z7, z8, z9, z10, z11, z12, z13, z14, z15, z16, z17⟩ := hinv.out
      have f0 : L[0]? = some true := by
        cases hb : L[0]? with
        | none => have := (Array.getElem?_eq_none_iff.1 hb); omega
        | some b =>
          cases b with
          | true => rfl
          | false =>
            exact (ready_nil hr hb (by rfl) (by simp [Region.binds])).elim
      have f1 : L[1]? = some true := by
        cases hb : L[1]? with
        | none => have := (Array.getElem?_eq_none_iff.1 hb); omega
        | some b =>
          cases b with
          | true => rfl
          | false =>
            exact (ready_nil hr hb (by rfl) (by simp [Region.binds, f0])).elim
      have f2 : L[2]? = some true := by
        cases hb : L[2]? with
        | none => have := (Array.getElem?_eq_none_iff.1 hb); omega
        | some b =>
          cases b with
          | true => rfl
          | false =>
            exact (ready_nil hr hb (by rfl) (by simp [Region.binds, f0, f1])).elim
      have f3 : L[3]? = some true := by
        cases hb : L[3]? with
        | none => have := (Array.getElem?_eq_none_iff.1 hb); omega
        | some b =>
          cases b with
          | true => rfl
          | false =>
            exact (ready_nil hr hb (by rfl) (by simp [Region.binds, f0, f1, f2])).elim
      have f4 : L[4]? = some true := by
        cases hb : L[4]? with
        | none => have := (Array.getElem?_eq_none_iff.1 hb); omega
        | some b =>
          cases b with
          | true => rfl
          | false =>
            exact (ready_nil hr hb (by rfl) (by simp [Region.binds, f0, f1, f2, f3])).elim
      have f5 : L[5]? = some true := by
        cases hb : L[5]? with
        | none => have := (Array.getElem?_eq_none_iff.1 hb); omega
        | some b =>
          cases b with
          | true => rfl
          | false =>
            exact (ready_nil hr hb (by rfl) (by simp [Region.binds, f0, f1, f2, f3, f4])).elim
      have f6 : L[6]? = some true := by
        cases hb : L[6]? with
        | none => have := (Array.getElem?_eq_none_iff.1 hb); omega
        | some b =>
          cases b with
          | true => rfl
          | false =>
            exact (ready_nil hr hb (by rfl) (by simp [Region.binds, f0, f1, f2, f3, f4, f5])).elim
      have f7 : L[7]? = some true := by
        cases hb : L[7]? with
        | none => have := (Array.getElem?_eq_none_iff.1 hb); omega
        | some b =>
          cases b with
          | true => rfl
          | false =>
            exact (ready_nil hr hb (by rfl) (by simp [Region.binds, f0, f1, f2, f3, f4, f5, f6])).elim
      have f8 : L[8]? = some true := by
        cases hb : L[8]? with
        | none => have := (Array.getElem?_eq_none_iff.1 hb); omega
        | some b =>
          cases b with
          | true => rfl
          | false =>
            exact (ready_nil hr hb (by rfl) (by simp [Region.binds, f0, f1, f2, f3, f4, f5, f6, f7])).elim
      have f9 : L[9]? = some true := by
        cases hb : L[9]? with
        | none => have := (Array.getElem?_eq_none_iff.1 hb); omega
        | some b =>
          cases b with
          | true => rfl
          | false =>
            exact (ready_nil hr hb (by rfl) (by simp [Region.binds, f0, f1, f2, f3, f4, f5, f6, f7, f8])).elim
      have f10 : L[10]? = some true := by
        cases hb : L[10]? with
        | none => have := (Array.getElem?_eq_none_iff.1 hb); omega
        | some b =>
          cases b with
          | true => rfl
          | false =>
            exact (ready_nil hr hb (by rfl) (by simp [Region.binds, f0, f1, f2, f3, f4, f5, f6, f7, f8, f9])).elim
      have f11 : L[11]? = some true := by
        cases hb : L[11]? with
        | none => have := (Array.getElem?_eq_none_iff.1 hb); omega
        | some b =>
          cases b with
          | true => rfl
          | false =>
            exact (ready_nil hr hb (by rfl) (by simp [Region.binds, f0, f1, f2, f3, f4, f5, f6, f7, f8, f9, f10])).elim
      obtain ⟨A0, D0, v0, hp0, hy0, hh0⟩ := z12 f9
      obtain ⟨D0', a0, n0, c0, ps0, hz0, hg0, ho0⟩ := z1 f1
      rw [hy0] at hz0
      obtain ⟨rfl, rfl⟩ : D0 = D0' ∧ v0 = .slice a0 n0 c0 := by simpa using hz0
      obtain ⟨A1, D1, v1, hp1, hy1, hh1⟩ := z13 f10
      obtain ⟨D1', a1, n1, c1, ps1, hz1, hg1, ho1⟩ := z3 f3
      rw [hy1] at hz1
      obtain ⟨rfl, rfl⟩ : D1 = D1' ∧ v1 = .slice a1 n1 c1 := by simpa using hz1
      obtain ⟨A2, D2, v2, hp2, hy2, hh2⟩ := z14 f11
      obtain ⟨D2', a2, n2, c2, ps2, hz2, hg2, ho2⟩ := z5 f5
      rw [hy2] at hz2
      obtain ⟨rfl, rfl⟩ : D2 = D2' ∧ v2 = .slice a2 n2 c2 := by simpa using hz2
      subst hp0 hp1 hp2
      have HF := Lib.hid (show Lbl wz A0 D0 (.slice a0 n0 c0) ps0 ∧ Lbl wz A1 D1 (.slice a1 n1 c1) ps1 ∧ Lbl wz A2 D2 (.slice a2 n2 c2) ps2 ∧ Lab.Fine D0 ps0 ∧ Lab.Fine D1 ps1 ∧ Lab.Fine D2 ps2 ∧ Below w1.heap.size w1 wz from ⟨⟨hh0, rc_of_owns ho0 (by have := hg0.2.2.2.2; omega)⟩, ⟨hh1, rc_of_owns ho1 (by have := hg1.2.2.2.2; omega)⟩, ⟨hh2, rc_of_owns ho2 (by have := hg2.2.2.2.2; omega)⟩, hg0, hg1, hg2, hbel⟩)
      go_wp2_with fail
      go_meet
      exact ⟨_, _, _, _, _, _, _, _, _, _, _, _, _, _, _, _, _, _, rfl, rfl, rfl, HF⟩
  case rest =>
    obtain ⟨A0, D0, ps0, a0, n0, c0, A1, D1, ps1, a1, n1, c1, A2, D2, ps2, a2, n2, c2, rfl, rfl, rfl, HF⟩ := hcut
    have HBw := Lib.hid (HS.out w1 (Below.refl _ _)).1
    clear HS SS C0 C1 C2 hcall HI0 HI1 HI2 HK HB HFit
    obtain ⟨X, rfl⟩ : ∃ X, X = wc := ⟨_, rfl⟩
    obtain ⟨L0, L1, L2, F0, F1, F2, hbx⟩ := HF.out
    have HX := Lib.hid (HBw.out.trans (hbx.mono HBw.out.size))
    have O0 := Lib.hid F0.1
    have l0 := F0.2.2.2.2
    have O1 := Lib.hid F1.1
    have l1 := F1.2.2.2.2
    have O2 := Lib.hid F2.1
    have l2 := F2.2.2.2.2
    obtain ⟨Mj, eMj⟩ : ∃ X, max D0 D1 = X := ⟨_, rfl⟩
    obtain ⟨Zj, eZj⟩ : ∃ X, Lab.jn D0 ps0 D1 ps1 = X := ⟨_, rfl⟩
    have Oj := Lib.hid (show Lab.Ok Mj Zj by rw [← eMj, ← eZj]; exact Lab.jn_ok O0.out O1.out)
    have lZj : Zj.length ≤ 24 := by rw [← eZj]; have := Lab.jn_len D0 ps0 D1 ps1; omega
    have CU := Lib.hid (by rw [← eMj, ← eZj]; exact join_c O0.out O1.out L0.rc L1.rc (by omega) : Calls Try.prog 15 #[.agg #[.int .i64 D0, .slice a0 n0 c0], .agg #[.int .i64 D1, .slice a1 n1 c1]] X (LG X Mj Zj))
    obtain ⟨raa, hraa⟩ := bool_is (∀ c, Lab.at' D0 ps0 c ≤ Lab.at' D0 ps0 c)
    have Qaa := Lib.hid (fun (W : World) (v0 v1 : Value) (r0 : RC W.heap.size W v0 ps0) (r1 : RC W.heap.size W v1 ps0) => (pleq_any D0 D0 v0 v1 ps0 ps0 W O0.out O0.out r0 r1 raa hraa : Calls Try.prog 31 #[.agg #[.int .i64 D0, v0], .agg #[.int .i64 D0, v1]] W fun e w' => e = .returned (.bool raa) ∧ Below W.heap.size W w'))
    obtain ⟨rab, hrab⟩ := bool_is (∀ c, Lab.at' D0 ps0 c ≤ Lab.at' D1 ps1 c)
    have Qab := Lib.hid (fun (W : World) (v0 v1 : Value) (r0 : RC W.heap.size W v0 ps0) (r1 : RC W.heap.size W v1 ps1) => (pleq_any D0 D1 v0 v1 ps0 ps1 W O0.out O1.out r0 r1 rab hrab : Calls Try.prog 31 #[.agg #[.int .i64 D0, v0], .agg #[.int .i64 D1, v1]] W fun e w' => e = .returned (.bool rab) ∧ Below W.heap.size W w'))
    obtain ⟨rba, hrba⟩ := bool_is (∀ c, Lab.at' D1 ps1 c ≤ Lab.at' D0 ps0 c)
    have Qba := Lib.hid (fun (W : World) (v0 v1 : Value) (r0 : RC W.heap.size W v0 ps1) (r1 : RC W.heap.size W v1 ps0) => (pleq_any D1 D0 v0 v1 ps1 ps0 W O1.out O0.out r0 r1 rba hrba : Calls Try.prog 31 #[.agg #[.int .i64 D1, v0], .agg #[.int .i64 D0, v1]] W fun e w' => e = .returned (.bool rba) ∧ Below W.heap.size W w'))
    obtain ⟨rbc, hrbc⟩ := bool_is (∀ c, Lab.at' D1 ps1 c ≤ Lab.at' D2 ps2 c)
    have Qbc := Lib.hid (fun (W : World) (v0 v1 : Value) (r0 : RC W.heap.size W v0 ps1) (r1 : RC W.heap.size W v1 ps2) => (pleq_any D1 D2 v0 v1 ps1 ps2 W O1.out O2.out r0 r1 rbc hrbc : Calls Try.prog 31 #[.agg #[.int .i64 D1, v0], .agg #[.int .i64 D2, v1]] W fun e w' => e = .returned (.bool rbc) ∧ Below W.heap.size W w'))
    obtain ⟨rac, hrac⟩ := bool_is (∀ c, Lab.at' D0 ps0 c ≤ Lab.at' D2 ps2 c)
    have Qac := Lib.hid (fun (W : World) (v0 v1 : Value) (r0 : RC W.heap.size W v0 ps0) (r1 : RC W.heap.size W v1 ps2) => (pleq_any D0 D2 v0 v1 ps0 ps2 W O0.out O2.out r0 r1 rac hrac : Calls Try.prog 31 #[.agg #[.int .i64 D0, v0], .agg #[.int .i64 D2, v1]] W fun e w' => e = .returned (.bool rac) ∧ Below W.heap.size W w'))
    obtain ⟨rjc, hrjc⟩ := bool_is (∀ c, Lab.at' Mj Zj c ≤ Lab.at' D2 ps2 c)
    have Qjc := Lib.hid (fun (W : World) (v0 v1 : Value) (r0 : RC W.heap.size W v0 Zj) (r1 : RC W.heap.size W v1 ps2) => (pleq_any Mj D2 v0 v1 Zj ps2 W Oj.out O2.out r0 r1 rjc hrjc : Calls Try.prog 31 #[.agg #[.int .i64 Mj, v0], .agg #[.int .i64 D2, v1]] W fun e w' => e = .returned (.bool rjc) ∧ Below W.heap.size W w'))
    obtain rfl : raa = true := hraa.2 (leq_self _ _)
    have HC := Lib.hid (order_cases hrab hrba hrbc hrac hrjc (leq_anti O0.out O1.out) (fun h1 h2 c => Int.le_trans (h1 c) (h2 c)) (by rw [← eMj, ← eZj]; exact leq_jn O0.out O1.out))
    obtain ⟨b0, b1⟩ := L0.cells
    obtain ⟨b2, b3⟩ := L1.cells
    have HL := Lib.hid (And.intro L0 (And.intro L1 L2))
    clear hraa hrab hrba hrbc hrac hrjc L0 L1 L2 F0 F1 F2 hbx HF HBw eMj eZj
    go_upto_region 4 with fail
    go_wp2_with fail
    refine CU.out.mono ?_
    rintro e Y1 ⟨a3, n3, c3, rfl, hou, hbu⟩
    have hb2 := below_alloc1 Y1 (Obj.cells #[.int .i64 Mj, .slice a3 n3 c3] 24)
    have hk4 := heap_alloc_new Y1 (Obj.cells #[.int .i64 Mj, .slice a3 n3 c3] 24)
    obtain ⟨s0, s1, s2, s3, _⟩ := fresh2 Y1 24 (.int .i64 0) (.slice none 0 0) (.int .i64 Mj) (.slice a3 n3 c3)
    have hru := rc_of_owns hou (by omega)
    go_upto_region 5 with fail
    obtain ⟨X6, e6⟩ : ∃ X6, X6 = Y1.alloc (Obj.cells #[.int .i64 Mj, .slice a3 n3 c3] 24) := ⟨_, rfl⟩
    rw [← e6] at hb2 hk4 ⊢
    clear e6 s0 s1 s2 s3 b0 b1 b2 b3
    obtain ⟨A3, eA3⟩ : ∃ A3, Y1.heap.size = A3 := ⟨_, rfl⟩
    rw [eA3] at hk4 ⊢
    clear eA3
    have hyx : Below X.heap.size X X6 := hbu.trans (hb2.mono hbu.size)
    have U3 : Lbl X6 A3 Mj (.slice a3 n3 c3) Zj := ⟨hk4, (hru.below hb2).mono hb2.size⟩
    obtain ⟨L0, L1, L2⟩ := HL.out
    have hxw := HX.out.trans (hyx.mono HX.out.size)
    have KS := Lib.hid (fun (wx : World) (h : Below X6.heap.size X6 wx) => (⟨(L0.below hyx).below h, (L1.below hyx).below h, (L2.below hyx).below h, (U3).below h, (hxw).trans (h.mono (hxw).size)⟩ : Lbl wx A0 D0 (.slice a0 n0 c0) ps0 ∧ Lbl wx A1 D1 (.slice a1 n1 c1) ps1 ∧ Lbl wx A2 D2 (.slice a2 n2 c2) ps2 ∧ Lbl wx A3 Mj (.slice a3 n3 c3) Zj ∧ Below w.heap.size w wx))
    have SC := Lib.hid (fun (wx : World) (h : Below X6.heap.size X6 wx) => (⟨(KS.out wx h).1.cells.1, (KS.out wx h).1.cells.2, (KS.out wx h).2.1.cells.1, (KS.out wx h).2.1.cells.2, (KS.out wx h).2.2.1.cells.1, (KS.out wx h).2.2.1.cells.2, (KS.out wx h).2.2.2.1.cells.1, (KS.out wx h).2.2.2.1.cells.2⟩ : wx.cell? ⟨A0, 0, none⟩ = some (.int .i64 D0) ∧ wx.cell? ⟨A0, 1, none⟩ = some ((.slice a0 n0 c0)) ∧ wx.cell? ⟨A1, 0, none⟩ = some (.int .i64 D1) ∧ wx.cell? ⟨A1, 1, none⟩ = some ((.slice a1 n1 c1)) ∧ wx.cell? ⟨A2, 0, none⟩ = some (.int .i64 D2) ∧ wx.cell? ⟨A2, 1, none⟩ = some ((.slice a2 n2 c2)) ∧ wx.cell? ⟨A3, 0, none⟩ = some (.int .i64 Mj) ∧ wx.cell? ⟨A3, 1, none⟩ = some ((.slice a3 n3 c3))))
    clear hru hou hbu hb2 hk4 hyx U3 L0 L1 L2 hxw HL CU HX O0 O1 O2 Oj
    have hcall := Lib.hid (Below.refl X6.heap.size X6)
    obtain ⟨q0a, q0b, q1a, q1b, q2a, q2b, q3a, q3b⟩ := SC.out _ hcall.out
    rcases HC.out with ⟨rfl, rfl⟩ | ⟨rfl, rfl, rfl, rfl⟩ | ⟨rfl, rfl, rfl, rfl⟩ | ⟨rfl, rfl, rfl, rfl, rfl⟩ | ⟨rfl, rfl, rfl, rfl, hE⟩ | ⟨rfl, rfl, rfl, rfl, rfl, hE⟩
    · clear HC
      go_wp2_with fail
      refine (Qaa.out _ _ _ (KS.out _ hcall.out).1.rc (KS.out _ hcall.out).1.rc).mono ?_
      rintro e wq ⟨rfl, hb'⟩
      replace hcall := Lib.hid (hcall.out.trans (hb'.mono hcall.out.size))
      clear hb' q0a q0b q1a q1b q2a q2b q3a q3b
      obtain ⟨q0a, q0b, q1a, q1b, q2a, q2b, q3a, q3b⟩ := SC.out _ hcall.out
      go_wp2_with fail
      refine (Qab.out _ _ _ (KS.out _ hcall.out).1.rc (KS.out _ hcall.out).2.1.rc).mono ?_
      rintro e wq ⟨rfl, hb'⟩
      replace hcall := Lib.hid (hcall.out.trans (hb'.mono hcall.out.size))
      clear hb' q0a q0b q1a q1b q2a q2b q3a q3b
      obtain ⟨q0a, q0b, q1a, q1b, q2a, q2b, q3a, q3b⟩ := SC.out _ hcall.out
      go_wp2_with fail
      refine (Qab.out _ _ _ (KS.out _ hcall.out).1.rc (KS.out _ hcall.out).2.1.rc).mono ?_
      rintro e wq ⟨rfl, hb'⟩
      replace hcall := Lib.hid (hcall.out.trans (hb'.mono hcall.out.size))
      clear hb' q0a q0b q1a q1b q2a q2b q3a q3b
      obtain ⟨q0a, q0b, q1a, q1b, q2a, q2b, q3a, q3b⟩ := SC.out _ hcall.out
      go_wp2_with fail
      refine (Qjc.out _ _ _ (KS.out _ hcall.out).2.2.2.1.rc (KS.out _ hcall.out).2.2.1.rc).mono ?_
      rintro e wq ⟨rfl, hb'⟩
      replace hcall := Lib.hid (hcall.out.trans (hb'.mono hcall.out.size))
      clear hb' q0a q0b q1a q1b q2a q2b q3a q3b
      obtain ⟨q0a, q0b, q1a, q1b, q2a, q2b, q3a, q3b⟩ := SC.out _ hcall.out
      go_wp2_with fail
      go_ret
      exact ⟨by first | rfl | simp, (KS.out _ hcall.out).2.2.2.2⟩
    · clear HC
      go_wp2_with fail
      refine (Qaa.out _ _ _ (KS.out _ hcall.out).1.rc (KS.out _ hcall.out).1.rc).mono ?_
      rintro e wq ⟨rfl, hb'⟩
      replace hcall := Lib.hid (hcall.out.trans (hb'.mono hcall.out.size))
      clear hb' q0a q0b q1a q1b q2a q2b q3a q3b
      obtain ⟨q0a, q0b, q1a, q1b, q2a, q2b, q3a, q3b⟩ := SC.out _ hcall.out
      go_wp2_with fail
      refine (Qab.out _ _ _ (KS.out _ hcall.out).1.rc (KS.out _ hcall.out).2.1.rc).mono ?_
      rintro e wq ⟨rfl, hb'⟩
      replace hcall := Lib.hid (hcall.out.trans (hb'.mono hcall.out.size))
      clear hb' q0a q0b q1a q1b q2a q2b q3a q3b
      obtain ⟨q0a, q0b, q1a, q1b, q2a, q2b, q3a, q3b⟩ := SC.out _ hcall.out
      go_wp2_with fail
      refine (Qab.out _ _ _ (KS.out _ hcall.out).1.rc (KS.out _ hcall.out).2.1.rc).mono ?_
      rintro e wq ⟨rfl, hb'⟩
      replace hcall := Lib.hid (hcall.out.trans (hb'.mono hcall.out.size))
      clear hb' q0a q0b q1a q1b q2a q2b q3a q3b
      obtain ⟨q0a, q0b, q1a, q1b, q2a, q2b, q3a, q3b⟩ := SC.out _ hcall.out
      go_wp2_with fail
      refine (Qjc.out _ _ _ (KS.out _ hcall.out).2.2.2.1.rc (KS.out _ hcall.out).2.2.1.rc).mono ?_
      rintro e wq ⟨rfl, hb'⟩
      replace hcall := Lib.hid (hcall.out.trans (hb'.mono hcall.out.size))
      clear hb' q0a q0b q1a q1b q2a q2b q3a q3b
      obtain ⟨q0a, q0b, q1a, q1b, q2a, q2b, q3a, q3b⟩ := SC.out _ hcall.out
      go_wp2_with fail
      refine (Qac.out _ _ _ (KS.out _ hcall.out).1.rc (KS.out _ hcall.out).2.2.1.rc).mono ?_
      rintro e wq ⟨rfl, hb'⟩
      replace hcall := Lib.hid (hcall.out.trans (hb'.mono hcall.out.size))
      clear hb' q0a q0b q1a q1b q2a q2b q3a q3b
      obtain ⟨q0a, q0b, q1a, q1b, q2a, q2b, q3a, q3b⟩ := SC.out _ hcall.out
      go_wp2_with fail
      refine (Qbc.out _ _ _ (KS.out _ hcall.out).2.1.rc (KS.out _ hcall.out).2.2.1.rc).mono ?_
      rintro e wq ⟨rfl, hb'⟩
      replace hcall := Lib.hid (hcall.out.trans (hb'.mono hcall.out.size))
      clear hb' q0a q0b q1a q1b q2a q2b q3a q3b
      obtain ⟨q0a, q0b, q1a, q1b, q2a, q2b, q3a, q3b⟩ := SC.out _ hcall.out
      go_wp2_with fail
      go_ret
      exact ⟨by first | rfl | simp, (KS.out _ hcall.out).2.2.2.2⟩
    · clear HC
      go_wp2_with fail
      refine (Qaa.out _ _ _ (KS.out _ hcall.out).1.rc (KS.out _ hcall.out).1.rc).mono ?_
      rintro e wq ⟨rfl, hb'⟩
      replace hcall := Lib.hid (hcall.out.trans (hb'.mono hcall.out.size))
      clear hb' q0a q0b q1a q1b q2a q2b q3a q3b
      obtain ⟨q0a, q0b, q1a, q1b, q2a, q2b, q3a, q3b⟩ := SC.out _ hcall.out
      go_wp2_with fail
      refine (Qab.out _ _ _ (KS.out _ hcall.out).1.rc (KS.out _ hcall.out).2.1.rc).mono ?_
      rintro e wq ⟨rfl, hb'⟩
      replace hcall := Lib.hid (hcall.out.trans (hb'.mono hcall.out.size))
      clear hb' q0a q0b q1a q1b q2a q2b q3a q3b
      obtain ⟨q0a, q0b, q1a, q1b, q2a, q2b, q3a, q3b⟩ := SC.out _ hcall.out
      go_wp2_with fail
      refine (Qba.out _ _ _ (KS.out _ hcall.out).2.1.rc (KS.out _ hcall.out).1.rc).mono ?_
      rintro e wq ⟨rfl, hb'⟩
      replace hcall := Lib.hid (hcall.out.trans (hb'.mono hcall.out.size))
      clear hb' q0a q0b q1a q1b q2a q2b q3a q3b
      obtain ⟨q0a, q0b, q1a, q1b, q2a, q2b, q3a, q3b⟩ := SC.out _ hcall.out
      go_wp2_with fail
      refine (Qab.out _ _ _ (KS.out _ hcall.out).1.rc (KS.out _ hcall.out).2.1.rc).mono ?_
      rintro e wq ⟨rfl, hb'⟩
      replace hcall := Lib.hid (hcall.out.trans (hb'.mono hcall.out.size))
      clear hb' q0a q0b q1a q1b q2a q2b q3a q3b
      obtain ⟨q0a, q0b, q1a, q1b, q2a, q2b, q3a, q3b⟩ := SC.out _ hcall.out
      go_wp2_with fail
      refine (Qbc.out _ _ _ (KS.out _ hcall.out).2.1.rc (KS.out _ hcall.out).2.2.1.rc).mono ?_
      rintro e wq ⟨rfl, hb'⟩
      replace hcall := Lib.hid (hcall.out.trans (hb'.mono hcall.out.size))
      clear hb' q0a q0b q1a q1b q2a q2b q3a q3b
      obtain ⟨q0a, q0b, q1a, q1b, q2a, q2b, q3a, q3b⟩ := SC.out _ hcall.out
      go_wp2_with fail
      refine (Qjc.out _ _ _ (KS.out _ hcall.out).2.2.2.1.rc (KS.out _ hcall.out).2.2.1.rc).mono ?_
      rintro e wq ⟨rfl, hb'⟩
      replace hcall := Lib.hid (hcall.out.trans (hb'.mono hcall.out.size))
      clear hb' q0a q0b q1a q1b q2a q2b q3a q3b
      obtain ⟨q0a, q0b, q1a, q1b, q2a, q2b, q3a, q3b⟩ := SC.out _ hcall.out
      go_wp2_with fail
      go_ret
      exact ⟨by first | rfl | simp, (KS.out _ hcall.out).2.2.2.2⟩
    · clear HC
      go_wp2_with fail
      refine (Qaa.out _ _ _ (KS.out _ hcall.out).1.rc (KS.out _ hcall.out).1.rc).mono ?_
      rintro e wq ⟨rfl, hb'⟩
      replace hcall := Lib.hid (hcall.out.trans (hb'.mono hcall.out.size))
      clear hb' q0a q0b q1a q1b q2a q2b q3a q3b
      obtain ⟨q0a, q0b, q1a, q1b, q2a, q2b, q3a, q3b⟩ := SC.out _ hcall.out
      go_wp2_with fail
      refine (Qab.out _ _ _ (KS.out _ hcall.out).1.rc (KS.out _ hcall.out).2.1.rc).mono ?_
      rintro e wq ⟨rfl, hb'⟩
      replace hcall := Lib.hid (hcall.out.trans (hb'.mono hcall.out.size))
      clear hb' q0a q0b q1a q1b q2a q2b q3a q3b
      obtain ⟨q0a, q0b, q1a, q1b, q2a, q2b, q3a, q3b⟩ := SC.out _ hcall.out
      go_wp2_with fail
      refine (Qba.out _ _ _ (KS.out _ hcall.out).2.1.rc (KS.out _ hcall.out).1.rc).mono ?_
      rintro e wq ⟨rfl, hb'⟩
      replace hcall := Lib.hid (hcall.out.trans (hb'.mono hcall.out.size))
      clear hb' q0a q0b q1a q1b q2a q2b q3a q3b
      obtain ⟨q0a, q0b, q1a, q1b, q2a, q2b, q3a, q3b⟩ := SC.out _ hcall.out
      go_wp2_with fail
      refine (Qab.out _ _ _ (KS.out _ hcall.out).1.rc (KS.out _ hcall.out).2.1.rc).mono ?_
      rintro e wq ⟨rfl, hb'⟩
      replace hcall := Lib.hid (hcall.out.trans (hb'.mono hcall.out.size))
      clear hb' q0a q0b q1a q1b q2a q2b q3a q3b
      obtain ⟨q0a, q0b, q1a, q1b, q2a, q2b, q3a, q3b⟩ := SC.out _ hcall.out
      go_wp2_with fail
      refine (Qbc.out _ _ _ (KS.out _ hcall.out).2.1.rc (KS.out _ hcall.out).2.2.1.rc).mono ?_
      rintro e wq ⟨rfl, hb'⟩
      replace hcall := Lib.hid (hcall.out.trans (hb'.mono hcall.out.size))
      clear hb' q0a q0b q1a q1b q2a q2b q3a q3b
      obtain ⟨q0a, q0b, q1a, q1b, q2a, q2b, q3a, q3b⟩ := SC.out _ hcall.out
      go_wp2_with fail
      refine (Qac.out _ _ _ (KS.out _ hcall.out).1.rc (KS.out _ hcall.out).2.2.1.rc).mono ?_
      rintro e wq ⟨rfl, hb'⟩
      replace hcall := Lib.hid (hcall.out.trans (hb'.mono hcall.out.size))
      clear hb' q0a q0b q1a q1b q2a q2b q3a q3b
      obtain ⟨q0a, q0b, q1a, q1b, q2a, q2b, q3a, q3b⟩ := SC.out _ hcall.out
      go_wp2_with fail
      refine (Qjc.out _ _ _ (KS.out _ hcall.out).2.2.2.1.rc (KS.out _ hcall.out).2.2.1.rc).mono ?_
      rintro e wq ⟨rfl, hb'⟩
      replace hcall := Lib.hid (hcall.out.trans (hb'.mono hcall.out.size))
      clear hb' q0a q0b q1a q1b q2a q2b q3a q3b
      obtain ⟨q0a, q0b, q1a, q1b, q2a, q2b, q3a, q3b⟩ := SC.out _ hcall.out
      go_wp2_with fail
      refine (Qac.out _ _ _ (KS.out _ hcall.out).1.rc (KS.out _ hcall.out).2.2.1.rc).mono ?_
      rintro e wq ⟨rfl, hb'⟩
      replace hcall := Lib.hid (hcall.out.trans (hb'.mono hcall.out.size))
      clear hb' q0a q0b q1a q1b q2a q2b q3a q3b
      obtain ⟨q0a, q0b, q1a, q1b, q2a, q2b, q3a, q3b⟩ := SC.out _ hcall.out
      go_wp2_with fail
      refine (Qbc.out _ _ _ (KS.out _ hcall.out).2.1.rc (KS.out _ hcall.out).2.2.1.rc).mono ?_
      rintro e wq ⟨rfl, hb'⟩
      replace hcall := Lib.hid (hcall.out.trans (hb'.mono hcall.out.size))
      clear hb' q0a q0b q1a q1b q2a q2b q3a q3b
      obtain ⟨q0a, q0b, q1a, q1b, q2a, q2b, q3a, q3b⟩ := SC.out _ hcall.out
      go_wp2_with fail
      go_ret
      exact ⟨by first | rfl | simp, (KS.out _ hcall.out).2.2.2.2⟩
    · clear HC
      have HE := Lib.hid hE
      clear hE
      go_wp2_with fail
      refine (Qaa.out _ _ _ (KS.out _ hcall.out).1.rc (KS.out _ hcall.out).1.rc).mono ?_
      rintro e wq ⟨rfl, hb'⟩
      replace hcall := Lib.hid (hcall.out.trans (hb'.mono hcall.out.size))
      clear hb' q0a q0b q1a q1b q2a q2b q3a q3b
      obtain ⟨q0a, q0b, q1a, q1b, q2a, q2b, q3a, q3b⟩ := SC.out _ hcall.out
      go_wp2_with fail
      refine (Qab.out _ _ _ (KS.out _ hcall.out).1.rc (KS.out _ hcall.out).2.1.rc).mono ?_
      rintro e wq ⟨rfl, hb'⟩
      replace hcall := Lib.hid (hcall.out.trans (hb'.mono hcall.out.size))
      clear hb' q0a q0b q1a q1b q2a q2b q3a q3b
      obtain ⟨q0a, q0b, q1a, q1b, q2a, q2b, q3a, q3b⟩ := SC.out _ hcall.out
      go_wp2_with fail
      refine (Qba.out _ _ _ (KS.out _ hcall.out).2.1.rc (KS.out _ hcall.out).1.rc).mono ?_
      rintro e wq ⟨rfl, hb'⟩
      replace hcall := Lib.hid (hcall.out.trans (hb'.mono hcall.out.size))
      clear hb' q0a q0b q1a q1b q2a q2b q3a q3b
      obtain ⟨q0a, q0b, q1a, q1b, q2a, q2b, q3a, q3b⟩ := SC.out _ hcall.out
      go_wp2_with fail
      refine (same_yes (KS.out _ hcall.out).1.rc (KS.out _ hcall.out).2.1.rc HE.out).mono ?_
      rintro e wq ⟨rfl, hb'⟩
      replace hcall := Lib.hid (hcall.out.trans (hb'.mono hcall.out.size))
      clear hb' q0a q0b q1a q1b q2a q2b q3a q3b
      obtain ⟨q0a, q0b, q1a, q1b, q2a, q2b, q3a, q3b⟩ := SC.out _ hcall.out
      go_wp2_with fail
      refine (Qab.out _ _ _ (KS.out _ hcall.out).1.rc (KS.out _ hcall.out).2.1.rc).mono ?_
      rintro e wq ⟨rfl, hb'⟩
      replace hcall := Lib.hid (hcall.out.trans (hb'.mono hcall.out.size))
      clear hb' q0a q0b q1a q1b q2a q2b q3a q3b
      obtain ⟨q0a, q0b, q1a, q1b, q2a, q2b, q3a, q3b⟩ := SC.out _ hcall.out
      go_wp2_with fail
      refine (Qbc.out _ _ _ (KS.out _ hcall.out).2.1.rc (KS.out _ hcall.out).2.2.1.rc).mono ?_
      rintro e wq ⟨rfl, hb'⟩
      replace hcall := Lib.hid (hcall.out.trans (hb'.mono hcall.out.size))
      clear hb' q0a q0b q1a q1b q2a q2b q3a q3b
      obtain ⟨q0a, q0b, q1a, q1b, q2a, q2b, q3a, q3b⟩ := SC.out _ hcall.out
      go_wp2_with fail
      refine (Qjc.out _ _ _ (KS.out _ hcall.out).2.2.2.1.rc (KS.out _ hcall.out).2.2.1.rc).mono ?_
      rintro e wq ⟨rfl, hb'⟩
      replace hcall := Lib.hid (hcall.out.trans (hb'.mono hcall.out.size))
      clear hb' q0a q0b q1a q1b q2a q2b q3a q3b
      obtain ⟨q0a, q0b, q1a, q1b, q2a, q2b, q3a, q3b⟩ := SC.out _ hcall.out
      go_wp2_with fail
      go_ret
      exact ⟨by first | rfl | simp, (KS.out _ hcall.out).2.2.2.2⟩
    · clear HC
      have HE := Lib.hid hE
      clear hE
      go_wp2_with fail
      refine (Qaa.out _ _ _ (KS.out _ hcall.out).1.rc (KS.out _ hcall.out).1.rc).mono ?_
      rintro e wq ⟨rfl, hb'⟩
      replace hcall := Lib.hid (hcall.out.trans (hb'.mono hcall.out.size))
      clear hb' q0a q0b q1a q1b q2a q2b q3a q3b
      obtain ⟨q0a, q0b, q1a, q1b, q2a, q2b, q3a, q3b⟩ := SC.out _ hcall.out
      go_wp2_with fail
      refine (Qab.out _ _ _ (KS.out _ hcall.out).1.rc (KS.out _ hcall.out).2.1.rc).mono ?_
      rintro e wq ⟨rfl, hb'⟩
      replace hcall := Lib.hid (hcall.out.trans (hb'.mono hcall.out.size))
      clear hb' q0a q0b q1a q1b q2a q2b q3a q3b
      obtain ⟨q0a, q0b, q1a, q1b, q2a, q2b, q3a, q3b⟩ := SC.out _ hcall.out
      go_wp2_with fail
      refine (Qba.out _ _ _ (KS.out _ hcall.out).2.1.rc (KS.out _ hcall.out).1.rc).mono ?_
      rintro e wq ⟨rfl, hb'⟩
      replace hcall := Lib.hid (hcall.out.trans (hb'.mono hcall.out.size))
      clear hb' q0a q0b q1a q1b q2a q2b q3a q3b
      obtain ⟨q0a, q0b, q1a, q1b, q2a, q2b, q3a, q3b⟩ := SC.out _ hcall.out
      go_wp2_with fail
      refine (same_yes (KS.out _ hcall.out).1.rc (KS.out _ hcall.out).2.1.rc HE.out).mono ?_
      rintro e wq ⟨rfl, hb'⟩
      replace hcall := Lib.hid (hcall.out.trans (hb'.mono hcall.out.size))
      clear hb' q0a q0b q1a q1b q2a q2b q3a q3b
      obtain ⟨q0a, q0b, q1a, q1b, q2a, q2b, q3a, q3b⟩ := SC.out _ hcall.out
      go_wp2_with fail
      refine (Qab.out _ _ _ (KS.out _ hcall.out).1.rc (KS.out _ hcall.out).2.1.rc).mono ?_
      rintro e wq ⟨rfl, hb'⟩
      replace hcall := Lib.hid (hcall.out.trans (hb'.mono hcall.out.size))
      clear hb' q0a q0b q1a q1b q2a q2b q3a q3b
      obtain ⟨q0a, q0b, q1a, q1b, q2a, q2b, q3a, q3b⟩ := SC.out _ hcall.out
      go_wp2_with fail
      refine (Qbc.out _ _ _ (KS.out _ hcall.out).2.1.rc (KS.out _ hcall.out).2.2.1.rc).mono ?_
      rintro e wq ⟨rfl, hb'⟩
      replace hcall := Lib.hid (hcall.out.trans (hb'.mono hcall.out.size))
      clear hb' q0a q0b q1a q1b q2a q2b q3a q3b
      obtain ⟨q0a, q0b, q1a, q1b, q2a, q2b, q3a, q3b⟩ := SC.out _ hcall.out
      go_wp2_with fail
      refine (Qac.out _ _ _ (KS.out _ hcall.out).1.rc (KS.out _ hcall.out).2.2.1.rc).mono ?_
      rintro e wq ⟨rfl, hb'⟩
      replace hcall := Lib.hid (hcall.out.trans (hb'.mono hcall.out.size))
      clear hb' q0a q0b q1a q1b q2a q2b q3a q3b
      obtain ⟨q0a, q0b, q1a, q1b, q2a, q2b, q3a, q3b⟩ := SC.out _ hcall.out
      go_wp2_with fail
      refine (Qjc.out _ _ _ (KS.out _ hcall.out).2.2.2.1.rc (KS.out _ hcall.out).2.2.1.rc).mono ?_
      rintro e wq ⟨rfl, hb'⟩
      replace hcall := Lib.hid (hcall.out.trans (hb'.mono hcall.out.size))
      clear hb' q0a q0b q1a q1b q2a q2b q3a q3b
      obtain ⟨q0a, q0b, q1a, q1b, q2a, q2b, q3a, q3b⟩ := SC.out _ hcall.out
      go_wp2_with fail
      refine (Qac.out _ _ _ (KS.out _ hcall.out).1.rc (KS.out _ hcall.out).2.2.1.rc).mono ?_
      rintro e wq ⟨rfl, hb'⟩
      replace hcall := Lib.hid (hcall.out.trans (hb'.mono hcall.out.size))
      clear hb' q0a q0b q1a q1b q2a q2b q3a q3b
      obtain ⟨q0a, q0b, q1a, q1b, q2a, q2b, q3a, q3b⟩ := SC.out _ hcall.out
      go_wp2_with fail
      refine (Qbc.out _ _ _ (KS.out _ hcall.out).2.1.rc (KS.out _ hcall.out).2.2.1.rc).mono ?_
      rintro e wq ⟨rfl, hb'⟩
      replace hcall := Lib.hid (hcall.out.trans (hb'.mono hcall.out.size))
      clear hb' q0a q0b q1a q1b q2a q2b q3a q3b
      obtain ⟨q0a, q0b, q1a, q1b, q2a, q2b, q3a, q3b⟩ := SC.out _ hcall.out
      go_wp2_with fail
      go_ret
      exact ⟨by first | rfl | simp, (KS.out _ hcall.out).2.2.2.2⟩
end Go.Proofs.Ytlkhbbdigljpjaa
