import Derived.Test.YtlkhbbdigljpjaaLo
namespace Go.Proofs.Ytlkhbbdigljpjaa
open Go.RowKit
set_option linter.unusedVariables false
set_option linter.unusedSimpArgs false

theorem mt_leq_l {D E : Int} {ps qs : List (Nat × Int)} (o1 : Lab.Ok D ps) (o2 : Lab.Ok E qs) : ∀ c, Lab.at' (min D E) (Lab.mt D ps E qs) c ≤ Lab.at' D ps c := fun c => by rw [Lab.mt_at o1 o2]; omega
theorem mt_leq_r {D E : Int} {ps qs : List (Nat × Int)} (o1 : Lab.Ok D ps) (o2 : Lab.Ok E qs) : ∀ c, Lab.at' (min D E) (Lab.mt D ps E qs) c ≤ Lab.at' E qs c := fun c => by rw [Lab.mt_at o1 o2]; omega
theorem leq_jn_l {D E : Int} {ps qs : List (Nat × Int)} (o1 : Lab.Ok D ps) (o2 : Lab.Ok E qs) : ∀ c, Lab.at' D ps c ≤ Lab.at' (max D E) (Lab.jn D ps E qs) c := fun c => by rw [Lab.jn_at o1 o2]; omega
theorem leq_jn_r {D E : Int} {ps qs : List (Nat × Int)} (o1 : Lab.Ok D ps) (o2 : Lab.Ok E qs) : ∀ c, Lab.at' E qs c ≤ Lab.at' (max D E) (Lab.jn D ps E qs) c := fun c => by rw [Lab.jn_at o1 o2]; omega
theorem leq_mt {D E F : Int} {ps qs rs : List (Nat × Int)} (o1 : Lab.Ok D ps) (o2 : Lab.Ok E qs) : (∀ c, Lab.at' F rs c ≤ Lab.at' (min D E) (Lab.mt D ps E qs) c) ↔ (∀ c, Lab.at' F rs c ≤ Lab.at' D ps c) ∧ ∀ c, Lab.at' F rs c ≤ Lab.at' E qs c := by
  constructor
  · intro h
    exact ⟨fun c => by have := h c; rw [Lab.mt_at o1 o2] at this; omega, fun c => by have := h c; rw [Lab.mt_at o1 o2] at this; omega⟩
  · rintro ⟨h1, h2⟩ c
    have := h1 c; have := h2 c
    rw [Lab.mt_at o1 o2]; omega
theorem both_cases {p q r : Prop} {x y z : Bool} (h1 : x = true ↔ p) (h2 : y = true ↔ q) (h3 : z = true ↔ r) (k : r ↔ p ∧ q) : (x = false ∧ z = false) ∨ (x = true ∧ y = false ∧ z = false) ∨ (x = true ∧ y = true ∧ z = true) := by
  cases x <;> cases y <;> cases z <;> simp_all
set_option maxRecDepth 100000 in
set_option maxHeartbeats 4000000 in
theorem bounds_law (S0 S1 S2 : Int) (v0 v1 v2 : Value) (w : World) (h0 : Ints w v0) (h1 : Ints w v1) (h2 : Ints w v2) :
    Calls Try.prog 7 #[.agg #[.int .i64 S0, v0], .agg #[.int .i64 S1, v1], .agg #[.int .i64 S2, v2]] w fun e w' => e = .returned (.bool true) ∧ Below w.heap.size w w' := by
  obtain ⟨va0, vn0, vc0, rfl⟩ : ∃ a n c, v0 = .slice a n c := by rcases h0 with ⟨a, c, rfl⟩ | ⟨b, off, cap, n, ls, rfl, _⟩ <;> exact ⟨_, _, _, rfl⟩
  obtain ⟨va1, vn1, vc1, rfl⟩ : ∃ a n c, v1 = .slice a n c := by rcases h1 with ⟨a, c, rfl⟩ | ⟨b, off, cap, n, ls, rfl, _⟩ <;> exact ⟨_, _, _, rfl⟩
  obtain ⟨va2, vn2, vc2, rfl⟩ : ∃ a n c, v2 = .slice a n c := by rcases h2 with ⟨a, c, rfl⟩ | ⟨b, off, cap, n, ls, rfl, _⟩ <;> exact ⟨_, _, _, rfl⟩
  have HI0 := Lib.hid h0
  have HI1 := Lib.hid h1
  have HI2 := Lib.hid h2
  have HFit := Lib.hid (fun (W : World) => fit_any W)
  obtain ⟨W0, e0⟩ : ∃ W0, W0 = (((w.alloc (Obj.cells #[.int .i64 S0, .slice va0 vn0 vc0] 29)).alloc (Obj.cells #[.int .i64 S1, .slice va1 vn1 vc1] 29)).alloc (Obj.cells #[.int .i64 S2, .slice va2 vn2 vc2] 29)) := ⟨_, rfl⟩
  have hB : Below w.heap.size w W0 := by rw [e0]; exact (((Below.refl _ _).alloc (Nat.le_refl _) _).alloc (by simp <;> omega) _).alloc (by simp <;> omega) _
  have hk0 : W0.heap[w.heap.size]? = some (Obj.cells #[.int .i64 S0, .slice va0 vn0 vc0] 29) := by
    rw [e0]
    rw [Below.heap_alloc _ _ _ (by simp <;> omega)]
    rw [Below.heap_alloc _ _ _ (by simp <;> omega)]
    have := heap_alloc_new w (Obj.cells #[.int .i64 S0, .slice va0 vn0 vc0] 29); simpa using this
  have hk1 : W0.heap[w.heap.size + 1]? = some (Obj.cells #[.int .i64 S1, .slice va1 vn1 vc1] 29) := by
    rw [e0]
    rw [Below.heap_alloc _ _ _ (by simp <;> omega)]
    have := heap_alloc_new (w.alloc (Obj.cells #[.int .i64 S0, .slice va0 vn0 vc0] 29)) (Obj.cells #[.int .i64 S1, .slice va1 vn1 vc1] 29); simpa using this
  have hk2 : W0.heap[w.heap.size + 2]? = some (Obj.cells #[.int .i64 S2, .slice va2 vn2 vc2] 29) := by
    rw [e0]
    have := heap_alloc_new ((w.alloc (Obj.cells #[.int .i64 S0, .slice va0 vn0 vc0] 29)).alloc (Obj.cells #[.int .i64 S1, .slice va1 vn1 vc1] 29)) (Obj.cells #[.int .i64 S2, .slice va2 vn2 vc2] 29); simpa using this
  have HB := Lib.hid hB
  have HK := Lib.hid (show W0.heap[w.heap.size]? = some (Obj.cells #[.int .i64 S0, .slice va0 vn0 vc0] 29) ∧ W0.heap[w.heap.size + 1]? = some (Obj.cells #[.int .i64 S1, .slice va1 vn1 vc1] 29) ∧ W0.heap[w.heap.size + 2]? = some (Obj.cells #[.int .i64 S2, .slice va2 vn2 vc2] 29) from ⟨hk0, hk1, hk2⟩)
  clear h0 h1 h2 hB hk0 hk1 hk2
  go_enter Try.func7, Try.ntmps7
  go_wp2_with fail
  rw [← e0]
  clear e0
  refine (HFit.out _).mono ?_
  rintro e w1 ⟨rfl, hb1⟩
  have hS : ∀ wx, Below w1.heap.size w1 wx → Below w.heap.size w wx ∧ wx.cell? ⟨w.heap.size, 0, none⟩ = some (.int .i64 S0) ∧ wx.cell? ⟨w.heap.size, 1, none⟩ = some (.slice va0 vn0 vc0) ∧ wx.cell? ⟨w.heap.size + 1, 0, none⟩ = some (.int .i64 S1) ∧ wx.cell? ⟨w.heap.size + 1, 1, none⟩ = some (.slice va1 vn1 vc1) ∧ wx.cell? ⟨w.heap.size + 2, 0, none⟩ = some (.int .i64 S2) ∧ wx.cell? ⟨w.heap.size + 2, 1, none⟩ = some (.slice va2 vn2 vc2) := fun wx hx => by
    have h0 := hb1.trans (hx.mono hb1.size)
    have r0 : wx.heap[w.heap.size]? = some (Obj.cells #[.int .i64 S0, .slice va0 vn0 vc0] 29) := by rw [h0.block _ (Array.getElem?_eq_some_iff.1 HK.out.1).1]; exact HK.out.1
    have r1 : wx.heap[w.heap.size + 1]? = some (Obj.cells #[.int .i64 S1, .slice va1 vn1 vc1] 29) := by rw [h0.block _ (Array.getElem?_eq_some_iff.1 HK.out.2.1).1]; exact HK.out.2.1
    have r2 : wx.heap[w.heap.size + 2]? = some (Obj.cells #[.int .i64 S2, .slice va2 vn2 vc2] 29) := by rw [h0.block _ (Array.getElem?_eq_some_iff.1 HK.out.2.2).1]; exact HK.out.2.2
    exact ⟨HB.out.trans (h0.mono HB.out.size), by rw [cell_of_row _ _ 0 _ 29 (0, 0) r0]; rfl, by rw [cell_of_row _ _ 1 _ 29 (0, 0) r0]; rfl, by rw [cell_of_row _ _ 0 _ 29 (0, 0) r1]; rfl, by rw [cell_of_row _ _ 1 _ 29 (0, 0) r1]; rfl, by rw [cell_of_row _ _ 0 _ 29 (0, 0) r2]; rfl, by rw [cell_of_row _ _ 1 _ 29 (0, 0) r2]; rfl⟩
  have HS := Lib.hid hS
  clear hS hb1
  go_upto_region 3 with fail
  have hcall := Lib.hid ((Below.refl w1.heap.size w1).drew)
  have C0 := Lib.hid (fun (W : World) (h : Below w1.heap.size w1 W) => seed_form S0 (.slice va0 vn0 vc0) W (HI0.out.below (HS.out W h).1))
  have C1 := Lib.hid (fun (W : World) (h : Below w1.heap.size w1 W) => seed_form S1 (.slice va1 vn1 vc1) W (HI1.out.below (HS.out W h).1))
  have C2 := Lib.hid (fun (W : World) (h : Below w1.heap.size w1 W) => seed_form S2 (.slice va2 vn2 vc2) W (HI2.out.below (HS.out W h).1))
  have SS := Lib.hid (fun (wx : World) (h : Below w1.heap.size w1 wx) => ((HS.out wx h).2 : wx.cell? ⟨w.heap.size, 0, none⟩ = some (.int .i64 S0) ∧ wx.cell? ⟨w.heap.size, 1, none⟩ = some (.slice va0 vn0 vc0) ∧ wx.cell? ⟨w.heap.size + 1, 0, none⟩ = some (.int .i64 S1) ∧ wx.cell? ⟨w.heap.size + 1, 1, none⟩ = some (.slice va1 vn1 vc1) ∧ wx.cell? ⟨w.heap.size + 2, 0, none⟩ = some (.int .i64 S2) ∧ wx.cell? ⟨w.heap.size + 2, 1, none⟩ = some (.slice va2 vn2 vc2)))
  go_cut [7, 8, 9, 14, 15, 16, 17, 18, 19] (fun s7 s8 s9 s14 s15 s16 s17 s18 s19 wx => ∃ A0 D0 ps0 a0 n0 c0 A1 D1 ps1 a1 n1 c1 A2 D2 ps2 a2 n2 c2, s7 = .pointer (some ⟨A0, 0, none⟩) ∧ s8 = .pointer (some ⟨A1, 0, none⟩) ∧ s9 = .pointer (some ⟨A2, 0, none⟩) ∧ Hid (Lbl wx A0 D0 (.slice a0 n0 c0) ps0 ∧ Lbl wx A1 D1 (.slice a1 n1 c1) ps1 ∧ Lbl wx A2 D2 (.slice a2 n2 c2) ps2 ∧ Lab.Fine D0 ps0 ∧ Lab.Fine D1 ps1 ∧ Lab.Fine D2 ps2 ∧ Below w1.heap.size w1 wx))
  case first =>
    refine wp_region_any (by kernel_rfl) ?_
    refine wpAny_inv (I := fun L a wz => ∃ y7 y8 y9 y14 y15 y16 y17 y18 y19 : Value, a = { tmps := #[.agg #[.int .i64 S0, .slice va0 vn0 vc0], .agg #[.int .i64 S1, .slice va1 vn1 vc1], .agg #[.int .i64 S2, .slice va2 vn2 vc2], .pointer (some ⟨w.heap.size, 0, none⟩), .pointer (some ⟨w.heap.size + 1, 0, none⟩), .pointer (some ⟨w.heap.size + 2, 0, none⟩), .bool false, y7, y8, y9, undef, undef, .bool true, .bool false, y14, y15, y16, y17, y18, y19, undef, undef, undef, undef, undef, undef, undef, undef, undef, undef, undef, undef, undef, undef, undef, undef, undef, undef, undef, undef, undef, undef, undef, undef, undef, undef, undef, undef, undef, undef, undef, undef, undef, undef, undef, undef, undef, undef, undef, undef, undef, undef, undef, undef, undef, undef, undef, undef, undef, undef, undef, undef, undef, undef, undef, undef, undef, undef, undef, undef, undef, undef, undef, undef], defers := [] } ∧ Hid (L.size = 12 ∧ Below w1.heap.size w1 wz ∧ (L[0]? = some true → y14 = .agg #[.int .i64 S0, .slice va0 vn0 vc0]) ∧ (L[1]? = some true → LV w1 wz Lab.Fine y15) ∧ (L[2]? = some true → y16 = .agg #[.int .i64 S1, .slice va1 vn1 vc1]) ∧ (L[3]? = some true → LV w1 wz Lab.Fine y17) ∧ (L[4]? = some true → y18 = .agg #[.int .i64 S2, .slice va2 vn2 vc2]) ∧ (L[5]? = some true → LV w1 wz Lab.Fine y19) ∧ (L[6]? = some true → AV w1 wz y7) ∧ (L[7]? = some true → AV w1 wz y8) ∧ (L[8]? = some true → AV w1 wz y9) ∧ (L[6]? = some true → L[7]? = some true → y7 ≠ y8) ∧ (L[6]? = some true → L[8]? = some true → y7 ≠ y9) ∧ (L[7]? = some true → L[8]? = some true → y8 ≠ y9) ∧ (L[9]? = some true → SV wz y7 y15) ∧ (L[10]? = some true → SV wz y8 y17) ∧ (L[11]? = some true → SV wz y9 y19) ∧ (L[9]? = some true → (L[6]? = some true ∧ L[1]? = some true)) ∧ (L[10]? = some true → (L[7]? = some true ∧ L[3]? = some true)) ∧ (L[11]? = some true → (L[8]? = some true ∧ L[5]? = some true)))) ?step ?fin _ _ _ _ ⟨_, _, _, _, _, _, _, _, _, rfl, Lib.hid ⟨by rfl, Below.drew (Below.refl _ _), gone (by rfl), gone (by rfl), gone (by rfl), gone (by rfl), gone (by rfl), gone (by rfl), gone (by rfl), gone (by rfl), gone (by rfl), gone (by rfl), gone (by rfl), gone (by rfl), gone (by rfl), gone (by rfl), gone (by rfl), gone (by rfl), gone (by rfl), gone (by rfl)⟩⟩ (by decide)
    case step =>
      intro L a wz i o hI ho hL hdeps K hK
      obtain ⟨y7, y8, y9, y14, y15, y16, y17, y18, y19, rfl, hinv⟩ := hI
      have hi : i < 12 := by have := (Array.getElem?_eq_some_iff.1 ho).1; exact this
      obtain ⟨hN, hbel, z0, z1, z2, z3, z4, z5, z6, z7, z8, z9, z10, z11, z12, z13, z14, z15, z16, z17⟩ := hinv.out
      obtain rfl | rfl | rfl | rfl | rfl | rfl | rfl | rfl | rfl | rfl | rfl | rfl : i = 0 ∨ i = 1 ∨ i = 2 ∨ i = 3 ∨ i = 4 ∨ i = 5 ∨ i = 6 ∨ i = 7 ∨ i = 8 ∨ i = 9 ∨ i = 10 ∨ i = 11 := by omega
      · obtain rfl := Option.some.inj ho
        obtain ⟨b0, b1, _⟩ := SS.out wz hbel
        clear ho
        have Z := hinv
        clear hinv hbel hN hdeps z0 z1 z2 z3 z4 z5 z6 z7 z8 z9 z10 z11 z12 z13 z14 z15 z16 z17
        go_simp
        obtain ⟨hN, hbel, z0, z1, z2, z3, z4, z5, z6, z7, z8, z9, z10, z11, z12, z13, z14, z15, z16, z17⟩ := Z.out
        exact hK _ _ ⟨_, _, _, _, _, _, _, _, _, rfl, Lib.hid ⟨by simpa using hN, hbel, fun _ => rfl, fun g0 => (z1 ((set_other (by decide)).symm.trans g0)), fun g0 => (z2 ((set_other (by decide)).symm.trans g0)), fun g0 => (z3 ((set_other (by decide)).symm.trans g0)), fun g0 => (z4 ((set_other (by decide)).symm.trans g0)), fun g0 => (z5 ((set_other (by decide)).symm.trans g0)), fun g0 => (z6 ((set_other (by decide)).symm.trans g0)), fun g0 => (z7 ((set_other (by decide)).symm.trans g0)), fun g0 => (z8 ((set_other (by decide)).symm.trans g0)), fun g0 g1 => (z9 ((set_other (by decide)).symm.trans g0) ((set_other (by decide)).symm.trans g1)), fun g0 g1 => (z10 ((set_other (by decide)).symm.trans g0) ((set_other (by decide)).symm.trans g1)), fun g0 g1 => (z11 ((set_other (by decide)).symm.trans g0) ((set_other (by decide)).symm.trans g1)), fun g0 => (z12 ((set_other (by decide)).symm.trans g0)), fun g0 => (z13 ((set_other (by decide)).symm.trans g0)), fun g0 => (z14 ((set_other (by decide)).symm.trans g0)), fun g0 => ⟨set_keep (z15 ((set_other (by decide)).symm.trans g0)).1, set_keep (z15 ((set_other (by decide)).symm.trans g0)).2⟩, fun g0 => ⟨set_keep (z16 ((set_other (by decide)).symm.trans g0)).1, set_keep (z16 ((set_other (by decide)).symm.trans g0)).2⟩, fun g0 => ⟨set_keep (z17 ((set_other (by decide)).symm.trans g0)).1, set_keep (z17 ((set_other (by decide)).symm.trans g0)).2⟩⟩⟩
      · obtain rfl := Option.some.inj ho
        have e0 := z0 (dep (by simp [Region.binds] at hdeps ⊢; simp [hdeps]))
        subst e0
        have CC := Lib.hid (C0.out wz hbel)
        have Z := hinv
        clear hinv ho hbel hN hdeps z0 z1 z2 z3 z4 z5 z6 z7 z8 z9 z10 z11 z12 z13 z14 z15 z16 z17
        go_simp
        refine CC.out.mono ?_
        rintro e wq ⟨D, a, n, c, ps, rfl, hg, how, hb'⟩
        obtain ⟨hN, hbel, z0, z1, z2, z3, z4, z5, z6, z7, z8, z9, z10, z11, z12, z13, z14, z15, z16, z17⟩ := Z.out
        exact hK _ _ ⟨_, _, _, _, _, _, _, _, _, rfl, Lib.hid ⟨by simpa using hN, hbel.trans (hb'.mono hbel.size), fun g0 => (z0 ((set_other (by decide)).symm.trans g0)), fun _ => ⟨D, a, n, c, ps, rfl, hg, owns_mono how hbel.size⟩, fun g0 => (z2 ((set_other (by decide)).symm.trans g0)), fun g0 => (z3 ((set_other (by decide)).symm.trans g0)).below hb', fun g0 => (z4 ((set_other (by decide)).symm.trans g0)), fun g0 => (z5 ((set_other (by decide)).symm.trans g0)).below hb', fun g0 => (z6 ((set_other (by decide)).symm.trans g0)).below hb', fun g0 => (z7 ((set_other (by decide)).symm.trans g0)).below hb', fun g0 => (z8 ((set_other (by decide)).symm.trans g0)).below hb', fun g0 g1 => (z9 ((set_other (by decide)).symm.trans g0) ((set_other (by decide)).symm.trans g1)), fun g0 g1 => (z10 ((set_other (by decide)).symm.trans g0) ((set_other (by decide)).symm.trans g1)), fun g0 g1 => (z11 ((set_other (by decide)).symm.trans g0) ((set_other (by decide)).symm.trans g1)), fun g0 => not_done hL (z15 ((set_other (by decide)).symm.trans g0)).2, fun g0 => (z13 ((set_other (by decide)).symm.trans g0)).below hb', fun g0 => (z14 ((set_other (by decide)).symm.trans g0)).below hb', fun g0 => ⟨set_keep (z15 ((set_other (by decide)).symm.trans g0)).1, set_keep (z15 ((set_other (by decide)).symm.trans g0)).2⟩, fun g0 => ⟨set_keep (z16 ((set_other (by decide)).symm.trans g0)).1, set_keep (z16 ((set_other (by decide)).symm.trans g0)).2⟩, fun g0 => ⟨set_keep (z17 ((set_other (by decide)).symm.trans g0)).1, set_keep (z17 ((set_other (by decide)).symm.trans g0)).2⟩⟩⟩
      · obtain rfl := Option.some.inj ho
        obtain ⟨_, _, b0, b1, _⟩ := SS.out wz hbel
        clear ho
        have Z := hinv
        clear hinv hbel hN hdeps z0 z1 z2 z3 z4 z5 z6 z7 z8 z9 z10 z11 z12 z13 z14 z15 z16 z17
        go_simp
        obtain ⟨hN, hbel, z0, z1, z2, z3, z4, z5, z6, z7, z8, z9, z10, z11, z12, z13, z14, z15, z16, z17⟩ := Z.out
        exact hK _ _ ⟨_, _, _, _, _, _, _, _, _, rfl, Lib.hid ⟨by simpa using hN, hbel, fun g0 => (z0 ((set_other (by decide)).symm.trans g0)), fun g0 => (z1 ((set_other (by decide)).symm.trans g0)), fun _ => rfl, fun g0 => (z3 ((set_other (by decide)).symm.trans g0)), fun g0 => (z4 ((set_other (by decide)).symm.trans g0)), fun g0 => (z5 ((set_other (by decide)).symm.trans g0)), fun g0 => (z6 ((set_other (by decide)).symm.trans g0)), fun g0 => (z7 ((set_other (by decide)).symm.trans g0)), fun g0 => (z8 ((set_other (by decide)).symm.trans g0)), fun g0 g1 => (z9 ((set_other (by decide)).symm.trans g0) ((set_other (by decide)).symm.trans g1)), fun g0 g1 => (z10 ((set_other (by decide)).symm.trans g0) ((set_other (by decide)).symm.trans g1)), fun g0 g1 => (z11 ((set_other (by decide)).symm.trans g0) ((set_other (by decide)).symm.trans g1)), fun g0 => (z12 ((set_other (by decide)).symm.trans g0)), fun g0 => (z13 ((set_other (by decide)).symm.trans g0)), fun g0 => (z14 ((set_other (by decide)).symm.trans g0)), fun g0 => ⟨set_keep (z15 ((set_other (by decide)).symm.trans g0)).1, set_keep (z15 ((set_other (by decide)).symm.trans g0)).2⟩, fun g0 => ⟨set_keep (z16 ((set_other (by decide)).symm.trans g0)).1, set_keep (z16 ((set_other (by decide)).symm.trans g0)).2⟩, fun g0 => ⟨set_keep (z17 ((set_other (by decide)).symm.trans g0)).1, set_keep (z17 ((set_other (by decide)).symm.trans g0)).2⟩⟩⟩
      · obtain rfl := Option.some.inj ho
        have e2 := z2 (dep (by simp [Region.binds] at hdeps ⊢; simp [hdeps]))
        subst e2
        have CC := Lib.hid (C1.out wz hbel)
        have Z := hinv
        clear hinv ho hbel hN hdeps z0 z1 z2 z3 z4 z5 z6 z7 z8 z9 z10 z11 z12 z13 z14 z15 z16 z17
        go_simp
        refine CC.out.mono ?_
        rintro e wq ⟨D, a, n, c, ps, rfl, hg, how, hb'⟩
        obtain ⟨hN, hbel, z0, z1, z2, z3, z4, z5, z6, z7, z8, z9, z10, z11, z12, z13, z14, z15, z16, z17⟩ := Z.out
        exact hK _ _ ⟨_, _, _, _, _, _, _, _, _, rfl, Lib.hid ⟨by simpa using hN, hbel.trans (hb'.mono hbel.size), fun g0 => (z0 ((set_other (by decide)).symm.trans g0)), fun g0 => (z1 ((set_other (by decide)).symm.trans g0)).below hb', fun g0 => (z2 ((set_other (by decide)).symm.trans g0)), fun _ => ⟨D, a, n, c, ps, rfl, hg, owns_mono how hbel.size⟩, fun g0 => (z4 ((set_other (by decide)).symm.trans g0)), fun g0 => (z5 ((set_other (by decide)).symm.trans g0)).below hb', fun g0 => (z6 ((set_other (by decide)).symm.trans g0)).below hb', fun g0 => (z7 ((set_other (by decide)).symm.trans g0)).below hb', fun g0 => (z8 ((set_other (by decide)).symm.trans g0)).below hb', fun g0 g1 => (z9 ((set_other (by decide)).symm.trans g0) ((set_other (by decide)).symm.trans g1)), fun g0 g1 => (z10 ((set_other (by decide)).symm.trans g0) ((set_other (by decide)).symm.trans g1)), fun g0 g1 => (z11 ((set_other (by decide)).symm.trans g0) ((set_other (by decide)).symm.trans g1)), fun g0 => (z12 ((set_other (by decide)).symm.trans g0)).below hb', fun g0 => not_done hL (z16 ((set_other (by decide)).symm.trans g0)).2, fun g0 => (z14 ((set_other (by decide)).symm.trans g0)).below hb', fun g0 => ⟨set_keep (z15 ((set_other (by decide)).symm.trans g0)).1, set_keep (z15 ((set_other (by decide)).symm.trans g0)).2⟩, fun g0 => ⟨set_keep (z16 ((set_other (by decide)).symm.trans g0)).1, set_keep (z16 ((set_other (by decide)).symm.trans g0)).2⟩, fun g0 => ⟨set_keep (z17 ((set_other (by decide)).symm.trans g0)).1, set_keep (z17 ((set_other (by decide)).symm.trans g0)).2⟩⟩⟩
      · obtain rfl := Option.some.inj ho
        obtain ⟨_, _, _, _, b0, b1⟩ := SS.out wz hbel
        clear ho
        have Z := hinv
        clear hinv hbel hN hdeps z0 z1 z2 z3 z4 z5 z6 z7 z8 z9 z10 z11 z12 z13 z14 z15 z16 z17
        go_simp
        obtain ⟨hN, hbel, z0, z1, z2, z3, z4, z5, z6, z7, z8, z9, z10, z11, z12, z13, z14, z15, z16, z17⟩ := Z.out
        exact hK _ _ ⟨_, _, _, _, _, _, _, _, _, rfl, Lib.hid ⟨by simpa using hN, hbel, fun g0 => (z0 ((set_other (by decide)).symm.trans g0)), fun g0 => (z1 ((set_other (by decide)).symm.trans g0)), fun g0 => (z2 ((set_other (by decide)).symm.trans g0)), fun g0 => (z3 ((set_other (by decide)).symm.trans g0)), fun _ => rfl, fun g0 => (z5 ((set_other (by decide)).symm.trans g0)), fun g0 => (z6 ((set_other (by decide)).symm.trans g0)), fun g0 => (z7 ((set_other (by decide)).symm.trans g0)), fun g0 => (z8 ((set_other (by decide)).symm.trans g0)), fun g0 g1 => (z9 ((set_other (by decide)).symm.trans g0) ((set_other (by decide)).symm.trans g1)), fun g0 g1 => (z10 ((set_other (by decide)).symm.trans g0) ((set_other (by decide)).symm.trans g1)), fun g0 g1 => (z11 ((set_other (by decide)).symm.trans g0) ((set_other (by decide)).symm.trans g1)), fun g0 => (z12 ((set_other (by decide)).symm.trans g0)), fun g0 => (z13 ((set_other (by decide)).symm.trans g0)), fun g0 => (z14 ((set_other (by decide)).symm.trans g0)), fun g0 => ⟨set_keep (z15 ((set_other (by decide)).symm.trans g0)).1, set_keep (z15 ((set_other (by decide)).symm.trans g0)).2⟩, fun g0 => ⟨set_keep (z16 ((set_other (by decide)).symm.trans g0)).1, set_keep (z16 ((set_other (by decide)).symm.trans g0)).2⟩, fun g0 => ⟨set_keep (z17 ((set_other (by decide)).symm.trans g0)).1, set_keep (z17 ((set_other (by decide)).symm.trans g0)).2⟩⟩⟩
      · obtain rfl := Option.some.inj ho
        have e4 := z4 (dep (by simp [Region.binds] at hdeps ⊢; simp [hdeps]))
        subst e4
        have CC := Lib.hid (C2.out wz hbel)
        have Z := hinv
        clear hinv ho hbel hN hdeps z0 z1 z2 z3 z4 z5 z6 z7 z8 z9 z10 z11 z12 z13 z14 z15 z16 z17
        go_simp
        refine CC.out.mono ?_
        rintro e wq ⟨D, a, n, c, ps, rfl, hg, how, hb'⟩
        obtain ⟨hN, hbel, z0, z1, z2, z3, z4, z5, z6, z7, z8, z9, z10, z11, z12, z13, z14, z15, z16, z17⟩ := Z.out
        exact hK _ _ ⟨_, _, _, _, _, _, _, _, _, rfl, Lib.hid ⟨by simpa using hN, hbel.trans (hb'.mono hbel.size), fun g0 => (z0 ((set_other (by decide)).symm.trans g0)), fun g0 => (z1 ((set_other (by decide)).symm.trans g0)).below hb', fun g0 => (z2 ((set_other (by decide)).symm.trans g0)), fun g0 => (z3 ((set_other (by decide)).symm.trans g0)).below hb', fun g0 => (z4 ((set_other (by decide)).symm.trans g0)), fun _ => ⟨D, a, n, c, ps, rfl, hg, owns_mono how hbel.size⟩, fun g0 => (z6 ((set_other (by decide)).symm.trans g0)).below hb', fun g0 => (z7 ((set_other (by decide)).symm.trans g0)).below hb', fun g0 => (z8 ((set_other (by decide)).symm.trans g0)).below hb', fun g0 g1 => (z9 ((set_other (by decide)).symm.trans g0) ((set_other (by decide)).symm.trans g1)), fun g0 g1 => (z10 ((set_other (by decide)).symm.trans g0) ((set_other (by decide)).symm.trans g1)), fun g0 g1 => (z11 ((set_other (by decide)).symm.trans g0) ((set_other (by decide)).symm.trans g1)), fun g0 => (z12 ((set_other (by decide)).symm.trans g0)).below hb', fun g0 => (z13 ((set_other (by decide)).symm.trans g0)).below hb', fun g0 => not_done hL (z17 ((set_other (by decide)).symm.trans g0)).2, fun g0 => ⟨set_keep (z15 ((set_other (by decide)).symm.trans g0)).1, set_keep (z15 ((set_other (by decide)).symm.trans g0)).2⟩, fun g0 => ⟨set_keep (z16 ((set_other (by decide)).symm.trans g0)).1, set_keep (z16 ((set_other (by decide)).symm.trans g0)).2⟩, fun g0 => ⟨set_keep (z17 ((set_other (by decide)).symm.trans g0)).1, set_keep (z17 ((set_other (by decide)).symm.trans g0)).2⟩⟩⟩
      · obtain rfl := Option.some.inj ho
        have Z := hinv
        clear hinv ho hbel hN hdeps z0 z1 z2 z3 z4 z5 z6 z7 z8 z9 z10 z11 z12 z13 z14 z15 z16 z17
        go_simp
        obtain ⟨hN, hbel, z0, z1, z2, z3, z4, z5, z6, z7, z8, z9, z10, z11, z12, z13, z14, z15, z16, z17⟩ := Z.out
        have hb' := below_alloc1 wz (Obj.cells #[.int .i64 0, .slice none 0 0] 24)
        exact hK _ _ ⟨_, _, _, _, _, _, _, _, _, rfl, Lib.hid ⟨by simpa using hN, hbel.trans (hb'.mono hbel.size), fun g0 => (z0 ((set_other (by decide)).symm.trans g0)), fun g0 => (z1 ((set_other (by decide)).symm.trans g0)).below hb', fun g0 => (z2 ((set_other (by decide)).symm.trans g0)), fun g0 => (z3 ((set_other (by decide)).symm.trans g0)).below hb', fun g0 => (z4 ((set_other (by decide)).symm.trans g0)), fun g0 => (z5 ((set_other (by decide)).symm.trans g0)).below hb', fun _ => AV.new _ _ _ _ hbel.size, fun g0 => (z7 ((set_other (by decide)).symm.trans g0)).below hb', fun g0 => (z8 ((set_other (by decide)).symm.trans g0)).below hb', fun g0 g1 => ((z7 ((set_other (by decide)).symm.trans g1)).ne).symm, fun g0 g1 => ((z8 ((set_other (by decide)).symm.trans g1)).ne).symm, fun g0 g1 => (z11 ((set_other (by decide)).symm.trans g0) ((set_other (by decide)).symm.trans g1)), fun g0 => not_done hL (z15 ((set_other (by decide)).symm.trans g0)).1, fun g0 => (z13 ((set_other (by decide)).symm.trans g0)).below hb', fun g0 => (z14 ((set_other (by decide)).symm.trans g0)).below hb', fun g0 => ⟨set_keep (z15 ((set_other (by decide)).symm.trans g0)).1, set_keep (z15 ((set_other (by decide)).symm.trans g0)).2⟩, fun g0 => ⟨set_keep (z16 ((set_other (by decide)).symm.trans g0)).1, set_keep (z16 ((set_other (by decide)).symm.trans g0)).2⟩, fun g0 => ⟨set_keep (z17 ((set_other (by decide)).symm.trans g0)).1, set_keep (z17 ((set_other (by decide)).symm.trans g0)).2⟩⟩⟩
      · obtain rfl := Option.some.inj ho
        have Z := hinv
        clear hinv ho hbel hN hdeps z0 z1 z2 z3 z4 z5 z6 z7 z8 z9 z10 z11 z12 z13 z14 z15 z16 z17
        go_simp
        obtain ⟨hN, hbel, z0, z1, z2, z3, z4, z5, z6, z7, z8, z9, z10, z11, z12, z13, z14, z15, z16, z17⟩ := Z.out
        have hb' := below_alloc1 wz (Obj.cells #[.int .i64 0, .slice none 0 0] 24)
        exact hK _ _ ⟨_, _, _, _, _, _, _, _, _, rfl, Lib.hid ⟨by simpa using hN, hbel.trans (hb'.mono hbel.size), fun g0 => (z0 ((set_other (by decide)).symm.trans g0)), fun g0 => (z1 ((set_other (by decide)).symm.trans g0)).below hb', fun g0 => (z2 ((set_other (by decide)).symm.trans g0)), fun g0 => (z3 ((set_other (by decide)).symm.trans g0)).below hb', fun g0 => (z4 ((set_other (by decide)).symm.trans g0)), fun g0 => (z5 ((set_other (by decide)).symm.trans g0)).below hb', fun g0 => (z6 ((set_other (by decide)).symm.trans g0)).below hb', fun _ => AV.new _ _ _ _ hbel.size, fun g0 => (z8 ((set_other (by decide)).symm.trans g0)).below hb', fun g0 g1 => (z6 ((set_other (by decide)).symm.trans g0)).ne, fun g0 g1 => (z10 ((set_other (by decide)).symm.trans g0) ((set_other (by decide)).symm.trans g1)), fun g0 g1 => ((z8 ((set_other (by decide)).symm.trans g1)).ne).symm, fun g0 => (z12 ((set_other (by decide)).symm.trans g0)).below hb', fun g0 => not_done hL (z16 ((set_other (by decide)).symm.trans g0)).1, fun g0 => (z14 ((set_other (by decide)).symm.trans g0)).below hb', fun g0 => ⟨set_keep (z15 ((set_other (by decide)).symm.trans g0)).1, set_keep (z15 ((set_other (by decide)).symm.trans g0)).2⟩, fun g0 => ⟨set_keep (z16 ((set_other (by decide)).symm.trans g0)).1, set_keep (z16 ((set_other (by decide)).symm.trans g0)).2⟩, fun g0 => ⟨set_keep (z17 ((set_other (by decide)).symm.trans g0)).1, set_keep (z17 ((set_other (by decide)).symm.trans g0)).2⟩⟩⟩
      · obtain rfl := Option.some.inj ho
        have Z := hinv
        clear hinv ho hbel hN hdeps z0 z1 z2 z3 z4 z5 z6 z7 z8 z9 z10 z11 z12 z13 z14 z15 z16 z17
        go_simp
        obtain ⟨hN, hbel, z0, z1, z2, z3, z4, z5, z6, z7, z8, z9, z10, z11, z12, z13, z14, z15, z16, z17⟩ := Z.out
        have hb' := below_alloc1 wz (Obj.cells #[.int .i64 0, .slice none 0 0] 24)
        exact hK _ _ ⟨_, _, _, _, _, _, _, _, _, rfl, Lib.hid ⟨by simpa using hN, hbel.trans (hb'.mono hbel.size), fun g0 => (z0 ((set_other (by decide)).symm.trans g0)), fun g0 => (z1 ((set_other (by decide)).symm.trans g0)).below hb', fun g0 => (z2 ((set_other (by decide)).symm.trans g0)), fun g0 => (z3 ((set_other (by decide)).symm.trans g0)).below hb', fun g0 => (z4 ((set_other (by decide)).symm.trans g0)), fun g0 => (z5 ((set_other (by decide)).symm.trans g0)).below hb', fun g0 => (z6 ((set_other (by decide)).symm.trans g0)).below hb', fun g0 => (z7 ((set_other (by decide)).symm.trans g0)).below hb', fun _ => AV.new _ _ _ _ hbel.size, fun g0 g1 => (z9 ((set_other (by decide)).symm.trans g0) ((set_other (by decide)).symm.trans g1)), fun g0 g1 => (z6 ((set_other (by decide)).symm.trans g0)).ne, fun g0 g1 => (z7 ((set_other (by decide)).symm.trans g0)).ne, fun g0 => (z12 ((set_other (by decide)).symm.trans g0)).below hb', fun g0 => (z13 ((set_other (by decide)).symm.trans g0)).below hb', fun g0 => not_done hL (z17 ((set_other (by decide)).symm.trans g0)).1, fun g0 => ⟨set_keep (z15 ((set_other (by decide)).symm.trans g0)).1, set_keep (z15 ((set_other (by decide)).symm.trans g0)).2⟩, fun g0 => ⟨set_keep (z16 ((set_other (by decide)).symm.trans g0)).1, set_keep (z16 ((set_other (by decide)).symm.trans g0)).2⟩, fun g0 => ⟨set_keep (z17 ((set_other (by decide)).symm.trans g0)).1, set_keep (z17 ((set_other (by decide)).symm.trans g0)).2⟩⟩⟩
      · obtain rfl := Option.some.inj ho
        have hds : L[6]? = some true ∧ L[7]? = some true ∧ L[8]? = some true ∧ L[1]? = some true := by
          simp [Region.binds] at hdeps
          refine ⟨?_, ?_, ?_, ?_⟩ <;> (refine dep ?_; simp [hdeps])
        obtain ⟨d6, d7, d8, d1⟩ := hds
        obtain ⟨A0, hA1, hA2, x0, u0, hA3⟩ := z6 d6
        obtain ⟨D, a, n, c, ps, hc1, hc2, hc3⟩ := z1 d1
        subst hA1
        subst hc1
        obtain ⟨s0, s1, s2, s3, s4, _⟩ := old2 wz A0 24 _ _ (.int .i64 D) (.slice a n c) hA3
        have S4 := Lib.hid s4
        have HA3 := Lib.hid hA3
        have HA2 := Lib.hid hA2
        have Z := hinv
        clear hinv ho hbel hN hdeps s4 hA2 hA3 hc2 hc3 z0 z1 z2 z3 z4 z5 z6 z7 z8 z9 z10 z11 z12 z13 z14 z15 z16 z17
        go_simp
        obtain ⟨hN, hbel, z0, z1, z2, z3, z4, z5, z6, z7, z8, z9, z10, z11, z12, z13, z14, z15, z16, z17⟩ := Z.out
        have hA4 := heap_setCell_same wz A0 0 _ 24 (.int .i64 D) HA3.out
        simp only [List.setIfInBounds_toArray, List.set_cons_zero] at hA4
        exact hK _ _ ⟨_, _, _, _, _, _, _, _, _, rfl, Lib.hid ⟨by simpa using hN, (hbel.setCell (p := ⟨A0, 0, none⟩) HA2.out _).setCell (p := ⟨A0, 1, none⟩) HA2.out _, fun g0 => (z0 ((set_other (by decide)).symm.trans g0)), fun g0 => ((z1 ((set_other (by decide)).symm.trans g0)).set HA3.out).set hA4, fun g0 => (z2 ((set_other (by decide)).symm.trans g0)), fun g0 => ((z3 ((set_other (by decide)).symm.trans g0)).set HA3.out).set hA4, fun g0 => (z4 ((set_other (by decide)).symm.trans g0)), fun g0 => ((z5 ((set_other (by decide)).symm.trans g0)).set HA3.out).set hA4, fun _ => ⟨A0, rfl, HA2.out, _, _, S4.out⟩, fun g0 => ((z7 ((set_other (by decide)).symm.trans g0)).set ((z9 d6 d7)).symm).set ((z9 d6 d7)).symm, fun g0 => ((z8 ((set_other (by decide)).symm.trans g0)).set ((z10 d6 d8)).symm).set ((z10 d6 d8)).symm, fun g0 g1 => (z9 ((set_other (by decide)).symm.trans g0) ((set_other (by decide)).symm.trans g1)), fun g0 g1 => (z10 ((set_other (by decide)).symm.trans g0) ((set_other (by decide)).symm.trans g1)), fun g0 g1 => (z11 ((set_other (by decide)).symm.trans g0) ((set_other (by decide)).symm.trans g1)), fun _ => ⟨A0, D, .slice a n c, rfl, rfl, S4.out⟩, fun g0 => ((z13 ((set_other (by decide)).symm.trans g0)).set ((z9 d6 d7)).symm).set ((z9 d6 d7)).symm, fun g0 => ((z14 ((set_other (by decide)).symm.trans g0)).set ((z10 d6 d8)).symm).set ((z10 d6 d8)).symm, fun _ => ⟨set_keep d6, set_keep d1⟩, fun g0 => ⟨set_keep (z16 ((set_other (by decide)).symm.trans g0)).1, set_keep (z16 ((set_other (by decide)).symm.trans g0)).2⟩, fun g0 => ⟨set_keep (z17 ((set_other (by decide)).symm.trans g0)).1, set_keep (z17 ((set_other (by decide)).symm.trans g0)).2⟩⟩⟩
      · obtain rfl := Option.some.inj ho
        have hds : L[7]? = some true ∧ L[6]? = some true ∧ L[8]? = some true ∧ L[3]? = some true := by
          simp [Region.binds] at hdeps
          refine ⟨?_, ?_, ?_, ?_⟩ <;> (refine dep ?_; simp [hdeps])
        obtain ⟨d7, d6, d8, d3⟩ := hds
        obtain ⟨A0, hA1, hA2, x0, u0, hA3⟩ := z7 d7
        obtain ⟨D, a, n, c, ps, hc1, hc2, hc3⟩ := z3 d3
        subst hA1
        subst hc1
        obtain ⟨s0, s1, s2, s3, s4, _⟩ := old2 wz A0 24 _ _ (.int .i64 D) (.slice a n c) hA3
        have S4 := Lib.hid s4
        have HA3 := Lib.hid hA3
        have HA2 := Lib.hid hA2
        have Z := hinv
        clear hinv ho hbel hN hdeps s4 hA2 hA3 hc2 hc3 z0 z1 z2 z3 z4 z5 z6 z7 z8 z9 z10 z11 z12 z13 z14 z15 z16 z17
        go_simp
        obtain ⟨hN, hbel, z0, z1, z2, z3, z4, z5, z6, z7, z8, z9, z10, z11, z12, z13, z14, z15, z16, z17⟩ := Z.out
        have hA4 := heap_setCell_same wz A0 0 _ 24 (.int .i64 D) HA3.out
        simp only [List.setIfInBounds_toArray, List.set_cons_zero] at hA4
        exact hK _ _ ⟨_, _, _, _, _, _, _, _, _, rfl, Lib.hid ⟨by simpa using hN, (hbel.setCell (p := ⟨A0, 0, none⟩) HA2.out _).setCell (p := ⟨A0, 1, none⟩) HA2.out _, fun g0 => (z0 ((set_other (by decide)).symm.trans g0)), fun g0 => ((z1 ((set_other (by decide)).symm.trans g0)).set HA3.out).set hA4, fun g0 => (z2 ((set_other (by decide)).symm.trans g0)), fun g0 => ((z3 ((set_other (by decide)).symm.trans g0)).set HA3.out).set hA4, fun g0 => (z4 ((set_other (by decide)).symm.trans g0)), fun g0 => ((z5 ((set_other (by decide)).symm.trans g0)).set HA3.out).set hA4, fun g0 => ((z6 ((set_other (by decide)).symm.trans g0)).set (z9 d6 d7)).set (z9 d6 d7), fun _ => ⟨A0, rfl, HA2.out, _, _, S4.out⟩, fun g0 => ((z8 ((set_other (by decide)).symm.trans g0)).set ((z11 d7 d8)).symm).set ((z11 d7 d8)).symm, fun g0 g1 => (z9 ((set_other (by decide)).symm.trans g0) ((set_other (by decide)).symm.trans g1)), fun g0 g1 => (z10 ((set_other (by decide)).symm.trans g0) ((set_other (by decide)).symm.trans g1)), fun g0 g1 => (z11 ((set_other (by decide)).symm.trans g0) ((set_other (by decide)).symm.trans g1)), fun g0 => ((z12 ((set_other (by decide)).symm.trans g0)).set (z9 d6 d7)).set (z9 d6 d7), fun _ => ⟨A0, D, .slice a n c, rfl, rfl, S4.out⟩, fun g0 => ((z14 ((set_other (by decide)).symm.trans g0)).set ((z11 d7 d8)).symm).set ((z11 d7 d8)).symm, fun g0 => ⟨set_keep (z15 ((set_other (by decide)).symm.trans g0)).1, set_keep (z15 ((set_other (by decide)).symm.trans g0)).2⟩, fun _ => ⟨set_keep d7, set_keep d3⟩, fun g0 => ⟨set_keep (z17 ((set_other (by decide)).symm.trans g0)).1, set_keep (z17 ((set_other (by decide)).symm.trans g0)).2⟩⟩⟩
      · obtain rfl := Option.some.inj ho
        have hds : L[8]? = some true ∧ L[6]? = some true ∧ L[7]? = some true ∧ L[5]? = some true := by
          simp [Region.binds] at hdeps
          refine ⟨?_, ?_, ?_, ?_⟩ <;> (refine dep ?_; simp [hdeps])
        obtain ⟨d8, d6, d7, d5⟩ := hds
        obtain ⟨A0, hA1, hA2, x0, u0, hA3⟩ := z8 d8
        obtain ⟨D, a, n, c, ps, hc1, hc2, hc3⟩ := z5 d5
        subst hA1
        subst hc1
        obtain ⟨s0, s1, s2, s3, s4, _⟩ := old2 wz A0 24 _ _ (.int .i64 D) (.slice a n c) hA3
        have S4 := Lib.hid s4
        have HA3 := Lib.hid hA3
        have HA2 := Lib.hid hA2
        have Z := hinv
        clear hinv ho hbel hN hdeps s4 hA2 hA3 hc2 hc3 z0 z1 z2 z3 z4 z5 z6 z7 z8 z9 z10 z11 z12 z13 z14 z15 z16 z17
        go_simp
        obtain ⟨hN, hbel, z0, z1, z2, z3, z4, z5, z6, z7, z8, z9, z10, z11, z12, z13, z14, z15, z16, z17⟩ := Z.out
        have hA4 := heap_setCell_same wz A0 0 _ 24 (.int .i64 D) HA3.out
        simp only [List.setIfInBounds_toArray, List.set_cons_zero] at hA4
        exact hK _ _ ⟨_, _, _, _, _, _, _, _, _, rfl, Lib.hid ⟨by simpa using hN, (hbel.setCell (p := ⟨A0, 0, none⟩) HA2.out _).setCell (p := ⟨A0, 1, none⟩) HA2.out _, fun g0 => (z0 ((set_other (by decide)).symm.trans g0)), fun g0 => ((z1 ((set_other (by decide)).symm.trans g0)).set HA3.out).set hA4, fun g0 => (z2 ((set_other (by decide)).symm.trans g0)), fun g0 => ((z3 ((set_other (by decide)).symm.trans g0)).set HA3.out).set hA4, fun g0 => (z4 ((set_other (by decide)).symm.trans g0)), fun g0 => ((z5 ((set_other (by decide)).symm.trans g0)).set HA3.out).set hA4, fun g0 => ((z6 ((set_other (by decide)).symm.trans g0)).set (z10 d6 d8)).set (z10 d6 d8), fun g0 => ((z7 ((set_other (by decide)).symm.trans g0)).set (z11 d7 d8)).set (z11 d7 d8), fun _ => ⟨A0, rfl, HA2.out, _, _, S4.out⟩, fun g0 g1 => (z9 ((set_other (by decide)).symm.trans g0) ((set_other (by decide)).symm.trans g1)), fun g0 g1 => (z10 ((set_other (by decide)).symm.trans g0) ((set_other (by decide)).symm.trans g1)), fun g0 g1 => (z11 ((set_other (by decide)).symm.trans g0) ((set_other (by decide)).symm.trans g1)), fun g0 => ((z12 ((set_other (by decide)).symm.trans g0)).set (z10 d6 d8)).set (z10 d6 d8), fun g0 => ((z13 ((set_other (by decide)).symm.trans g0)).set (z11 d7 d8)).set (z11 d7 d8), fun _ => ⟨A0, D, .slice a n c, rfl, rfl, S4.out⟩, fun g0 => ⟨set_keep (z15 ((set_other (by decide)).symm.trans g0)).1, set_keep (z15 ((set_other (by decide)).symm.trans g0)).2⟩, fun g0 => ⟨set_keep (z16 ((set_other (by decide)).symm.trans g0)).1, set_keep (z16 ((set_other (by decide)).symm.trans g0)).2⟩, fun _ => ⟨set_keep d8, set_keep d5⟩⟩⟩
    case fin =>
      intro L a wz hI hr
      obtain ⟨y7, y8, y9, y14, y15, y16, y17, y18, y19, rfl, hinv⟩ := hI
      obtain ⟨hN, hbel, z0, z1, z2, z3, z4, z5, z6, z7, z8, z9, z10, z11, z12, z13, z14, z15, z16, z17⟩ := hinv.out
      have f0 : L[0]? = some true := by
        cases hb : L[0]? with
        | none => have := (Array.getElem?_eq_none_iff.1 hb); omega
        | some b =>
          cases b with
          | true => rfl
          | false =>
            exact (ready_nil hr hb (by rfl) (by simp [Region.binds])).elim
      have f1 : L[1]? = some true := by
        cases hb : L[1]? with
        | none => have := (Array.getElem?_eq_none_iff.1 hb); omega
        | some b =>
          cases b with
          | true => rfl
          | false =>
            exact (ready_nil hr hb (by rfl) (by simp [Region.binds, f0])).elim
      have f2 : L[2]? = some true := by
        cases hb : L[2]? with
        | none => have := (Array.getElem?_eq_none_iff.1 hb); omega
        | some b =>
          cases b with
          | true => rfl
          | false =>
            exact (ready_nil hr hb (by rfl) (by simp [Region.binds, f0, f1])).elim
      have f3 : L[3]? = some true := by
        cases hb : L[3]? with
        | none => have := (Array.getElem?_eq_none_iff.1 hb); omega
        | some b =>
          cases b with
          | true => rfl
          | false =>
            exact (ready_nil hr hb (by rfl) (by simp [Region.binds, f0, f1, f2])).elim
      have f4 : L[4]? = some true := by
        cases hb : L[4]? with
        | none => have := (Array.getElem?_eq_none_iff.1 hb); omega
        | some b =>
          cases b with
          | true => rfl
          | false =>
            exact (ready_nil hr hb (by rfl) (by simp [Region.binds, f0, f1, f2, f3])).elim
      have f5 : L[5]? = some true := by
        cases hb : L[5]? with
        | none => have := (Array.getElem?_eq_none_iff.1 hb); omega
        | some b =>
          cases b with
          | true => rfl
          | false =>
            exact (ready_nil hr hb (by rfl) (by simp [Region.binds, f0, f1, f2, f3, f4])).elim
      have f6 : L[6]? = some true := by
        cases hb : L[6]? with
        | none => have := (Array.getElem?_eq_none_iff.1 hb); omega
        | some b =>
          cases b with
          | true => rfl
          | false =>
            exact (ready_nil hr hb (by rfl) (by simp [Region.binds, f0, f1, f2, f3, f4, f5])).elim
      have f7 : L[7]? = some true := by
        cases hb : L[7]? with
        | none => have := (Array.getElem?_eq_none_iff.1 hb); omega
        | some b =>
          cases b with
          | true => rfl
          | false =>
            exact (ready_nil hr hb (by rfl) (by simp [Region.binds, f0, f1, f2, f3, f4, f5, f6])).elim
      have f8 : L[8]? = some true := by
        cases hb : L[8]? with
        | none => have := (Array.getElem?_eq_none_iff.1 hb); omega
        | some b =>
          cases b with
          | true => rfl
          | false =>
            exact (ready_nil hr hb (by rfl) (by simp [Region.binds, f0, f1, f2, f3, f4, f5, f6, f7])).elim
      have f9 : L[9]? = some true := by
        cases hb : L[9]? with
        | none => have := (Array.getElem?_eq_none_iff.1 hb); omega
        | some b =>
          cases b with
          | true => rfl
          | false =>
            exact (ready_nil hr hb (by rfl) (by simp [Region.binds, f0, f1, f2, f3, f4, f5, f6, f7, f8])).elim
      have f10 : L[10]? = some true := by
        cases hb : L[10]? with
        | none => have := (Array.getElem?_eq_none_iff.1 hb); omega
        | some b =>
          cases b with
          | true => rfl
          | false =>
            exact (ready_nil hr hb (by rfl) (by simp [Region.binds, f0, f1, f2, f3, f4, f5, f6, f7, f8, f9])).elim
      have f11 : L[11]? = some true := by
        cases hb : L[11]? with
        | none => have := (Array.getElem?_eq_none_iff.1 hb); omega
        | some b =>
          cases b with
          | true => rfl
          | false =>
            exact (ready_nil hr hb (by rfl) (by simp [Region.binds, f0, f1, f2, f3, f4, f5, f6, f7, f8, f9, f10])).elim
      obtain ⟨A0, D0, v0, hp0, hy0, hh0⟩ := z12 f9
      obtain ⟨D0', a0, n0, c0, ps0, hz0, hg0, ho0⟩ := z1 f1
      rw [hy0] at hz0
      obtain ⟨rfl, rfl⟩ : D0 = D0' ∧ v0 = .slice a0 n0 c0 := by simpa using hz0
      obtain ⟨A1, D1, v1, hp1, hy1, hh1⟩ := z13 f10
      obtain ⟨D1', a1, n1, c1, ps1, hz1, hg1, ho1⟩ := z3 f3
      rw [hy1] at hz1
      obtain ⟨rfl, rfl⟩ : D1 = D1' ∧ v1 = .slice a1 n1 c1 := by simpa using hz1
      obtain ⟨A2, D2, v2, hp2, hy2, hh2⟩ := z14 f11
      obtain ⟨D2', a2, n2, c2, ps2, hz2, hg2, ho2⟩ := z5 f5
      rw [hy2] at hz2
      obtain ⟨rfl, rfl⟩ : D2 = D2' ∧ v2 = .slice a2 n2 c2 := by simpa using hz2
      subst hp0 hp1 hp2
      have HF := Lib.hid (show Lbl wz A0 D0 (.slice a0 n0 c0) ps0 ∧ Lbl wz A1 D1 (.slice a1 n1 c1) ps1 ∧ Lbl wz A2 D2 (.slice a2 n2 c2) ps2 ∧ Lab.Fine D0 ps0 ∧ Lab.Fine D1 ps1 ∧ Lab.Fine D2 ps2 ∧ Below w1.heap.size w1 wz from ⟨⟨hh0, rc_of_owns ho0 (by have := hg0.2.2.2.2; omega)⟩, ⟨hh1, rc_of_owns ho1 (by have := hg1.2.2.2.2; omega)⟩, ⟨hh2, rc_of_owns ho2 (by have := hg2.2.2.2.2; omega)⟩, hg0, hg1, hg2, hbel⟩)
      go_wp2_with fail
      go_meet
      exact ⟨_, _, _, _, _, _, _, _, _, _, _, _, _, _, _, _, _, _, rfl, rfl, rfl, HF⟩
  case rest =>
    obtain ⟨A0, D0, ps0, a0, n0, c0, A1, D1, ps1, a1, n1, c1, A2, D2, ps2, a2, n2, c2, rfl, rfl, rfl, HF⟩ := hcut
    have HBw := Lib.hid (HS.out w1 (Below.refl _ _)).1
    clear HS SS C0 C1 C2 hcall HI0 HI1 HI2 HK HB HFit
    obtain ⟨X, rfl⟩ : ∃ X, X = wc := ⟨_, rfl⟩
    obtain ⟨L0, L1, L2, F0, F1, F2, hbx⟩ := HF.out
    have HX := Lib.hid (HBw.out.trans (hbx.mono HBw.out.size))
    have O0 := Lib.hid F0.1
    have l0 := F0.2.2.2.2
    have O1 := Lib.hid F1.1
    have l1 := F1.2.2.2.2
    have O2 := Lib.hid F2.1
    have l2 := F2.2.2.2.2
    obtain ⟨Mj, eMj⟩ : ∃ X, max D0 D1 = X := ⟨_, rfl⟩
    obtain ⟨Zj, eZj⟩ : ∃ X, Lab.jn D0 ps0 D1 ps1 = X := ⟨_, rfl⟩
    have Oj := Lib.hid (show Lab.Ok Mj Zj by rw [← eMj, ← eZj]; exact Lab.jn_ok O0.out O1.out)
    have lZj : Zj.length ≤ 24 := by rw [← eZj]; have := Lab.jn_len D0 ps0 D1 ps1; omega
    obtain ⟨Mm, eMm⟩ : ∃ X, min D0 D1 = X := ⟨_, rfl⟩
    obtain ⟨Zm, eZm⟩ : ∃ X, Lab.mt D0 ps0 D1 ps1 = X := ⟨_, rfl⟩
    have Om := Lib.hid (show Lab.Ok Mm Zm by rw [← eMm, ← eZm]; exact Lab.mt_ok O0.out O1.out)
    have lZm : Zm.length ≤ 24 := by rw [← eZm]; have := Lab.mt_len D0 ps0 D1 ps1; omega
    have KX := Lib.hid (fun (wx : World) (h : Below X.heap.size X wx) => (⟨(L0).below h, (L1).below h, (L2).below h, (HX.out).trans (h.mono (HX.out).size)⟩ : Lbl wx A0 D0 (.slice a0 n0 c0) ps0 ∧ Lbl wx A1 D1 (.slice a1 n1 c1) ps1 ∧ Lbl wx A2 D2 (.slice a2 n2 c2) ps2 ∧ Below w.heap.size w wx))
    have SC := Lib.hid (fun (wx : World) (h : Below X.heap.size X wx) => (⟨(KX.out wx h).1.cells.1, (KX.out wx h).1.cells.2, (KX.out wx h).2.1.cells.1, (KX.out wx h).2.1.cells.2, (KX.out wx h).2.2.1.cells.1, (KX.out wx h).2.2.1.cells.2⟩ : wx.cell? ⟨A0, 0, none⟩ = some (.int .i64 D0) ∧ wx.cell? ⟨A0, 1, none⟩ = some ((.slice a0 n0 c0)) ∧ wx.cell? ⟨A1, 0, none⟩ = some (.int .i64 D1) ∧ wx.cell? ⟨A1, 1, none⟩ = some ((.slice a1 n1 c1)) ∧ wx.cell? ⟨A2, 0, none⟩ = some (.int .i64 D2) ∧ wx.cell? ⟨A2, 1, none⟩ = some ((.slice a2 n2 c2))))
    have CJ := Lib.hid (fun (wx : World) (h : Below X.heap.size X wx) => lg5 (by rw [← eMj, ← eZj]; exact join_c O0.out O1.out (L0.below h).rc (L1.below h).rc (by omega) : Calls Try.prog 15 #[.agg #[.int .i64 D0, .slice a0 n0 c0], .agg #[.int .i64 D1, .slice a1 n1 c1]] wx (LG wx Mj Zj)))
    have CM := Lib.hid (fun (wx : World) (h : Below X.heap.size X wx) => lg5 (by rw [← eMm, ← eZm]; exact meet_c O0.out O1.out (L0.below h).rc (L1.below h).rc (by omega) : Calls Try.prog 16 #[.agg #[.int .i64 D0, .slice a0 n0 c0], .agg #[.int .i64 D1, .slice a1 n1 c1]] wx (LG wx Mm Zm)))
    obtain ⟨raj, hraj⟩ := bool_is (∀ c, Lab.at' D0 ps0 c ≤ Lab.at' Mj Zj c)
    have Qaj := Lib.hid (fun (W : World) (v0 v1 : Value) (r0 : RC W.heap.size W v0 ps0) (r1 : RC W.heap.size W v1 Zj) => (pleq_any D0 Mj v0 v1 ps0 Zj W O0.out Oj.out r0 r1 raj hraj : Calls Try.prog 31 #[.agg #[.int .i64 D0, v0], .agg #[.int .i64 Mj, v1]] W fun e w' => e = .returned (.bool raj) ∧ Below W.heap.size W w'))
    obtain ⟨rbj, hrbj⟩ := bool_is (∀ c, Lab.at' D1 ps1 c ≤ Lab.at' Mj Zj c)
    have Qbj := Lib.hid (fun (W : World) (v0 v1 : Value) (r0 : RC W.heap.size W v0 ps1) (r1 : RC W.heap.size W v1 Zj) => (pleq_any D1 Mj v0 v1 ps1 Zj W O1.out Oj.out r0 r1 rbj hrbj : Calls Try.prog 31 #[.agg #[.int .i64 D1, v0], .agg #[.int .i64 Mj, v1]] W fun e w' => e = .returned (.bool rbj) ∧ Below W.heap.size W w'))
    obtain ⟨rma, hrma⟩ := bool_is (∀ c, Lab.at' Mm Zm c ≤ Lab.at' D0 ps0 c)
    have Qma := Lib.hid (fun (W : World) (v0 v1 : Value) (r0 : RC W.heap.size W v0 Zm) (r1 : RC W.heap.size W v1 ps0) => (pleq_any Mm D0 v0 v1 Zm ps0 W Om.out O0.out r0 r1 rma hrma : Calls Try.prog 31 #[.agg #[.int .i64 Mm, v0], .agg #[.int .i64 D0, v1]] W fun e w' => e = .returned (.bool rma) ∧ Below W.heap.size W w'))
    obtain ⟨rmb, hrmb⟩ := bool_is (∀ c, Lab.at' Mm Zm c ≤ Lab.at' D1 ps1 c)
    have Qmb := Lib.hid (fun (W : World) (v0 v1 : Value) (r0 : RC W.heap.size W v0 Zm) (r1 : RC W.heap.size W v1 ps1) => (pleq_any Mm D1 v0 v1 Zm ps1 W Om.out O1.out r0 r1 rmb hrmb : Calls Try.prog 31 #[.agg #[.int .i64 Mm, v0], .agg #[.int .i64 D1, v1]] W fun e w' => e = .returned (.bool rmb) ∧ Below W.heap.size W w'))
    obtain ⟨rac, hrac⟩ := bool_is (∀ c, Lab.at' D0 ps0 c ≤ Lab.at' D2 ps2 c)
    have Qac := Lib.hid (fun (W : World) (v0 v1 : Value) (r0 : RC W.heap.size W v0 ps0) (r1 : RC W.heap.size W v1 ps2) => (pleq_any D0 D2 v0 v1 ps0 ps2 W O0.out O2.out r0 r1 rac hrac : Calls Try.prog 31 #[.agg #[.int .i64 D0, v0], .agg #[.int .i64 D2, v1]] W fun e w' => e = .returned (.bool rac) ∧ Below W.heap.size W w'))
    obtain ⟨rbc, hrbc⟩ := bool_is (∀ c, Lab.at' D1 ps1 c ≤ Lab.at' D2 ps2 c)
    have Qbc := Lib.hid (fun (W : World) (v0 v1 : Value) (r0 : RC W.heap.size W v0 ps1) (r1 : RC W.heap.size W v1 ps2) => (pleq_any D1 D2 v0 v1 ps1 ps2 W O1.out O2.out r0 r1 rbc hrbc : Calls Try.prog 31 #[.agg #[.int .i64 D1, v0], .agg #[.int .i64 D2, v1]] W fun e w' => e = .returned (.bool rbc) ∧ Below W.heap.size W w'))
    obtain ⟨rjc, hrjc⟩ := bool_is (∀ c, Lab.at' Mj Zj c ≤ Lab.at' D2 ps2 c)
    have Qjc := Lib.hid (fun (W : World) (v0 v1 : Value) (r0 : RC W.heap.size W v0 Zj) (r1 : RC W.heap.size W v1 ps2) => (pleq_any Mj D2 v0 v1 Zj ps2 W Oj.out O2.out r0 r1 rjc hrjc : Calls Try.prog 31 #[.agg #[.int .i64 Mj, v0], .agg #[.int .i64 D2, v1]] W fun e w' => e = .returned (.bool rjc) ∧ Below W.heap.size W w'))
    obtain ⟨rca, hrca⟩ := bool_is (∀ c, Lab.at' D2 ps2 c ≤ Lab.at' D0 ps0 c)
    have Qca := Lib.hid (fun (W : World) (v0 v1 : Value) (r0 : RC W.heap.size W v0 ps2) (r1 : RC W.heap.size W v1 ps0) => (pleq_any D2 D0 v0 v1 ps2 ps0 W O2.out O0.out r0 r1 rca hrca : Calls Try.prog 31 #[.agg #[.int .i64 D2, v0], .agg #[.int .i64 D0, v1]] W fun e w' => e = .returned (.bool rca) ∧ Below W.heap.size W w'))
    obtain ⟨rcb, hrcb⟩ := bool_is (∀ c, Lab.at' D2 ps2 c ≤ Lab.at' D1 ps1 c)
    have Qcb := Lib.hid (fun (W : World) (v0 v1 : Value) (r0 : RC W.heap.size W v0 ps2) (r1 : RC W.heap.size W v1 ps1) => (pleq_any D2 D1 v0 v1 ps2 ps1 W O2.out O1.out r0 r1 rcb hrcb : Calls Try.prog 31 #[.agg #[.int .i64 D2, v0], .agg #[.int .i64 D1, v1]] W fun e w' => e = .returned (.bool rcb) ∧ Below W.heap.size W w'))
    obtain ⟨rcm, hrcm⟩ := bool_is (∀ c, Lab.at' D2 ps2 c ≤ Lab.at' Mm Zm c)
    have Qcm := Lib.hid (fun (W : World) (v0 v1 : Value) (r0 : RC W.heap.size W v0 ps2) (r1 : RC W.heap.size W v1 Zm) => (pleq_any D2 Mm v0 v1 ps2 Zm W O2.out Om.out r0 r1 rcm hrcm : Calls Try.prog 31 #[.agg #[.int .i64 D2, v0], .agg #[.int .i64 Mm, v1]] W fun e w' => e = .returned (.bool rcm) ∧ Below W.heap.size W w'))
    obtain rfl : raj = true := hraj.2 (by rw [← eMj, ← eZj]; exact leq_jn_l O0.out O1.out)
    obtain rfl : rbj = true := hrbj.2 (by rw [← eMj, ← eZj]; exact leq_jn_r O0.out O1.out)
    obtain rfl : rma = true := hrma.2 (by rw [← eMm, ← eZm]; exact mt_leq_l O0.out O1.out)
    obtain rfl : rmb = true := hrmb.2 (by rw [← eMm, ← eZm]; exact mt_leq_r O0.out O1.out)
    have HC1 := Lib.hid (both_cases hrac hrbc hrjc (by rw [← eMj, ← eZj]; exact leq_jn O0.out O1.out))
    have HC2 := Lib.hid (both_cases hrca hrcb hrcm (by rw [← eMm, ← eZm]; exact leq_mt O0.out O1.out))
    have HL := Lib.hid (And.intro L0 (And.intro L1 L2))
    clear hraj hrbj hrma hrmb hrac hrbc hrjc hrca hrcb hrcm L0 L1 L2 F0 F1 F2 hbx HF HBw eMj eZj eMm eZm O0 O1 O2 Oj Om KX
    go_upto_region 4 with fail
    go_cut [10, 11, 20, 21, 22, 23, 24, 25] (fun s10 s11 s20 s21 s22 s23 s24 s25 wx => ∃ A3 A4 a3 n3 c3 a4 n4 c4, s10 = .pointer (some ⟨A3, 0, none⟩) ∧ s11 = .pointer (some ⟨A4, 0, none⟩) ∧ Hid (Lbl wx A3 Mj (.slice a3 n3 c3) Zj ∧ Lbl wx A4 Mm (.slice a4 n4 c4) Zm ∧ Below X.heap.size X wx))
    case first =>
      refine wp_region_any (by kernel_rfl) ?_
      refine wpAny_inv (I := fun L a wz => ∃ y10 y11 y20 y21 y22 y23 y24 y25 : Value, a = { tmps := #[.agg #[.int .i64 S0, .slice va0 vn0 vc0], .agg #[.int .i64 S1, .slice va1 vn1 vc1], .agg #[.int .i64 S2, .slice va2 vn2 vc2], .pointer (some ⟨w.heap.size, 0, none⟩), .pointer (some ⟨w.heap.size + 1, 0, none⟩), .pointer (some ⟨w.heap.size + 2, 0, none⟩), .bool false, .pointer (some ⟨A0, 0, none⟩), .pointer (some ⟨A1, 0, none⟩), .pointer (some ⟨A2, 0, none⟩), y10, y11, u12, u13, u14, u15, u16, u17, u18, u19, y20, y21, y22, y23, y24, y25, u26, u27, u28, u29, u30, u31, u32, u33, u34, u35, u36, u37, u38, u39, u40, u41, u42, u43, u44, u45, u46, u47, u48, u49, u50, u51, u52, u53, u54, u55, u56, u57, u58, u59, u60, u61, u62, u63, u64, u65, u66, u67, u68, u69, u70, u71, u72, u73, u74, u75, u76, u77, u78, u79, u80, u81, u82, u83], defers := [] } ∧ Hid (L.size = 10 ∧ Below X.heap.size X wz ∧ (L[0]? = some true → y20 = .agg #[.int .i64 D0, .slice a0 n0 c0]) ∧ (L[1]? = some true → y21 = .agg #[.int .i64 D1, .slice a1 n1 c1]) ∧ (L[2]? = some true → LV X wz (fun d z => d = Mj ∧ z = Zj) y22) ∧ (L[3]? = some true → y23 = .agg #[.int .i64 D0, .slice a0 n0 c0]) ∧ (L[4]? = some true → y24 = .agg #[.int .i64 D1, .slice a1 n1 c1]) ∧ (L[5]? = some true → LV X wz (fun d z => d = Mm ∧ z = Zm) y25) ∧ (L[6]? = some true → AV X wz y10) ∧ (L[7]? = some true → AV X wz y11) ∧ (L[6]? = some true → L[7]? = some true → y10 ≠ y11) ∧ (L[8]? = some true → SV wz y10 y22) ∧ (L[9]? = some true → SV wz y11 y25) ∧ (L[8]? = some true → (L[6]? = some true ∧ L[2]? = some true)) ∧ (L[9]? = some true → (L[7]? = some true ∧ L[5]? = some true)))) ?step ?fin _ _ _ _ ⟨_, _, _, _, _, _, _, _, rfl, Lib.hid ⟨by rfl, Below.drew (Below.refl _ _), gone (by rfl), gone (by rfl), gone (by rfl), gone (by rfl), gone (by rfl), gone (by rfl), gone (by rfl), gone (by rfl), gone (by rfl), gone (by rfl), gone (by rfl), gone (by rfl), gone (by rfl)⟩⟩ (by decide)
      case step =>
        intro L a wz i o hI ho hL hdeps K hK
        obtain ⟨y10, y11, y20, y21, y22, y23, y24, y25, rfl, hinv⟩ := hI
        have hi : i < 10 := by have := (Array.getElem?_eq_some_iff.1 ho).1; exact this
        obtain ⟨hN, hbel, z0, z1, z2, z3, z4, z5, z6, z7, z8, z9, z10, z11, z12⟩ := hinv.out
        obtain rfl | rfl | rfl | rfl | rfl | rfl | rfl | rfl | rfl | rfl : i = 0 ∨ i = 1 ∨ i = 2 ∨ i = 3 ∨ i = 4 ∨ i = 5 ∨ i = 6 ∨ i = 7 ∨ i = 8 ∨ i = 9 := by omega
        · obtain rfl := Option.some.inj ho
          obtain ⟨b0, b1, _⟩ := SC.out wz hbel
          clear ho
          have Z := hinv
          clear hinv hbel hN hdeps z0 z1 z2 z3 z4 z5 z6 z7 z8 z9 z10 z11 z12
          go_simp
          obtain ⟨hN, hbel, z0, z1, z2, z3, z4, z5, z6, z7, z8, z9, z10, z11, z12⟩ := Z.out
          exact hK _ _ ⟨_, _, _, _, _, _, _, _, rfl, Lib.hid ⟨by simpa using hN, hbel, fun _ => rfl, fun g0 => (z1 ((set_other (by decide)).symm.trans g0)), fun g0 => (z2 ((set_other (by decide)).symm.trans g0)), fun g0 => (z3 ((set_other (by decide)).symm.trans g0)), fun g0 => (z4 ((set_other (by decide)).symm.trans g0)), fun g0 => (z5 ((set_other (by decide)).symm.trans g0)), fun g0 => (z6 ((set_other (by decide)).symm.trans g0)), fun g0 => (z7 ((set_other (by decide)).symm.trans g0)), fun g0 g1 => (z8 ((set_other (by decide)).symm.trans g0) ((set_other (by decide)).symm.trans g1)), fun g0 => (z9 ((set_other (by decide)).symm.trans g0)), fun g0 => (z10 ((set_other (by decide)).symm.trans g0)), fun g0 => ⟨set_keep (z11 ((set_other (by decide)).symm.trans g0)).1, set_keep (z11 ((set_other (by decide)).symm.trans g0)).2⟩, fun g0 => ⟨set_keep (z12 ((set_other (by decide)).symm.trans g0)).1, set_keep (z12 ((set_other (by decide)).symm.trans g0)).2⟩⟩⟩
        · obtain rfl := Option.some.inj ho
          obtain ⟨_, _, b0, b1, _⟩ := SC.out wz hbel
          clear ho
          have Z := hinv
          clear hinv hbel hN hdeps z0 z1 z2 z3 z4 z5 z6 z7 z8 z9 z10 z11 z12
          go_simp
          obtain ⟨hN, hbel, z0, z1, z2, z3, z4, z5, z6, z7, z8, z9, z10, z11, z12⟩ := Z.out
          exact hK _ _ ⟨_, _, _, _, _, _, _, _, rfl, Lib.hid ⟨by simpa using hN, hbel, fun g0 => (z0 ((set_other (by decide)).symm.trans g0)), fun _ => rfl, fun g0 => (z2 ((set_other (by decide)).symm.trans g0)), fun g0 => (z3 ((set_other (by decide)).symm.trans g0)), fun g0 => (z4 ((set_other (by decide)).symm.trans g0)), fun g0 => (z5 ((set_other (by decide)).symm.trans g0)), fun g0 => (z6 ((set_other (by decide)).symm.trans g0)), fun g0 => (z7 ((set_other (by decide)).symm.trans g0)), fun g0 g1 => (z8 ((set_other (by decide)).symm.trans g0) ((set_other (by decide)).symm.trans g1)), fun g0 => (z9 ((set_other (by decide)).symm.trans g0)), fun g0 => (z10 ((set_other (by decide)).symm.trans g0)), fun g0 => ⟨set_keep (z11 ((set_other (by decide)).symm.trans g0)).1, set_keep (z11 ((set_other (by decide)).symm.trans g0)).2⟩, fun g0 => ⟨set_keep (z12 ((set_other (by decide)).symm.trans g0)).1, set_keep (z12 ((set_other (by decide)).symm.trans g0)).2⟩⟩⟩
        · obtain rfl := Option.some.inj ho
          have e0 := z0 (dep (by simp [Region.binds] at hdeps ⊢; simp [hdeps]))
          subst e0
          have e1 := z1 (dep (by simp [Region.binds] at hdeps ⊢; simp [hdeps]))
          subst e1
          have CC := Lib.hid (CJ.out wz hbel)
          have Z := hinv
          clear hinv ho hbel hN hdeps z0 z1 z2 z3 z4 z5 z6 z7 z8 z9 z10 z11 z12
          go_simp
          refine CC.out.mono ?_
          rintro e wq ⟨D, a, n, c, ps, rfl, hg, how, hb'⟩
          obtain ⟨hN, hbel, z0, z1, z2, z3, z4, z5, z6, z7, z8, z9, z10, z11, z12⟩ := Z.out
          exact hK _ _ ⟨_, _, _, _, _, _, _, _, rfl, Lib.hid ⟨by simpa using hN, hbel.trans (hb'.mono hbel.size), fun g0 => (z0 ((set_other (by decide)).symm.trans g0)), fun g0 => (z1 ((set_other (by decide)).symm.trans g0)), fun _ => ⟨D, a, n, c, ps, rfl, hg, owns_mono how hbel.size⟩, fun g0 => (z3 ((set_other (by decide)).symm.trans g0)), fun g0 => (z4 ((set_other (by decide)).symm.trans g0)), fun g0 => (z5 ((set_other (by decide)).symm.trans g0)).below hb', fun g0 => (z6 ((set_other (by decide)).symm.trans g0)).below hb', fun g0 => (z7 ((set_other (by decide)).symm.trans g0)).below hb', fun g0 g1 => (z8 ((set_other (by decide)).symm.trans g0) ((set_other (by decide)).symm.trans g1)), fun g0 => not_done hL (z11 ((set_other (by decide)).symm.trans g0)).2, fun g0 => (z10 ((set_other (by decide)).symm.trans g0)).below hb', fun g0 => ⟨set_keep (z11 ((set_other (by decide)).symm.trans g0)).1, set_keep (z11 ((set_other (by decide)).symm.trans g0)).2⟩, fun g0 => ⟨set_keep (z12 ((set_other (by decide)).symm.trans g0)).1, set_keep (z12 ((set_other (by decide)).symm.trans g0)).2⟩⟩⟩
        · obtain rfl := Option.some.inj ho
          obtain ⟨b0, b1, _⟩ := SC.out wz hbel
          clear ho
          have Z := hinv
          clear hinv hbel hN hdeps z0 z1 z2 z3 z4 z5 z6 z7 z8 z9 z10 z11 z12
          go_simp
          obtain ⟨hN, hbel, z0, z1, z2, z3, z4, z5, z6, z7, z8, z9, z10, z11, z12⟩ := Z.out
          exact hK _ _ ⟨_, _, _, _, _, _, _, _, rfl, Lib.hid ⟨by simpa using hN, hbel, fun g0 => (z0 ((set_other (by decide)).symm.trans g0)), fun g0 => (z1 ((set_other (by decide)).symm.trans g0)), fun g0 => (z2 ((set_other (by decide)).symm.trans g0)), fun _ => rfl, fun g0 => (z4 ((set_other (by decide)).symm.trans g0)), fun g0 => (z5 ((set_other (by decide)).symm.trans g0)), fun g0 => (z6 ((set_other (by decide)).symm.trans g0)), fun g0 => (z7 ((set_other (by decide)).symm.trans g0)), fun g0 g1 => (z8 ((set_other (by decide)).symm.trans g0) ((set_other (by decide)).symm.trans g1)), fun g0 => (z9 ((set_other (by decide)).symm.trans g0)), fun g0 => (z10 ((set_other (by decide)).symm.trans g0)), fun g0 => ⟨set_keep (z11 ((set_other (by decide)).symm.trans g0)).1, set_keep (z11 ((set_other (by decide)).symm.trans g0)).2⟩, fun g0 => ⟨set_keep (z12 ((set_other (by decide)).symm.trans g0)).1, set_keep (z12 ((set_other (by decide)).symm.trans g0)).2⟩⟩⟩
        · obtain rfl := Option.some.inj ho
          obtain ⟨_, _, b0, b1, _⟩ := SC.out wz hbel
          clear ho
          have Z := hinv
          clear hinv hbel hN hdeps z0 z1 z2 z3 z4 z5 z6 z7 z8 z9 z10 z11 z12
          go_simp
          obtain ⟨hN, hbel, z0, z1, z2, z3, z4, z5, z6, z7, z8, z9, z10, z11, z12⟩ := Z.out
          exact hK _ _ ⟨_, _, _, _, _, _, _, _, rfl, Lib.hid ⟨by simpa using hN, hbel, fun g0 => (z0 ((set_other (by decide)).symm.trans g0)), fun g0 => (z1 ((set_other (by decide)).symm.trans g0)), fun g0 => (z2 ((set_other (by decide)).symm.trans g0)), fun g0 => (z3 ((set_other (by decide)).symm.trans g0)), fun _ => rfl, fun g0 => (z5 ((set_other (by decide)).symm.trans g0)), fun g0 => (z6 ((set_other (by decide)).symm.trans g0)), fun g0 => (z7 ((set_other (by decide)).symm.trans g0)), fun g0 g1 => (z8 ((set_other (by decide)).symm.trans g0) ((set_other (by decide)).symm.trans g1)), fun g0 => (z9 ((set_other (by decide)).symm.trans g0)), fun g0 => (z10 ((set_other (by decide)).symm.trans g0)), fun g0 => ⟨set_keep (z11 ((set_other (by decide)).symm.trans g0)).1, set_keep (z11 ((set_other (by decide)).symm.trans g0)).2⟩, fun g0 => ⟨set_keep (z12 ((set_other (by decide)).symm.trans g0)).1, set_keep (z12 ((set_other (by decide)).symm.trans g0)).2⟩⟩⟩
        · obtain rfl := Option.some.inj ho
          have e3 := z3 (dep (by simp [Region.binds] at hdeps ⊢; simp [hdeps]))
          subst e3
          have e4 := z4 (dep (by simp [Region.binds] at hdeps ⊢; simp [hdeps]))
          subst e4
          have CC := Lib.hid (CM.out wz hbel)
          have Z := hinv
          clear hinv ho hbel hN hdeps z0 z1 z2 z3 z4 z5 z6 z7 z8 z9 z10 z11 z12
          go_simp
          refine CC.out.mono ?_
          rintro e wq ⟨D, a, n, c, ps, rfl, hg, how, hb'⟩
          obtain ⟨hN, hbel, z0, z1, z2, z3, z4, z5, z6, z7, z8, z9, z10, z11, z12⟩ := Z.out
          exact hK _ _ ⟨_, _, _, _, _, _, _, _, rfl, Lib.hid ⟨by simpa using hN, hbel.trans (hb'.mono hbel.size), fun g0 => (z0 ((set_other (by decide)).symm.trans g0)), fun g0 => (z1 ((set_other (by decide)).symm.trans g0)), fun g0 => (z2 ((set_other (by decide)).symm.trans g0)).below hb', fun g0 => (z3 ((set_other (by decide)).symm.trans g0)), fun g0 => (z4 ((set_other (by decide)).symm.trans g0)), fun _ => ⟨D, a, n, c, ps, rfl, hg, owns_mono how hbel.size⟩, fun g0 => (z6 ((set_other (by decide)).symm.trans g0)).below hb', fun g0 => (z7 ((set_other (by decide)).symm.trans g0)).below hb', fun g0 g1 => (z8 ((set_other (by decide)).symm.trans g0) ((set_other (by decide)).symm.trans g1)), fun g0 => (z9 ((set_other (by decide)).symm.trans g0)).below hb', fun g0 => not_done hL (z12 ((set_other (by decide)).symm.trans g0)).2, fun g0 => ⟨set_keep (z11 ((set_other (by decide)).symm.trans g0)).1, set_keep (z11 ((set_other (by decide)).symm.trans g0)).2⟩, fun g0 => ⟨set_keep (z12 ((set_other (by decide)).symm.trans g0)).1, set_keep (z12 ((set_other (by decide)).symm.trans g0)).2⟩⟩⟩
        · obtain rfl := Option.some.inj ho
          have Z := hinv
          clear hinv ho hbel hN hdeps z0 z1 z2 z3 z4 z5 z6 z7 z8 z9 z10 z11 z12
          go_simp
          obtain ⟨hN, hbel, z0, z1, z2, z3, z4, z5, z6, z7, z8, z9, z10, z11, z12⟩ := Z.out
          have hb' := below_alloc1 wz (Obj.cells #[.int .i64 0, .slice none 0 0] 24)
          exact hK _ _ ⟨_, _, _, _, _, _, _, _, rfl, Lib.hid ⟨by simpa using hN, hbel.trans (hb'.mono hbel.size), fun g0 => (z0 ((set_other (by decide)).symm.trans g0)), fun g0 => (z1 ((set_other (by decide)).symm.trans g0)), fun g0 => (z2 ((set_other (by decide)).symm.trans g0)).below hb', fun g0 => (z3 ((set_other (by decide)).symm.trans g0)), fun g0 => (z4 ((set_other (by decide)).symm.trans g0)), fun g0 => (z5 ((set_other (by decide)).symm.trans g0)).below hb', fun _ => AV.new _ _ _ _ hbel.size, fun g0 => (z7 ((set_other (by decide)).symm.trans g0)).below hb', fun g0 g1 => ((z7 ((set_other (by decide)).symm.trans g1)).ne).symm, fun g0 => not_done hL (z11 ((set_other (by decide)).symm.trans g0)).1, fun g0 => (z10 ((set_other (by decide)).symm.trans g0)).below hb', fun g0 => ⟨set_keep (z11 ((set_other (by decide)).symm.trans g0)).1, set_keep (z11 ((set_other (by decide)).symm.trans g0)).2⟩, fun g0 => ⟨set_keep (z12 ((set_other (by decide)).symm.trans g0)).1, set_keep (z12 ((set_other (by decide)).symm.trans g0)).2⟩⟩⟩
        · obtain rfl := Option.some.inj ho
          have Z := hinv
          clear hinv ho hbel hN hdeps z0 z1 z2 z3 z4 z5 z6 z7 z8 z9 z10 z11 z12
          go_simp
          obtain ⟨hN, hbel, z0, z1, z2, z3, z4, z5, z6, z7, z8, z9, z10, z11, z12⟩ := Z.out
          have hb' := below_alloc1 wz (Obj.cells #[.int .i64 0, .slice none 0 0] 24)
          exact hK _ _ ⟨_, _, _, _, _, _, _, _, rfl, Lib.hid ⟨by simpa using hN, hbel.trans (hb'.mono hbel.size), fun g0 => (z0 ((set_other (by decide)).symm.trans g0)), fun g0 => (z1 ((set_other (by decide)).symm.trans g0)), fun g0 => (z2 ((set_other (by decide)).symm.trans g0)).below hb', fun g0 => (z3 ((set_other (by decide)).symm.trans g0)), fun g0 => (z4 ((set_other (by decide)).symm.trans g0)), fun g0 => (z5 ((set_other (by decide)).symm.trans g0)).below hb', fun g0 => (z6 ((set_other (by decide)).symm.trans g0)).below hb', fun _ => AV.new _ _ _ _ hbel.size, fun g0 g1 => (z6 ((set_other (by decide)).symm.trans g0)).ne, fun g0 => (z9 ((set_other (by decide)).symm.trans g0)).below hb', fun g0 => not_done hL (z12 ((set_other (by decide)).symm.trans g0)).1, fun g0 => ⟨set_keep (z11 ((set_other (by decide)).symm.trans g0)).1, set_keep (z11 ((set_other (by decide)).symm.trans g0)).2⟩, fun g0 => ⟨set_keep (z12 ((set_other (by decide)).symm.trans g0)).1, set_keep (z12 ((set_other (by decide)).symm.trans g0)).2⟩⟩⟩
        · obtain rfl := Option.some.inj ho
          have hds : L[6]? = some true ∧ L[7]? = some true ∧ L[2]? = some true := by
            simp [Region.binds] at hdeps
            refine ⟨?_, ?_, ?_⟩ <;> (refine dep ?_; simp [hdeps])
          obtain ⟨d6, d7, d2⟩ := hds
          obtain ⟨A0, hA1, hA2, x0, u0, hA3⟩ := z6 d6
          obtain ⟨D, a, n, c, ps, hc1, hc2, hc3⟩ := z2 d2
          subst hA1
          subst hc1
          obtain ⟨s0, s1, s2, s3, s4, _⟩ := old2 wz A0 24 _ _ (.int .i64 D) (.slice a n c) hA3
          have S4 := Lib.hid s4
          have HA3 := Lib.hid hA3
          have HA2 := Lib.hid hA2
          have Z := hinv
          clear hinv ho hbel hN hdeps s4 hA2 hA3 hc2 hc3 z0 z1 z2 z3 z4 z5 z6 z7 z8 z9 z10 z11 z12
          go_simp
          obtain ⟨hN, hbel, z0, z1, z2, z3, z4, z5, z6, z7, z8, z9, z10, z11, z12⟩ := Z.out
          have hA4 := heap_setCell_same wz A0 0 _ 24 (.int .i64 D) HA3.out
          simp only [List.setIfInBounds_toArray, List.set_cons_zero] at hA4
          exact hK _ _ ⟨_, _, _, _, _, _, _, _, rfl, Lib.hid ⟨by simpa using hN, (hbel.setCell (p := ⟨A0, 0, none⟩) HA2.out _).setCell (p := ⟨A0, 1, none⟩) HA2.out _, fun g0 => (z0 ((set_other (by decide)).symm.trans g0)), fun g0 => (z1 ((set_other (by decide)).symm.trans g0)), fun g0 => ((z2 ((set_other (by decide)).symm.trans g0)).set HA3.out).set hA4, fun g0 => (z3 ((set_other (by decide)).symm.trans g0)), fun g0 => (z4 ((set_other (by decide)).symm.trans g0)), fun g0 => ((z5 ((set_other (by decide)).symm.trans g0)).set HA3.out).set hA4, fun _ => ⟨A0, rfl, HA2.out, _, _, S4.out⟩, fun g0 => ((z7 ((set_other (by decide)).symm.trans g0)).set ((z8 d6 d7)).symm).set ((z8 d6 d7)).symm, fun g0 g1 => (z8 ((set_other (by decide)).symm.trans g0) ((set_other (by decide)).symm.trans g1)), fun _ => ⟨A0, D, .slice a n c, rfl, rfl, S4.out⟩, fun g0 => ((z10 ((set_other (by decide)).symm.trans g0)).set ((z8 d6 d7)).symm).set ((z8 d6 d7)).symm, fun _ => ⟨set_keep d6, set_keep d2⟩, fun g0 => ⟨set_keep (z12 ((set_other (by decide)).symm.trans g0)).1, set_keep (z12 ((set_other (by decide)).symm.trans g0)).2⟩⟩⟩
        · obtain rfl := Option.some.inj ho
          have hds : L[7]? = some true ∧ L[6]? = some true ∧ L[5]? = some true := by
            simp [Region.binds] at hdeps
            refine ⟨?_, ?_, ?_⟩ <;> (refine dep ?_; simp [hdeps])
          obtain ⟨d7, d6, d5⟩ := hds
          obtain ⟨A0, hA1, hA2, x0, u0, hA3⟩ := z7 d7
          obtain ⟨D, a, n, c, ps, hc1, hc2, hc3⟩ := z5 d5
          subst hA1
          subst hc1
          obtain ⟨s0, s1, s2, s3, s4, _⟩ := old2 wz A0 24 _ _ (.int .i64 D) (.slice a n c) hA3
          have S4 := Lib.hid s4
          have HA3 := Lib.hid hA3
          have HA2 := Lib.hid hA2
          have Z := hinv
          clear hinv ho hbel hN hdeps s4 hA2 hA3 hc2 hc3 z0 z1 z2 z3 z4 z5 z6 z7 z8 z9 z10 z11 z12
          go_simp
          obtain ⟨hN, hbel, z0, z1, z2, z3, z4, z5, z6, z7, z8, z9, z10, z11, z12⟩ := Z.out
          have hA4 := heap_setCell_same wz A0 0 _ 24 (.int .i64 D) HA3.out
          simp only [List.setIfInBounds_toArray, List.set_cons_zero] at hA4
          exact hK _ _ ⟨_, _, _, _, _, _, _, _, rfl, Lib.hid ⟨by simpa using hN, (hbel.setCell (p := ⟨A0, 0, none⟩) HA2.out _).setCell (p := ⟨A0, 1, none⟩) HA2.out _, fun g0 => (z0 ((set_other (by decide)).symm.trans g0)), fun g0 => (z1 ((set_other (by decide)).symm.trans g0)), fun g0 => ((z2 ((set_other (by decide)).symm.trans g0)).set HA3.out).set hA4, fun g0 => (z3 ((set_other (by decide)).symm.trans g0)), fun g0 => (z4 ((set_other (by decide)).symm.trans g0)), fun g0 => ((z5 ((set_other (by decide)).symm.trans g0)).set HA3.out).set hA4, fun g0 => ((z6 ((set_other (by decide)).symm.trans g0)).set (z8 d6 d7)).set (z8 d6 d7), fun _ => ⟨A0, rfl, HA2.out, _, _, S4.out⟩, fun g0 g1 => (z8 ((set_other (by decide)).symm.trans g0) ((set_other (by decide)).symm.trans g1)), fun g0 => ((z9 ((set_other (by decide)).symm.trans g0)).set (z8 d6 d7)).set (z8 d6 d7), fun _ => ⟨A0, D, .slice a n c, rfl, rfl, S4.out⟩, fun g0 => ⟨set_keep (z11 ((set_other (by decide)).symm.trans g0)).1, set_keep (z11 ((set_other (by decide)).symm.trans g0)).2⟩, fun _ => ⟨set_keep d7, set_keep d5⟩⟩⟩
      case fin =>
        intro L a wz hI hr
        obtain ⟨y10, y11, y20, y21, y22, y23, y24, y25, rfl, hinv⟩ := hI
        obtain ⟨hN, hbel, z0, z1, z2, z3, z4, z5, z6, z7, z8, z9, z10, z11, z12⟩ := hinv.out
        have f0 : L[0]? = some true := by
          cases hb : L[0]? with
          | none => have := (Array.getElem?_eq_none_iff.1 hb); omega
          | some b =>
            cases b with
            | true => rfl
            | false =>
              exact (ready_nil hr hb (by rfl) (by simp [Region.binds])).elim
        have f1 : L[1]? = some true := by
          cases hb : L[1]? with
          | none => have := (Array.getElem?_eq_none_iff.1 hb); omega
          | some b =>
            cases b with
            | true => rfl
            | false =>
              exact (ready_nil hr hb (by rfl) (by simp [Region.binds, f0])).elim
        have f2 : L[2]? = some true := by
          cases hb : L[2]? with
          | none => have := (Array.getElem?_eq_none_iff.1 hb); omega
          | some b =>
            cases b with
            | true => rfl
            | false =>
              exact (ready_nil hr hb (by rfl) (by simp [Region.binds, f0, f1])).elim
        have f3 : L[3]? = some true := by
          cases hb : L[3]? with
          | none => have := (Array.getElem?_eq_none_iff.1 hb); omega
          | some b =>
            cases b with
            | true => rfl
            | false =>
              exact (ready_nil hr hb (by rfl) (by simp [Region.binds, f0, f1, f2])).elim
        have f4 : L[4]? = some true := by
          cases hb : L[4]? with
          | none => have := (Array.getElem?_eq_none_iff.1 hb); omega
          | some b =>
            cases b with
            | true => rfl
            | false =>
              exact (ready_nil hr hb (by rfl) (by simp [Region.binds, f0, f1, f2, f3])).elim
        have f5 : L[5]? = some true := by
          cases hb : L[5]? with
          | none => have := (Array.getElem?_eq_none_iff.1 hb); omega
          | some b =>
            cases b with
            | true => rfl
            | false =>
              exact (ready_nil hr hb (by rfl) (by simp [Region.binds, f0, f1, f2, f3, f4])).elim
        have f6 : L[6]? = some true := by
          cases hb : L[6]? with
          | none => have := (Array.getElem?_eq_none_iff.1 hb); omega
          | some b =>
            cases b with
            | true => rfl
            | false =>
              exact (ready_nil hr hb (by rfl) (by simp [Region.binds, f0, f1, f2, f3, f4, f5])).elim
        have f7 : L[7]? = some true := by
          cases hb : L[7]? with
          | none => have := (Array.getElem?_eq_none_iff.1 hb); omega
          | some b =>
            cases b with
            | true => rfl
            | false =>
              exact (ready_nil hr hb (by rfl) (by simp [Region.binds, f0, f1, f2, f3, f4, f5, f6])).elim
        have f8 : L[8]? = some true := by
          cases hb : L[8]? with
          | none => have := (Array.getElem?_eq_none_iff.1 hb); omega
          | some b =>
            cases b with
            | true => rfl
            | false =>
              exact (ready_nil hr hb (by rfl) (by simp [Region.binds, f0, f1, f2, f3, f4, f5, f6, f7])).elim
        have f9 : L[9]? = some true := by
          cases hb : L[9]? with
          | none => have := (Array.getElem?_eq_none_iff.1 hb); omega
          | some b =>
            cases b with
            | true => rfl
            | false =>
              exact (ready_nil hr hb (by rfl) (by simp [Region.binds, f0, f1, f2, f3, f4, f5, f6, f7, f8])).elim
        obtain ⟨A3, D3, v3, hp3, hy3, hh3⟩ := z9 f8
        obtain ⟨D3', a3, n3, c3, ps3, hz3, hg3, ho3⟩ := z2 f2
        rw [hy3] at hz3
        obtain ⟨rfl, rfl⟩ : D3 = D3' ∧ v3 = .slice a3 n3 c3 := by simpa using hz3
        obtain ⟨A4, D4, v4, hp4, hy4, hh4⟩ := z10 f9
        obtain ⟨D4', a4, n4, c4, ps4, hz4, hg4, ho4⟩ := z5 f5
        rw [hy4] at hz4
        obtain ⟨rfl, rfl⟩ : D4 = D4' ∧ v4 = .slice a4 n4 c4 := by simpa using hz4
        obtain ⟨rfl, rfl⟩ := hg3
        obtain ⟨rfl, rfl⟩ := hg4
        subst hp3 hp4
        have HF2 := Lib.hid (show Lbl wz A3 D3 (.slice a3 n3 c3) ps3 ∧ Lbl wz A4 D4 (.slice a4 n4 c4) ps4 ∧ Below X.heap.size X wz from ⟨⟨hh3, rc_of_owns ho3 (by omega)⟩, ⟨hh4, rc_of_owns ho4 (by omega)⟩, hbel⟩)
        go_wp2_with fail
        go_meet
        exact ⟨_, _, _, _, _, _, _, _, rfl, rfl, HF2⟩
    case rest =>
      obtain ⟨A3, A4, a3, n3, c3, a4, n4, c4, rfl, rfl, HF2⟩ := hcut
      obtain ⟨Y, rfl⟩ : ∃ Y, Y = wc := ⟨_, rfl⟩
      obtain ⟨U3, U4, hxy⟩ := HF2.out
      obtain ⟨L0, L1, L2⟩ := HL.out
      have HY := Lib.hid (HX.out.trans (hxy.mono HX.out.size))
      have KS := Lib.hid (fun (wx : World) (h : Below Y.heap.size Y wx) => (⟨(L0.below hxy).below h, (L1.below hxy).below h, (L2.below hxy).below h, (U3).below h, (U4).below h, (HY.out).trans (h.mono (HY.out).size)⟩ : Lbl wx A0 D0 (.slice a0 n0 c0) ps0 ∧ Lbl wx A1 D1 (.slice a1 n1 c1) ps1 ∧ Lbl wx A2 D2 (.slice a2 n2 c2) ps2 ∧ Lbl wx A3 Mj (.slice a3 n3 c3) Zj ∧ Lbl wx A4 Mm (.slice a4 n4 c4) Zm ∧ Below w.heap.size w wx))
      clear SC
      have SC := Lib.hid (fun (wx : World) (h : Below Y.heap.size Y wx) => (⟨(KS.out wx h).1.cells.1, (KS.out wx h).1.cells.2, (KS.out wx h).2.1.cells.1, (KS.out wx h).2.1.cells.2, (KS.out wx h).2.2.1.cells.1, (KS.out wx h).2.2.1.cells.2, (KS.out wx h).2.2.2.1.cells.1, (KS.out wx h).2.2.2.1.cells.2, (KS.out wx h).2.2.2.2.1.cells.1, (KS.out wx h).2.2.2.2.1.cells.2⟩ : wx.cell? ⟨A0, 0, none⟩ = some (.int .i64 D0) ∧ wx.cell? ⟨A0, 1, none⟩ = some ((.slice a0 n0 c0)) ∧ wx.cell? ⟨A1, 0, none⟩ = some (.int .i64 D1) ∧ wx.cell? ⟨A1, 1, none⟩ = some ((.slice a1 n1 c1)) ∧ wx.cell? ⟨A2, 0, none⟩ = some (.int .i64 D2) ∧ wx.cell? ⟨A2, 1, none⟩ = some ((.slice a2 n2 c2)) ∧ wx.cell? ⟨A3, 0, none⟩ = some (.int .i64 Mj) ∧ wx.cell? ⟨A3, 1, none⟩ = some ((.slice a3 n3 c3)) ∧ wx.cell? ⟨A4, 0, none⟩ = some (.int .i64 Mm) ∧ wx.cell? ⟨A4, 1, none⟩ = some ((.slice a4 n4 c4))))
      clear CJ CM HL HF2 U3 U4 hxy L0 L1 L2 HX HY
      have hcall := Lib.hid (Below.refl Y.heap.size Y)
      obtain ⟨q0a, q0b, q1a, q1b, q2a, q2b, q3a, q3b, q4a, q4b⟩ := SC.out _ hcall.out
      go_wp2_with fail
      refine (Qaj.out _ _ _ (KS.out _ hcall.out).1.rc (KS.out _ hcall.out).2.2.2.1.rc).mono ?_
      rintro e wq ⟨rfl, hb'⟩
      replace hcall := Lib.hid (hcall.out.trans (hb'.mono hcall.out.size))
      clear hb' q0a q0b q1a q1b q2a q2b q3a q3b q4a q4b
      obtain ⟨q0a, q0b, q1a, q1b, q2a, q2b, q3a, q3b, q4a, q4b⟩ := SC.out _ hcall.out
      go_wp2_with fail
      refine (Qbj.out _ _ _ (KS.out _ hcall.out).2.1.rc (KS.out _ hcall.out).2.2.2.1.rc).mono ?_
      rintro e wq ⟨rfl, hb'⟩
      replace hcall := Lib.hid (hcall.out.trans (hb'.mono hcall.out.size))
      clear hb' q0a q0b q1a q1b q2a q2b q3a q3b q4a q4b
      obtain ⟨q0a, q0b, q1a, q1b, q2a, q2b, q3a, q3b, q4a, q4b⟩ := SC.out _ hcall.out
      go_wp2_with fail
      refine (Qma.out _ _ _ (KS.out _ hcall.out).2.2.2.2.1.rc (KS.out _ hcall.out).1.rc).mono ?_
      rintro e wq ⟨rfl, hb'⟩
      replace hcall := Lib.hid (hcall.out.trans (hb'.mono hcall.out.size))
      clear hb' q0a q0b q1a q1b q2a q2b q3a q3b q4a q4b
      obtain ⟨q0a, q0b, q1a, q1b, q2a, q2b, q3a, q3b, q4a, q4b⟩ := SC.out _ hcall.out
      go_wp2_with fail
      refine (Qmb.out _ _ _ (KS.out _ hcall.out).2.2.2.2.1.rc (KS.out _ hcall.out).2.1.rc).mono ?_
      rintro e wq ⟨rfl, hb'⟩
      replace hcall := Lib.hid (hcall.out.trans (hb'.mono hcall.out.size))
      clear hb' q0a q0b q1a q1b q2a q2b q3a q3b q4a q4b
      obtain ⟨q0a, q0b, q1a, q1b, q2a, q2b, q3a, q3b, q4a, q4b⟩ := SC.out _ hcall.out
      go_upto_region 7 with fail
      replace hcall := Lib.hid hcall.out.drew
      clear Qaj Qbj Qma Qmb q0a q0b q1a q1b q2a q2b q3a q3b q4a q4b
      go_cut [48, 49, 50, 51, 52, 53, 54, 55, 56, 57, 58, 59, 60, 61, 62, 63, 64, 65, 66, 67, 68, 69, 70] (fun s48 s49 s50 s51 s52 s53 s54 s55 s56 s57 s58 s59 s60 s61 s62 s63 s64 s65 s66 s67 s68 s69 s70 wx => s70 = .bool false ∧ Hid (Below Y.heap.size Y wx))
      case first =>
        rcases HC1.out with ⟨rfl, rfl⟩ | ⟨rfl, rfl, rfl⟩ | ⟨rfl, rfl, rfl⟩
        · clear HC1
          refine wp_region_held_drew (S := fun w' => w'.cell? ⟨A0, 0, none⟩ = some (.int .i64 D0) ∧ w'.cell? ⟨A0, 1, none⟩ = some ((.slice a0 n0 c0)) ∧ w'.cell? ⟨A1, 0, none⟩ = some (.int .i64 D1) ∧ w'.cell? ⟨A1, 1, none⟩ = some ((.slice a1 n1 c1)) ∧ w'.cell? ⟨A2, 0, none⟩ = some (.int .i64 D2) ∧ w'.cell? ⟨A2, 1, none⟩ = some ((.slice a2 n2 c2)) ∧ w'.cell? ⟨A3, 0, none⟩ = some (.int .i64 Mj) ∧ w'.cell? ⟨A3, 1, none⟩ = some ((.slice a3 n3 c3)) ∧ w'.cell? ⟨A4, 0, none⟩ = some (.int .i64 Mm) ∧ w'.cell? ⟨A4, 1, none⟩ = some ((.slice a4 n4 c4))) (by kernel_rfl) (SC.out _ hcall.out) (fun hHeld => ?_)
          refine wpAnyH_take (i := 0) (oi := { dst := some 48, op := Op.load 24 (Operand.tmp 7), type := 24, pos := "law.go:96", after := #[], guard := none }) (v := ?vv1) rfl (by kernel_rfl) (by kernel_rfl) (by kernel_rfl) (fun _ _ _ h => h) (Or.inl ⟨by rfl, ?hy1⟩) hHeld ?rest1
          case hy1 => (intro wS hSw; (try dsimp only at hSw); go_simp; try with_reducible rfl)
          simp only [Act.put, List.setIfInBounds_toArray, List.set_cons_zero, List.set_cons_succ]
          refine wpAnyH_take (i := 1) (oi := { dst := some 49, op := Op.load 24 (Operand.tmp 9), type := 24, pos := "law.go:96", after := #[], guard := none }) (v := ?vv2) rfl (by kernel_rfl) (by kernel_rfl) (by kernel_rfl) (fun _ _ _ h => h) (Or.inl ⟨by rfl, ?hy2⟩) hHeld ?rest2
          case hy2 => (intro wS hSw; (try dsimp only at hSw); go_simp; try with_reducible rfl)
          simp only [Act.put, List.setIfInBounds_toArray, List.set_cons_zero, List.set_cons_succ]
          refine wpAnyH_ready (rs := [2]) (by kernel_rfl) (by simp) ?_
          refine AllReadyH.cons (o := { dst := some 50, op := Op.call { callee := Callee.value (Operand.func 31), args := #[Operand.tmp 48, Operand.tmp 49], argTypes := #[24, 24] }, type := 4, pos := "law.go:96", after := #[{ on := 0, ground := Ground.data }, { on := 1, ground := Ground.data }], guard := none }) rfl (fun K hK => ?_) AllReadyH.nil
          go_simp
          with_reducible refine (Qac.out _ _ _ (KS.out _ hcall.out).1.rc (KS.out _ hcall.out).2.2.1.rc).mono ?_
          rintro e wq ⟨rfl, hb'⟩
          replace hcall := Lib.hid (hcall.out.trans (hb'.mono hcall.out.size))
          clear hb' hHeld
          try go_wp2_with fail
          refine hK.out _ _ (SC.out _ hcall.out) (fun hHeld => ?_)
          clear hK K
          try simp only [Act.put, List.setIfInBounds_toArray, List.set_cons_zero, List.set_cons_succ]
          refine wpAnyH_take (i := 3) (oi := { dst := some 51, op := Op.move (Operand.tmp 50), type := 4, pos := "law.go:96", after := #[{ on := 2, ground := Ground.data }, { on := 2, ground := Ground.chain }], guard := none }) (v := ?vv3) rfl (by kernel_rfl) (by kernel_rfl) (by kernel_rfl) (fun _ _ _ h => h) (Or.inl ⟨by rfl, ?hy3⟩) hHeld ?rest3
          case hy3 => (intro wS hSw; (try dsimp only at hSw); go_simp; try with_reducible rfl)
          simp only [Act.put, List.setIfInBounds_toArray, List.set_cons_zero, List.set_cons_succ]
          refine wpAnyH_take (i := 4) (oi := { dst := some 52, op := Op.load 24 (Operand.tmp 8), type := 24, pos := "law.go:96", after := #[{ on := 3, ground := Ground.guard }], guard := some (3, true) }) (v := undef) rfl (by kernel_rfl) (by kernel_rfl) (by kernel_rfl) (fun _ _ _ h => h) (Or.inr ⟨by rfl, rfl⟩) hHeld ?_
          simp only [Act.put, List.setIfInBounds_toArray, List.set_cons_zero, List.set_cons_succ]
          refine wpAnyH_take (i := 5) (oi := { dst := some 53, op := Op.load 24 (Operand.tmp 9), type := 24, pos := "law.go:96", after := #[{ on := 3, ground := Ground.guard }], guard := some (3, true) }) (v := undef) rfl (by kernel_rfl) (by kernel_rfl) (by kernel_rfl) (fun _ _ _ h => h) (Or.inr ⟨by rfl, rfl⟩) hHeld ?_
          simp only [Act.put, List.setIfInBounds_toArray, List.set_cons_zero, List.set_cons_succ]
          refine wpAnyH_take (i := 6) (oi := { dst := some 54, op := Op.call { callee := Callee.value (Operand.func 31), args := #[Operand.tmp 52, Operand.tmp 53], argTypes := #[24, 24] }, type := 4, pos := "law.go:96", after := #[{ on := 4, ground := Ground.data }, { on := 5, ground := Ground.data }, { on := 3, ground := Ground.chain }, { on := 3, ground := Ground.guard }], guard := some (3, true) }) (v := undef) rfl (by kernel_rfl) (by kernel_rfl) (by kernel_rfl) (fun _ _ _ h => h) (Or.inr ⟨by rfl, rfl⟩) hHeld ?_
          simp only [Act.put, List.setIfInBounds_toArray, List.set_cons_zero, List.set_cons_succ]
          refine wpAnyH_take (i := 7) (oi := { dst := some 55, op := Op.load 24 (Operand.tmp 10), type := 24, pos := "law.go:96", after := #[{ on := 3, ground := Ground.guard }], guard := some (3, true) }) (v := undef) rfl (by kernel_rfl) (by kernel_rfl) (by kernel_rfl) (fun _ _ _ h => h) (Or.inr ⟨by rfl, rfl⟩) hHeld ?_
          simp only [Act.put, List.setIfInBounds_toArray, List.set_cons_zero, List.set_cons_succ]
          refine wpAnyH_take (i := 8) (oi := { dst := some 56, op := Op.load 24 (Operand.tmp 9), type := 24, pos := "law.go:96", after := #[{ on := 3, ground := Ground.guard }], guard := some (3, true) }) (v := undef) rfl (by kernel_rfl) (by kernel_rfl) (by kernel_rfl) (fun _ _ _ h => h) (Or.inr ⟨by rfl, rfl⟩) hHeld ?_
          simp only [Act.put, List.setIfInBounds_toArray, List.set_cons_zero, List.set_cons_succ]
          refine wpAnyH_take (i := 9) (oi := { dst := some 57, op := Op.call { callee := Callee.value (Operand.func 31), args := #[Operand.tmp 55, Operand.tmp 56], argTypes := #[24, 24] }, type := 4, pos := "law.go:96", after := #[{ on := 7, ground := Ground.data }, { on := 8, ground := Ground.data }, { on := 6, ground := Ground.chain }, { on := 3, ground := Ground.guard }], guard := some (3, true) }) (v := undef) rfl (by kernel_rfl) (by kernel_rfl) (by kernel_rfl) (fun _ _ _ h => h) (Or.inr ⟨by rfl, rfl⟩) hHeld ?_
          simp only [Act.put, List.setIfInBounds_toArray, List.set_cons_zero, List.set_cons_succ]
          refine wpAnyH_take (i := 10) (oi := { dst := some 58, op := Op.binOp BinOp.neq 4 (Operand.tmp 54) (Operand.tmp 57) 4, type := 4, pos := "law.go:96", after := #[{ on := 6, ground := Ground.data }, { on := 9, ground := Ground.data }, { on := 3, ground := Ground.guard }], guard := some (3, true) }) (v := undef) rfl (by kernel_rfl) (by kernel_rfl) (by kernel_rfl) (fun _ _ _ h => h) (Or.inr ⟨by rfl, rfl⟩) hHeld ?_
          simp only [Act.put, List.setIfInBounds_toArray, List.set_cons_zero, List.set_cons_succ]
          refine wpAnyH_take (i := 11) (oi := { dst := some 59, op := Op.pick (Operand.tmp 51) (Operand.tmp 58) (Operand.const (Value.bool false)), type := 4, pos := "law.go:96", after := #[{ on := 3, ground := Ground.data }, { on := 10, ground := Ground.data }], guard := none }) (v := ?vv4) rfl (by kernel_rfl) (by kernel_rfl) (by kernel_rfl) (fun _ _ _ h => h) (Or.inl ⟨by rfl, ?hy4⟩) hHeld ?rest4
          case hy4 => (intro wS hSw; (try dsimp only at hSw); go_simp; try with_reducible rfl)
          simp only [Act.put, List.setIfInBounds_toArray, List.set_cons_zero, List.set_cons_succ]
          refine wpAnyH_take (i := 12) (oi := { dst := some 60, op := Op.move (Operand.tmp 59), type := 4, pos := "law.go:96", after := #[{ on := 11, ground := Ground.data }, { on := 9, ground := Ground.chain }], guard := none }) (v := ?vv5) rfl (by kernel_rfl) (by kernel_rfl) (by kernel_rfl) (fun _ _ _ h => h) (Or.inl ⟨by rfl, ?hy5⟩) hHeld ?rest5
          case hy5 => (intro wS hSw; (try dsimp only at hSw); go_simp; try with_reducible rfl)
          simp only [Act.put, List.setIfInBounds_toArray, List.set_cons_zero, List.set_cons_succ]
          refine wpAnyH_take (i := 13) (oi := { dst := some 61, op := Op.load 24 (Operand.tmp 10), type := 24, pos := "law.go:96", after := #[{ on := 12, ground := Ground.guard }], guard := some (12, false) }) (v := ?vv6) rfl (by kernel_rfl) (by kernel_rfl) (by kernel_rfl) (fun _ _ _ h => h) (Or.inl ⟨by rfl, ?hy6⟩) hHeld ?rest6
          case hy6 => (intro wS hSw; (try dsimp only at hSw); go_simp; try with_reducible rfl)
          simp only [Act.put, List.setIfInBounds_toArray, List.set_cons_zero, List.set_cons_succ]
          refine wpAnyH_take (i := 14) (oi := { dst := some 62, op := Op.load 24 (Operand.tmp 9), type := 24, pos := "law.go:96", after := #[{ on := 12, ground := Ground.guard }], guard := some (12, false) }) (v := ?vv7) rfl (by kernel_rfl) (by kernel_rfl) (by kernel_rfl) (fun _ _ _ h => h) (Or.inl ⟨by rfl, ?hy7⟩) hHeld ?rest7
          case hy7 => (intro wS hSw; (try dsimp only at hSw); go_simp; try with_reducible rfl)
          simp only [Act.put, List.setIfInBounds_toArray, List.set_cons_zero, List.set_cons_succ]
          refine wpAnyH_ready (rs := [15]) (by kernel_rfl) (by simp) ?_
          refine AllReadyH.cons (o := { dst := some 63, op := Op.call { callee := Callee.value (Operand.func 31), args := #[Operand.tmp 61, Operand.tmp 62], argTypes := #[24, 24] }, type := 4, pos := "law.go:96", after := #[{ on := 13, ground := Ground.data }, { on := 14, ground := Ground.data }, { on := 12, ground := Ground.chain }, { on := 12, ground := Ground.guard }], guard := some (12, false) }) rfl (fun K hK => ?_) AllReadyH.nil
          go_simp
          with_reducible refine (Qjc.out _ _ _ (KS.out _ hcall.out).2.2.2.1.rc (KS.out _ hcall.out).2.2.1.rc).mono ?_
          rintro e wq ⟨rfl, hb'⟩
          replace hcall := Lib.hid (hcall.out.trans (hb'.mono hcall.out.size))
          clear hb' hHeld
          try go_wp2_with fail
          refine hK.out _ _ (SC.out _ hcall.out) (fun hHeld => ?_)
          clear hK K
          try simp only [Act.put, List.setIfInBounds_toArray, List.set_cons_zero, List.set_cons_succ]
          refine wpAnyH_take (i := 16) (oi := { dst := some 64, op := Op.move (Operand.tmp 63), type := 4, pos := "law.go:96", after := #[{ on := 15, ground := Ground.data }, { on := 15, ground := Ground.chain }, { on := 12, ground := Ground.guard }], guard := some (12, false) }) (v := ?vv8) rfl (by kernel_rfl) (by kernel_rfl) (by kernel_rfl) (fun _ _ _ h => h) (Or.inl ⟨by rfl, ?hy8⟩) hHeld ?rest8
          case hy8 => (intro wS hSw; (try dsimp only at hSw); go_simp; try with_reducible rfl)
          simp only [Act.put, List.setIfInBounds_toArray, List.set_cons_zero, List.set_cons_succ]
          refine wpAnyH_take (i := 17) (oi := { dst := some 65, op := Op.load 24 (Operand.tmp 8), type := 24, pos := "law.go:96", after := #[{ on := 16, ground := Ground.guard }], guard := some (16, true) }) (v := undef) rfl (by kernel_rfl) (by kernel_rfl) (by kernel_rfl) (fun _ _ _ h => h) (Or.inr ⟨by rfl, rfl⟩) hHeld ?_
          simp only [Act.put, List.setIfInBounds_toArray, List.set_cons_zero, List.set_cons_succ]
          refine wpAnyH_take (i := 18) (oi := { dst := some 66, op := Op.load 24 (Operand.tmp 9), type := 24, pos := "law.go:96", after := #[{ on := 16, ground := Ground.guard }], guard := some (16, true) }) (v := undef) rfl (by kernel_rfl) (by kernel_rfl) (by kernel_rfl) (fun _ _ _ h => h) (Or.inr ⟨by rfl, rfl⟩) hHeld ?_
          simp only [Act.put, List.setIfInBounds_toArray, List.set_cons_zero, List.set_cons_succ]
          refine wpAnyH_take (i := 19) (oi := { dst := some 67, op := Op.call { callee := Callee.value (Operand.func 31), args := #[Operand.tmp 65, Operand.tmp 66], argTypes := #[24, 24] }, type := 4, pos := "law.go:96", after := #[{ on := 17, ground := Ground.data }, { on := 18, ground := Ground.data }, { on := 16, ground := Ground.chain }, { on := 16, ground := Ground.guard }], guard := some (16, true) }) (v := undef) rfl (by kernel_rfl) (by kernel_rfl) (by kernel_rfl) (fun _ _ _ h => h) (Or.inr ⟨by rfl, rfl⟩) hHeld ?_
          simp only [Act.put, List.setIfInBounds_toArray, List.set_cons_zero, List.set_cons_succ]
          refine wpAnyH_take (i := 20) (oi := { dst := some 68, op := Op.unOp UnOp.not 4 (Operand.tmp 67), type := 4, pos := "law.go:96", after := #[{ on := 19, ground := Ground.data }, { on := 16, ground := Ground.guard }], guard := some (16, true) }) (v := undef) rfl (by kernel_rfl) (by kernel_rfl) (by kernel_rfl) (fun _ _ _ h => h) (Or.inr ⟨by rfl, rfl⟩) hHeld ?_
          simp only [Act.put, List.setIfInBounds_toArray, List.set_cons_zero, List.set_cons_succ]
          refine wpAnyH_take (i := 21) (oi := { dst := some 69, op := Op.pick (Operand.tmp 64) (Operand.tmp 68) (Operand.const (Value.bool false)), type := 4, pos := "law.go:96", after := #[{ on := 16, ground := Ground.data }, { on := 20, ground := Ground.data }, { on := 12, ground := Ground.guard }], guard := some (12, false) }) (v := ?vv9) rfl (by kernel_rfl) (by kernel_rfl) (by kernel_rfl) (fun _ _ _ h => h) (Or.inl ⟨by rfl, ?hy9⟩) hHeld ?rest9
          case hy9 => (intro wS hSw; (try dsimp only at hSw); go_simp; try with_reducible rfl)
          simp only [Act.put, List.setIfInBounds_toArray, List.set_cons_zero, List.set_cons_succ]
          refine wpAnyH_take (i := 22) (oi := { dst := some 70, op := Op.pick (Operand.tmp 60) (Operand.const (Value.bool true)) (Operand.tmp 69), type := 4, pos := "law.go:96", after := #[{ on := 12, ground := Ground.data }, { on := 21, ground := Ground.data }], guard := none }) (v := ?vv10) rfl (by kernel_rfl) (by kernel_rfl) (by kernel_rfl) (fun _ _ _ h => h) (Or.inl ⟨by rfl, ?hy10⟩) hHeld ?rest10
          case hy10 => (intro wS hSw; (try dsimp only at hSw); go_simp; try with_reducible rfl)
          simp only [Act.put, List.setIfInBounds_toArray, List.set_cons_zero, List.set_cons_succ]
          refine wpAnyH_done (by kernel_rfl) ?_ _
          all_goals
            go_wp2_with fail
            go_meet
            exact ⟨by first | rfl | simp, Lib.hid hcall.out⟩
        · clear HC1
          refine wp_region_held_drew (S := fun w' => w'.cell? ⟨A0, 0, none⟩ = some (.int .i64 D0) ∧ w'.cell? ⟨A0, 1, none⟩ = some ((.slice a0 n0 c0)) ∧ w'.cell? ⟨A1, 0, none⟩ = some (.int .i64 D1) ∧ w'.cell? ⟨A1, 1, none⟩ = some ((.slice a1 n1 c1)) ∧ w'.cell? ⟨A2, 0, none⟩ = some (.int .i64 D2) ∧ w'.cell? ⟨A2, 1, none⟩ = some ((.slice a2 n2 c2)) ∧ w'.cell? ⟨A3, 0, none⟩ = some (.int .i64 Mj) ∧ w'.cell? ⟨A3, 1, none⟩ = some ((.slice a3 n3 c3)) ∧ w'.cell? ⟨A4, 0, none⟩ = some (.int .i64 Mm) ∧ w'.cell? ⟨A4, 1, none⟩ = some ((.slice a4 n4 c4))) (by kernel_rfl) (SC.out _ hcall.out) (fun hHeld => ?_)
          refine wpAnyH_take (i := 0) (oi := { dst := some 48, op := Op.load 24 (Operand.tmp 7), type := 24, pos := "law.go:96", after := #[], guard := none }) (v := ?vv11) rfl (by kernel_rfl) (by kernel_rfl) (by kernel_rfl) (fun _ _ _ h => h) (Or.inl ⟨by rfl, ?hy11⟩) hHeld ?rest11
          case hy11 => (intro wS hSw; (try dsimp only at hSw); go_simp; try with_reducible rfl)
          simp only [Act.put, List.setIfInBounds_toArray, List.set_cons_zero, List.set_cons_succ]
          refine wpAnyH_take (i := 1) (oi := { dst := some 49, op := Op.load 24 (Operand.tmp 9), type := 24, pos := "law.go:96", after := #[], guard := none }) (v := ?vv12) rfl (by kernel_rfl) (by kernel_rfl) (by kernel_rfl) (fun _ _ _ h => h) (Or.inl ⟨by rfl, ?hy12⟩) hHeld ?rest12
          case hy12 => (intro wS hSw; (try dsimp only at hSw); go_simp; try with_reducible rfl)
          simp only [Act.put, List.setIfInBounds_toArray, List.set_cons_zero, List.set_cons_succ]
          refine wpAnyH_ready (rs := [2]) (by kernel_rfl) (by simp) ?_
          refine AllReadyH.cons (o := { dst := some 50, op := Op.call { callee := Callee.value (Operand.func 31), args := #[Operand.tmp 48, Operand.tmp 49], argTypes := #[24, 24] }, type := 4, pos := "law.go:96", after := #[{ on := 0, ground := Ground.data }, { on := 1, ground := Ground.data }], guard := none }) rfl (fun K hK => ?_) AllReadyH.nil
          go_simp
          with_reducible refine (Qac.out _ _ _ (KS.out _ hcall.out).1.rc (KS.out _ hcall.out).2.2.1.rc).mono ?_
          rintro e wq ⟨rfl, hb'⟩
          replace hcall := Lib.hid (hcall.out.trans (hb'.mono hcall.out.size))
          clear hb' hHeld
          try go_wp2_with fail
          refine hK.out _ _ (SC.out _ hcall.out) (fun hHeld => ?_)
          clear hK K
          try simp only [Act.put, List.setIfInBounds_toArray, List.set_cons_zero, List.set_cons_succ]
          refine wpAnyH_take (i := 3) (oi := { dst := some 51, op := Op.move (Operand.tmp 50), type := 4, pos := "law.go:96", after := #[{ on := 2, ground := Ground.data }, { on := 2, ground := Ground.chain }], guard := none }) (v := ?vv13) rfl (by kernel_rfl) (by kernel_rfl) (by kernel_rfl) (fun _ _ _ h => h) (Or.inl ⟨by rfl, ?hy13⟩) hHeld ?rest13
          case hy13 => (intro wS hSw; (try dsimp only at hSw); go_simp; try with_reducible rfl)
          simp only [Act.put, List.setIfInBounds_toArray, List.set_cons_zero, List.set_cons_succ]
          refine wpAnyH_take (i := 4) (oi := { dst := some 52, op := Op.load 24 (Operand.tmp 8), type := 24, pos := "law.go:96", after := #[{ on := 3, ground := Ground.guard }], guard := some (3, true) }) (v := ?vv14) rfl (by kernel_rfl) (by kernel_rfl) (by kernel_rfl) (fun _ _ _ h => h) (Or.inl ⟨by rfl, ?hy14⟩) hHeld ?rest14
          case hy14 => (intro wS hSw; (try dsimp only at hSw); go_simp; try with_reducible rfl)
          simp only [Act.put, List.setIfInBounds_toArray, List.set_cons_zero, List.set_cons_succ]
          refine wpAnyH_take (i := 5) (oi := { dst := some 53, op := Op.load 24 (Operand.tmp 9), type := 24, pos := "law.go:96", after := #[{ on := 3, ground := Ground.guard }], guard := some (3, true) }) (v := ?vv15) rfl (by kernel_rfl) (by kernel_rfl) (by kernel_rfl) (fun _ _ _ h => h) (Or.inl ⟨by rfl, ?hy15⟩) hHeld ?rest15
          case hy15 => (intro wS hSw; (try dsimp only at hSw); go_simp; try with_reducible rfl)
          simp only [Act.put, List.setIfInBounds_toArray, List.set_cons_zero, List.set_cons_succ]
          refine wpAnyH_take (i := 7) (oi := { dst := some 55, op := Op.load 24 (Operand.tmp 10), type := 24, pos := "law.go:96", after := #[{ on := 3, ground := Ground.guard }], guard := some (3, true) }) (v := ?vv16) rfl (by kernel_rfl) (by kernel_rfl) (by kernel_rfl) (fun _ _ _ h => h) (Or.inl ⟨by rfl, ?hy16⟩) hHeld ?rest16
          case hy16 => (intro wS hSw; (try dsimp only at hSw); go_simp; try with_reducible rfl)
          simp only [Act.put, List.setIfInBounds_toArray, List.set_cons_zero, List.set_cons_succ]
          refine wpAnyH_take (i := 8) (oi := { dst := some 56, op := Op.load 24 (Operand.tmp 9), type := 24, pos := "law.go:96", after := #[{ on := 3, ground := Ground.guard }], guard := some (3, true) }) (v := ?vv17) rfl (by kernel_rfl) (by kernel_rfl) (by kernel_rfl) (fun _ _ _ h => h) (Or.inl ⟨by rfl, ?hy17⟩) hHeld ?rest17
          case hy17 => (intro wS hSw; (try dsimp only at hSw); go_simp; try with_reducible rfl)
          simp only [Act.put, List.setIfInBounds_toArray, List.set_cons_zero, List.set_cons_succ]
          refine wpAnyH_ready (rs := [6]) (by kernel_rfl) (by simp) ?_
          refine AllReadyH.cons (o := { dst := some 54, op := Op.call { callee := Callee.value (Operand.func 31), args := #[Operand.tmp 52, Operand.tmp 53], argTypes := #[24, 24] }, type := 4, pos := "law.go:96", after := #[{ on := 4, ground := Ground.data }, { on := 5, ground := Ground.data }, { on := 3, ground := Ground.chain }, { on := 3, ground := Ground.guard }], guard := some (3, true) }) rfl (fun K hK => ?_) AllReadyH.nil
          go_simp
          with_reducible refine (Qbc.out _ _ _ (KS.out _ hcall.out).2.1.rc (KS.out _ hcall.out).2.2.1.rc).mono ?_
          rintro e wq ⟨rfl, hb'⟩
          replace hcall := Lib.hid (hcall.out.trans (hb'.mono hcall.out.size))
          clear hb' hHeld
          try go_wp2_with fail
          refine hK.out _ _ (SC.out _ hcall.out) (fun hHeld => ?_)
          clear hK K
          try simp only [Act.put, List.setIfInBounds_toArray, List.set_cons_zero, List.set_cons_succ]
          refine wpAnyH_ready (rs := [9]) (by kernel_rfl) (by simp) ?_
          refine AllReadyH.cons (o := { dst := some 57, op := Op.call { callee := Callee.value (Operand.func 31), args := #[Operand.tmp 55, Operand.tmp 56], argTypes := #[24, 24] }, type := 4, pos := "law.go:96", after := #[{ on := 7, ground := Ground.data }, { on := 8, ground := Ground.data }, { on := 6, ground := Ground.chain }, { on := 3, ground := Ground.guard }], guard := some (3, true) }) rfl (fun K hK => ?_) AllReadyH.nil
          go_simp
          with_reducible refine (Qjc.out _ _ _ (KS.out _ hcall.out).2.2.2.1.rc (KS.out _ hcall.out).2.2.1.rc).mono ?_
          rintro e wq ⟨rfl, hb'⟩
          replace hcall := Lib.hid (hcall.out.trans (hb'.mono hcall.out.size))
          clear hb' hHeld
          try go_wp2_with fail
          refine hK.out _ _ (SC.out _ hcall.out) (fun hHeld => ?_)
          clear hK K
          try simp only [Act.put, List.setIfInBounds_toArray, List.set_cons_zero, List.set_cons_succ]
          refine wpAnyH_take (i := 10) (oi := { dst := some 58, op := Op.binOp BinOp.neq 4 (Operand.tmp 54) (Operand.tmp 57) 4, type := 4, pos := "law.go:96", after := #[{ on := 6, ground := Ground.data }, { on := 9, ground := Ground.data }, { on := 3, ground := Ground.guard }], guard := some (3, true) }) (v := ?vv18) rfl (by kernel_rfl) (by kernel_rfl) (by kernel_rfl) (fun _ _ _ h => h) (Or.inl ⟨by rfl, ?hy18⟩) hHeld ?rest18
          case hy18 => (intro wS hSw; (try dsimp only at hSw); go_simp; try with_reducible rfl)
          simp only [Act.put, List.setIfInBounds_toArray, List.set_cons_zero, List.set_cons_succ]
          refine wpAnyH_take (i := 11) (oi := { dst := some 59, op := Op.pick (Operand.tmp 51) (Operand.tmp 58) (Operand.const (Value.bool false)), type := 4, pos := "law.go:96", after := #[{ on := 3, ground := Ground.data }, { on := 10, ground := Ground.data }], guard := none }) (v := ?vv19) rfl (by kernel_rfl) (by kernel_rfl) (by kernel_rfl) (fun _ _ _ h => h) (Or.inl ⟨by rfl, ?hy19⟩) hHeld ?rest19
          case hy19 => (intro wS hSw; (try dsimp only at hSw); go_simp; try with_reducible rfl)
          simp only [Act.put, List.setIfInBounds_toArray, List.set_cons_zero, List.set_cons_succ]
          refine wpAnyH_take (i := 12) (oi := { dst := some 60, op := Op.move (Operand.tmp 59), type := 4, pos := "law.go:96", after := #[{ on := 11, ground := Ground.data }, { on := 9, ground := Ground.chain }], guard := none }) (v := ?vv20) rfl (by kernel_rfl) (by kernel_rfl) (by kernel_rfl) (fun _ _ _ h => h) (Or.inl ⟨by rfl, ?hy20⟩) hHeld ?rest20
          case hy20 => (intro wS hSw; (try dsimp only at hSw); go_simp; try with_reducible rfl)
          simp only [Act.put, List.setIfInBounds_toArray, List.set_cons_zero, List.set_cons_succ]
          refine wpAnyH_take (i := 13) (oi := { dst := some 61, op := Op.load 24 (Operand.tmp 10), type := 24, pos := "law.go:96", after := #[{ on := 12, ground := Ground.guard }], guard := some (12, false) }) (v := ?vv21) rfl (by kernel_rfl) (by kernel_rfl) (by kernel_rfl) (fun _ _ _ h => h) (Or.inl ⟨by rfl, ?hy21⟩) hHeld ?rest21
          case hy21 => (intro wS hSw; (try dsimp only at hSw); go_simp; try with_reducible rfl)
          simp only [Act.put, List.setIfInBounds_toArray, List.set_cons_zero, List.set_cons_succ]
          refine wpAnyH_take (i := 14) (oi := { dst := some 62, op := Op.load 24 (Operand.tmp 9), type := 24, pos := "law.go:96", after := #[{ on := 12, ground := Ground.guard }], guard := some (12, false) }) (v := ?vv22) rfl (by kernel_rfl) (by kernel_rfl) (by kernel_rfl) (fun _ _ _ h => h) (Or.inl ⟨by rfl, ?hy22⟩) hHeld ?rest22
          case hy22 => (intro wS hSw; (try dsimp only at hSw); go_simp; try with_reducible rfl)
          simp only [Act.put, List.setIfInBounds_toArray, List.set_cons_zero, List.set_cons_succ]
          refine wpAnyH_ready (rs := [15]) (by kernel_rfl) (by simp) ?_
          refine AllReadyH.cons (o := { dst := some 63, op := Op.call { callee := Callee.value (Operand.func 31), args := #[Operand.tmp 61, Operand.tmp 62], argTypes := #[24, 24] }, type := 4, pos := "law.go:96", after := #[{ on := 13, ground := Ground.data }, { on := 14, ground := Ground.data }, { on := 12, ground := Ground.chain }, { on := 12, ground := Ground.guard }], guard := some (12, false) }) rfl (fun K hK => ?_) AllReadyH.nil
          go_simp
          with_reducible refine (Qjc.out _ _ _ (KS.out _ hcall.out).2.2.2.1.rc (KS.out _ hcall.out).2.2.1.rc).mono ?_
          rintro e wq ⟨rfl, hb'⟩
          replace hcall := Lib.hid (hcall.out.trans (hb'.mono hcall.out.size))
          clear hb' hHeld
          try go_wp2_with fail
          refine hK.out _ _ (SC.out _ hcall.out) (fun hHeld => ?_)
          clear hK K
          try simp only [Act.put, List.setIfInBounds_toArray, List.set_cons_zero, List.set_cons_succ]
          refine wpAnyH_take (i := 16) (oi := { dst := some 64, op := Op.move (Operand.tmp 63), type := 4, pos := "law.go:96", after := #[{ on := 15, ground := Ground.data }, { on := 15, ground := Ground.chain }, { on := 12, ground := Ground.guard }], guard := some (12, false) }) (v := ?vv23) rfl (by kernel_rfl) (by kernel_rfl) (by kernel_rfl) (fun _ _ _ h => h) (Or.inl ⟨by rfl, ?hy23⟩) hHeld ?rest23
          case hy23 => (intro wS hSw; (try dsimp only at hSw); go_simp; try with_reducible rfl)
          simp only [Act.put, List.setIfInBounds_toArray, List.set_cons_zero, List.set_cons_succ]
          refine wpAnyH_take (i := 17) (oi := { dst := some 65, op := Op.load 24 (Operand.tmp 8), type := 24, pos := "law.go:96", after := #[{ on := 16, ground := Ground.guard }], guard := some (16, true) }) (v := undef) rfl (by kernel_rfl) (by kernel_rfl) (by kernel_rfl) (fun _ _ _ h => h) (Or.inr ⟨by rfl, rfl⟩) hHeld ?_
          simp only [Act.put, List.setIfInBounds_toArray, List.set_cons_zero, List.set_cons_succ]
          refine wpAnyH_take (i := 18) (oi := { dst := some 66, op := Op.load 24 (Operand.tmp 9), type := 24, pos := "law.go:96", after := #[{ on := 16, ground := Ground.guard }], guard := some (16, true) }) (v := undef) rfl (by kernel_rfl) (by kernel_rfl) (by kernel_rfl) (fun _ _ _ h => h) (Or.inr ⟨by rfl, rfl⟩) hHeld ?_
          simp only [Act.put, List.setIfInBounds_toArray, List.set_cons_zero, List.set_cons_succ]
          refine wpAnyH_take (i := 19) (oi := { dst := some 67, op := Op.call { callee := Callee.value (Operand.func 31), args := #[Operand.tmp 65, Operand.tmp 66], argTypes := #[24, 24] }, type := 4, pos := "law.go:96", after := #[{ on := 17, ground := Ground.data }, { on := 18, ground := Ground.data }, { on := 16, ground := Ground.chain }, { on := 16, ground := Ground.guard }], guard := some (16, true) }) (v := undef) rfl (by kernel_rfl) (by kernel_rfl) (by kernel_rfl) (fun _ _ _ h => h) (Or.inr ⟨by rfl, rfl⟩) hHeld ?_
          simp only [Act.put, List.setIfInBounds_toArray, List.set_cons_zero, List.set_cons_succ]
          refine wpAnyH_take (i := 20) (oi := { dst := some 68, op := Op.unOp UnOp.not 4 (Operand.tmp 67), type := 4, pos := "law.go:96", after := #[{ on := 19, ground := Ground.data }, { on := 16, ground := Ground.guard }], guard := some (16, true) }) (v := undef) rfl (by kernel_rfl) (by kernel_rfl) (by kernel_rfl) (fun _ _ _ h => h) (Or.inr ⟨by rfl, rfl⟩) hHeld ?_
          simp only [Act.put, List.setIfInBounds_toArray, List.set_cons_zero, List.set_cons_succ]
          refine wpAnyH_take (i := 21) (oi := { dst := some 69, op := Op.pick (Operand.tmp 64) (Operand.tmp 68) (Operand.const (Value.bool false)), type := 4, pos := "law.go:96", after := #[{ on := 16, ground := Ground.data }, { on := 20, ground := Ground.data }, { on := 12, ground := Ground.guard }], guard := some (12, false) }) (v := ?vv24) rfl (by kernel_rfl) (by kernel_rfl) (by kernel_rfl) (fun _ _ _ h => h) (Or.inl ⟨by rfl, ?hy24⟩) hHeld ?rest24
          case hy24 => (intro wS hSw; (try dsimp only at hSw); go_simp; try with_reducible rfl)
          simp only [Act.put, List.setIfInBounds_toArray, List.set_cons_zero, List.set_cons_succ]
          refine wpAnyH_take (i := 22) (oi := { dst := some 70, op := Op.pick (Operand.tmp 60) (Operand.const (Value.bool true)) (Operand.tmp 69), type := 4, pos := "law.go:96", after := #[{ on := 12, ground := Ground.data }, { on := 21, ground := Ground.data }], guard := none }) (v := ?vv25) rfl (by kernel_rfl) (by kernel_rfl) (by kernel_rfl) (fun _ _ _ h => h) (Or.inl ⟨by rfl, ?hy25⟩) hHeld ?rest25
          case hy25 => (intro wS hSw; (try dsimp only at hSw); go_simp; try with_reducible rfl)
          simp only [Act.put, List.setIfInBounds_toArray, List.set_cons_zero, List.set_cons_succ]
          refine wpAnyH_done (by kernel_rfl) ?_ _
          all_goals
            go_wp2_with fail
            go_meet
            exact ⟨by first | rfl | simp, Lib.hid hcall.out⟩
        · clear HC1
          refine wp_region_held_drew (S := fun w' => w'.cell? ⟨A0, 0, none⟩ = some (.int .i64 D0) ∧ w'.cell? ⟨A0, 1, none⟩ = some ((.slice a0 n0 c0)) ∧ w'.cell? ⟨A1, 0, none⟩ = some (.int .i64 D1) ∧ w'.cell? ⟨A1, 1, none⟩ = some ((.slice a1 n1 c1)) ∧ w'.cell? ⟨A2, 0, none⟩ = some (.int .i64 D2) ∧ w'.cell? ⟨A2, 1, none⟩ = some ((.slice a2 n2 c2)) ∧ w'.cell? ⟨A3, 0, none⟩ = some (.int .i64 Mj) ∧ w'.cell? ⟨A3, 1, none⟩ = some ((.slice a3 n3 c3)) ∧ w'.cell? ⟨A4, 0, none⟩ = some (.int .i64 Mm) ∧ w'.cell? ⟨A4, 1, none⟩ = some ((.slice a4 n4 c4))) (by kernel_rfl) (SC.out _ hcall.out) (fun hHeld => ?_)
          refine wpAnyH_take (i := 0) (oi := { dst := some 48, op := Op.load 24 (Operand.tmp 7), type := 24, pos := "law.go:96", after := #[], guard := none }) (v := ?vv26) rfl (by kernel_rfl) (by kernel_rfl) (by kernel_rfl) (fun _ _ _ h => h) (Or.inl ⟨by rfl, ?hy26⟩) hHeld ?rest26
          case hy26 => (intro wS hSw; (try dsimp only at hSw); go_simp; try with_reducible rfl)
          simp only [Act.put, List.setIfInBounds_toArray, List.set_cons_zero, List.set_cons_succ]
          refine wpAnyH_take (i := 1) (oi := { dst := some 49, op := Op.load 24 (Operand.tmp 9), type := 24, pos := "law.go:96", after := #[], guard := none }) (v := ?vv27) rfl (by kernel_rfl) (by kernel_rfl) (by kernel_rfl) (fun _ _ _ h => h) (Or.inl ⟨by rfl, ?hy27⟩) hHeld ?rest27
          case hy27 => (intro wS hSw; (try dsimp only at hSw); go_simp; try with_reducible rfl)
          simp only [Act.put, List.setIfInBounds_toArray, List.set_cons_zero, List.set_cons_succ]
          refine wpAnyH_ready (rs := [2]) (by kernel_rfl) (by simp) ?_
          refine AllReadyH.cons (o := { dst := some 50, op := Op.call { callee := Callee.value (Operand.func 31), args := #[Operand.tmp 48, Operand.tmp 49], argTypes := #[24, 24] }, type := 4, pos := "law.go:96", after := #[{ on := 0, ground := Ground.data }, { on := 1, ground := Ground.data }], guard := none }) rfl (fun K hK => ?_) AllReadyH.nil
          go_simp
          with_reducible refine (Qac.out _ _ _ (KS.out _ hcall.out).1.rc (KS.out _ hcall.out).2.2.1.rc).mono ?_
          rintro e wq ⟨rfl, hb'⟩
          replace hcall := Lib.hid (hcall.out.trans (hb'.mono hcall.out.size))
          clear hb' hHeld
          try go_wp2_with fail
          refine hK.out _ _ (SC.out _ hcall.out) (fun hHeld => ?_)
          clear hK K
          try simp only [Act.put, List.setIfInBounds_toArray, List.set_cons_zero, List.set_cons_succ]
          refine wpAnyH_take (i := 3) (oi := { dst := some 51, op := Op.move (Operand.tmp 50), type := 4, pos := "law.go:96", after := #[{ on := 2, ground := Ground.data }, { on := 2, ground := Ground.chain }], guard := none }) (v := ?vv28) rfl (by kernel_rfl) (by kernel_rfl) (by kernel_rfl) (fun _ _ _ h => h) (Or.inl ⟨by rfl, ?hy28⟩) hHeld ?rest28
          case hy28 => (intro wS hSw; (try dsimp only at hSw); go_simp; try with_reducible rfl)
          simp only [Act.put, List.setIfInBounds_toArray, List.set_cons_zero, List.set_cons_succ]
          refine wpAnyH_take (i := 4) (oi := { dst := some 52, op := Op.load 24 (Operand.tmp 8), type := 24, pos := "law.go:96", after := #[{ on := 3, ground := Ground.guard }], guard := some (3, true) }) (v := ?vv29) rfl (by kernel_rfl) (by kernel_rfl) (by kernel_rfl) (fun _ _ _ h => h) (Or.inl ⟨by rfl, ?hy29⟩) hHeld ?rest29
          case hy29 => (intro wS hSw; (try dsimp only at hSw); go_simp; try with_reducible rfl)
          simp only [Act.put, List.setIfInBounds_toArray, List.set_cons_zero, List.set_cons_succ]
          refine wpAnyH_take (i := 5) (oi := { dst := some 53, op := Op.load 24 (Operand.tmp 9), type := 24, pos := "law.go:96", after := #[{ on := 3, ground := Ground.guard }], guard := some (3, true) }) (v := ?vv30) rfl (by kernel_rfl) (by kernel_rfl) (by kernel_rfl) (fun _ _ _ h => h) (Or.inl ⟨by rfl, ?hy30⟩) hHeld ?rest30
          case hy30 => (intro wS hSw; (try dsimp only at hSw); go_simp; try with_reducible rfl)
          simp only [Act.put, List.setIfInBounds_toArray, List.set_cons_zero, List.set_cons_succ]
          refine wpAnyH_take (i := 7) (oi := { dst := some 55, op := Op.load 24 (Operand.tmp 10), type := 24, pos := "law.go:96", after := #[{ on := 3, ground := Ground.guard }], guard := some (3, true) }) (v := ?vv31) rfl (by kernel_rfl) (by kernel_rfl) (by kernel_rfl) (fun _ _ _ h => h) (Or.inl ⟨by rfl, ?hy31⟩) hHeld ?rest31
          case hy31 => (intro wS hSw; (try dsimp only at hSw); go_simp; try with_reducible rfl)
          simp only [Act.put, List.setIfInBounds_toArray, List.set_cons_zero, List.set_cons_succ]
          refine wpAnyH_take (i := 8) (oi := { dst := some 56, op := Op.load 24 (Operand.tmp 9), type := 24, pos := "law.go:96", after := #[{ on := 3, ground := Ground.guard }], guard := some (3, true) }) (v := ?vv32) rfl (by kernel_rfl) (by kernel_rfl) (by kernel_rfl) (fun _ _ _ h => h) (Or.inl ⟨by rfl, ?hy32⟩) hHeld ?rest32
          case hy32 => (intro wS hSw; (try dsimp only at hSw); go_simp; try with_reducible rfl)
          simp only [Act.put, List.setIfInBounds_toArray, List.set_cons_zero, List.set_cons_succ]
          refine wpAnyH_ready (rs := [6]) (by kernel_rfl) (by simp) ?_
          refine AllReadyH.cons (o := { dst := some 54, op := Op.call { callee := Callee.value (Operand.func 31), args := #[Operand.tmp 52, Operand.tmp 53], argTypes := #[24, 24] }, type := 4, pos := "law.go:96", after := #[{ on := 4, ground := Ground.data }, { on := 5, ground := Ground.data }, { on := 3, ground := Ground.chain }, { on := 3, ground := Ground.guard }], guard := some (3, true) }) rfl (fun K hK => ?_) AllReadyH.nil
          go_simp
          with_reducible refine (Qbc.out _ _ _ (KS.out _ hcall.out).2.1.rc (KS.out _ hcall.out).2.2.1.rc).mono ?_
          rintro e wq ⟨rfl, hb'⟩
          replace hcall := Lib.hid (hcall.out.trans (hb'.mono hcall.out.size))
          clear hb' hHeld
          try go_wp2_with fail
          refine hK.out _ _ (SC.out _ hcall.out) (fun hHeld => ?_)
          clear hK K
          try simp only [Act.put, List.setIfInBounds_toArray, List.set_cons_zero, List.set_cons_succ]
          refine wpAnyH_ready (rs := [9]) (by kernel_rfl) (by simp) ?_
          refine AllReadyH.cons (o := { dst := some 57, op := Op.call { callee := Callee.value (Operand.func 31), args := #[Operand.tmp 55, Operand.tmp 56], argTypes := #[24, 24] }, type := 4, pos := "law.go:96", after := #[{ on := 7, ground := Ground.data }, { on := 8, ground := Ground.data }, { on := 6, ground := Ground.chain }, { on := 3, ground := Ground.guard }], guard := some (3, true) }) rfl (fun K hK => ?_) AllReadyH.nil
          go_simp
          with_reducible refine (Qjc.out _ _ _ (KS.out _ hcall.out).2.2.2.1.rc (KS.out _ hcall.out).2.2.1.rc).mono ?_
          rintro e wq ⟨rfl, hb'⟩
          replace hcall := Lib.hid (hcall.out.trans (hb'.mono hcall.out.size))
          clear hb' hHeld
          try go_wp2_with fail
          refine hK.out _ _ (SC.out _ hcall.out) (fun hHeld => ?_)
          clear hK K
          try simp only [Act.put, List.setIfInBounds_toArray, List.set_cons_zero, List.set_cons_succ]
          refine wpAnyH_take (i := 10) (oi := { dst := some 58, op := Op.binOp BinOp.neq 4 (Operand.tmp 54) (Operand.tmp 57) 4, type := 4, pos := "law.go:96", after := #[{ on := 6, ground := Ground.data }, { on := 9, ground := Ground.data }, { on := 3, ground := Ground.guard }], guard := some (3, true) }) (v := ?vv33) rfl (by kernel_rfl) (by kernel_rfl) (by kernel_rfl) (fun _ _ _ h => h) (Or.inl ⟨by rfl, ?hy33⟩) hHeld ?rest33
          case hy33 => (intro wS hSw; (try dsimp only at hSw); go_simp; try with_reducible rfl)
          simp only [Act.put, List.setIfInBounds_toArray, List.set_cons_zero, List.set_cons_succ]
          refine wpAnyH_take (i := 11) (oi := { dst := some 59, op := Op.pick (Operand.tmp 51) (Operand.tmp 58) (Operand.const (Value.bool false)), type := 4, pos := "law.go:96", after := #[{ on := 3, ground := Ground.data }, { on := 10, ground := Ground.data }], guard := none }) (v := ?vv34) rfl (by kernel_rfl) (by kernel_rfl) (by kernel_rfl) (fun _ _ _ h => h) (Or.inl ⟨by rfl, ?hy34⟩) hHeld ?rest34
          case hy34 => (intro wS hSw; (try dsimp only at hSw); go_simp; try with_reducible rfl)
          simp only [Act.put, List.setIfInBounds_toArray, List.set_cons_zero, List.set_cons_succ]
          refine wpAnyH_take (i := 12) (oi := { dst := some 60, op := Op.move (Operand.tmp 59), type := 4, pos := "law.go:96", after := #[{ on := 11, ground := Ground.data }, { on := 9, ground := Ground.chain }], guard := none }) (v := ?vv35) rfl (by kernel_rfl) (by kernel_rfl) (by kernel_rfl) (fun _ _ _ h => h) (Or.inl ⟨by rfl, ?hy35⟩) hHeld ?rest35
          case hy35 => (intro wS hSw; (try dsimp only at hSw); go_simp; try with_reducible rfl)
          simp only [Act.put, List.setIfInBounds_toArray, List.set_cons_zero, List.set_cons_succ]
          refine wpAnyH_take (i := 13) (oi := { dst := some 61, op := Op.load 24 (Operand.tmp 10), type := 24, pos := "law.go:96", after := #[{ on := 12, ground := Ground.guard }], guard := some (12, false) }) (v := ?vv36) rfl (by kernel_rfl) (by kernel_rfl) (by kernel_rfl) (fun _ _ _ h => h) (Or.inl ⟨by rfl, ?hy36⟩) hHeld ?rest36
          case hy36 => (intro wS hSw; (try dsimp only at hSw); go_simp; try with_reducible rfl)
          simp only [Act.put, List.setIfInBounds_toArray, List.set_cons_zero, List.set_cons_succ]
          refine wpAnyH_take (i := 14) (oi := { dst := some 62, op := Op.load 24 (Operand.tmp 9), type := 24, pos := "law.go:96", after := #[{ on := 12, ground := Ground.guard }], guard := some (12, false) }) (v := ?vv37) rfl (by kernel_rfl) (by kernel_rfl) (by kernel_rfl) (fun _ _ _ h => h) (Or.inl ⟨by rfl, ?hy37⟩) hHeld ?rest37
          case hy37 => (intro wS hSw; (try dsimp only at hSw); go_simp; try with_reducible rfl)
          simp only [Act.put, List.setIfInBounds_toArray, List.set_cons_zero, List.set_cons_succ]
          refine wpAnyH_ready (rs := [15]) (by kernel_rfl) (by simp) ?_
          refine AllReadyH.cons (o := { dst := some 63, op := Op.call { callee := Callee.value (Operand.func 31), args := #[Operand.tmp 61, Operand.tmp 62], argTypes := #[24, 24] }, type := 4, pos := "law.go:96", after := #[{ on := 13, ground := Ground.data }, { on := 14, ground := Ground.data }, { on := 12, ground := Ground.chain }, { on := 12, ground := Ground.guard }], guard := some (12, false) }) rfl (fun K hK => ?_) AllReadyH.nil
          go_simp
          with_reducible refine (Qjc.out _ _ _ (KS.out _ hcall.out).2.2.2.1.rc (KS.out _ hcall.out).2.2.1.rc).mono ?_
          rintro e wq ⟨rfl, hb'⟩
          replace hcall := Lib.hid (hcall.out.trans (hb'.mono hcall.out.size))
          clear hb' hHeld
          try go_wp2_with fail
          refine hK.out _ _ (SC.out _ hcall.out) (fun hHeld => ?_)
          clear hK K
          try simp only [Act.put, List.setIfInBounds_toArray, List.set_cons_zero, List.set_cons_succ]
          refine wpAnyH_take (i := 16) (oi := { dst := some 64, op := Op.move (Operand.tmp 63), type := 4, pos := "law.go:96", after := #[{ on := 15, ground := Ground.data }, { on := 15, ground := Ground.chain }, { on := 12, ground := Ground.guard }], guard := some (12, false) }) (v := ?vv38) rfl (by kernel_rfl) (by kernel_rfl) (by kernel_rfl) (fun _ _ _ h => h) (Or.inl ⟨by rfl, ?hy38⟩) hHeld ?rest38
          case hy38 => (intro wS hSw; (try dsimp only at hSw); go_simp; try with_reducible rfl)
          simp only [Act.put, List.setIfInBounds_toArray, List.set_cons_zero, List.set_cons_succ]
          refine wpAnyH_take (i := 17) (oi := { dst := some 65, op := Op.load 24 (Operand.tmp 8), type := 24, pos := "law.go:96", after := #[{ on := 16, ground := Ground.guard }], guard := some (16, true) }) (v := ?vv39) rfl (by kernel_rfl) (by kernel_rfl) (by kernel_rfl) (fun _ _ _ h => h) (Or.inl ⟨by rfl, ?hy39⟩) hHeld ?rest39
          case hy39 => (intro wS hSw; (try dsimp only at hSw); go_simp; try with_reducible rfl)
          simp only [Act.put, List.setIfInBounds_toArray, List.set_cons_zero, List.set_cons_succ]
          refine wpAnyH_take (i := 18) (oi := { dst := some 66, op := Op.load 24 (Operand.tmp 9), type := 24, pos := "law.go:96", after := #[{ on := 16, ground := Ground.guard }], guard := some (16, true) }) (v := ?vv40) rfl (by kernel_rfl) (by kernel_rfl) (by kernel_rfl) (fun _ _ _ h => h) (Or.inl ⟨by rfl, ?hy40⟩) hHeld ?rest40
          case hy40 => (intro wS hSw; (try dsimp only at hSw); go_simp; try with_reducible rfl)
          simp only [Act.put, List.setIfInBounds_toArray, List.set_cons_zero, List.set_cons_succ]
          refine wpAnyH_ready (rs := [19]) (by kernel_rfl) (by simp) ?_
          refine AllReadyH.cons (o := { dst := some 67, op := Op.call { callee := Callee.value (Operand.func 31), args := #[Operand.tmp 65, Operand.tmp 66], argTypes := #[24, 24] }, type := 4, pos := "law.go:96", after := #[{ on := 17, ground := Ground.data }, { on := 18, ground := Ground.data }, { on := 16, ground := Ground.chain }, { on := 16, ground := Ground.guard }], guard := some (16, true) }) rfl (fun K hK => ?_) AllReadyH.nil
          go_simp
          with_reducible refine (Qbc.out _ _ _ (KS.out _ hcall.out).2.1.rc (KS.out _ hcall.out).2.2.1.rc).mono ?_
          rintro e wq ⟨rfl, hb'⟩
          replace hcall := Lib.hid (hcall.out.trans (hb'.mono hcall.out.size))
          clear hb' hHeld
          try go_wp2_with fail
          refine hK.out _ _ (SC.out _ hcall.out) (fun hHeld => ?_)
          clear hK K
          try simp only [Act.put, List.setIfInBounds_toArray, List.set_cons_zero, List.set_cons_succ]
          refine wpAnyH_take (i := 20) (oi := { dst := some 68, op := Op.unOp UnOp.not 4 (Operand.tmp 67), type := 4, pos := "law.go:96", after := #[{ on := 19, ground := Ground.data }, { on := 16, ground := Ground.guard }], guard := some (16, true) }) (v := ?vv41) rfl (by kernel_rfl) (by kernel_rfl) (by kernel_rfl) (fun _ _ _ h => h) (Or.inl ⟨by rfl, ?hy41⟩) hHeld ?rest41
          case hy41 => (intro wS hSw; (try dsimp only at hSw); go_simp; try with_reducible rfl)
          simp only [Act.put, List.setIfInBounds_toArray, List.set_cons_zero, List.set_cons_succ]
          refine wpAnyH_take (i := 21) (oi := { dst := some 69, op := Op.pick (Operand.tmp 64) (Operand.tmp 68) (Operand.const (Value.bool false)), type := 4, pos := "law.go:96", after := #[{ on := 16, ground := Ground.data }, { on := 20, ground := Ground.data }, { on := 12, ground := Ground.guard }], guard := some (12, false) }) (v := ?vv42) rfl (by kernel_rfl) (by kernel_rfl) (by kernel_rfl) (fun _ _ _ h => h) (Or.inl ⟨by rfl, ?hy42⟩) hHeld ?rest42
          case hy42 => (intro wS hSw; (try dsimp only at hSw); go_simp; try with_reducible rfl)
          simp only [Act.put, List.setIfInBounds_toArray, List.set_cons_zero, List.set_cons_succ]
          refine wpAnyH_take (i := 22) (oi := { dst := some 70, op := Op.pick (Operand.tmp 60) (Operand.const (Value.bool true)) (Operand.tmp 69), type := 4, pos := "law.go:96", after := #[{ on := 12, ground := Ground.data }, { on := 21, ground := Ground.data }], guard := none }) (v := ?vv43) rfl (by kernel_rfl) (by kernel_rfl) (by kernel_rfl) (fun _ _ _ h => h) (Or.inl ⟨by rfl, ?hy43⟩) hHeld ?rest43
          case hy43 => (intro wS hSw; (try dsimp only at hSw); go_simp; try with_reducible rfl)
          simp only [Act.put, List.setIfInBounds_toArray, List.set_cons_zero, List.set_cons_succ]
          refine wpAnyH_done (by kernel_rfl) ?_ _
          all_goals
            go_wp2_with fail
            go_meet
            exact ⟨by first | rfl | simp, Lib.hid hcall.out⟩
      case rest =>
        obtain ⟨rfl, HF3⟩ := hcut
        clear HC1 Qac Qbc Qjc hcall
        have hcall := Lib.hid HF3.out.drew
        clear HF3
        go_upto_region 9 with fail
        rcases HC2.out with ⟨rfl, rfl⟩ | ⟨rfl, rfl, rfl⟩ | ⟨rfl, rfl, rfl⟩
        · clear HC2
          refine wp_region_held_drew (S := fun w' => w'.cell? ⟨A0, 0, none⟩ = some (.int .i64 D0) ∧ w'.cell? ⟨A0, 1, none⟩ = some ((.slice a0 n0 c0)) ∧ w'.cell? ⟨A1, 0, none⟩ = some (.int .i64 D1) ∧ w'.cell? ⟨A1, 1, none⟩ = some ((.slice a1 n1 c1)) ∧ w'.cell? ⟨A2, 0, none⟩ = some (.int .i64 D2) ∧ w'.cell? ⟨A2, 1, none⟩ = some ((.slice a2 n2 c2)) ∧ w'.cell? ⟨A3, 0, none⟩ = some (.int .i64 Mj) ∧ w'.cell? ⟨A3, 1, none⟩ = some ((.slice a3 n3 c3)) ∧ w'.cell? ⟨A4, 0, none⟩ = some (.int .i64 Mm) ∧ w'.cell? ⟨A4, 1, none⟩ = some ((.slice a4 n4 c4))) (by kernel_rfl) (SC.out _ hcall.out) (fun hHeld => ?_)
          refine wpAnyH_take (i := 0) (oi := { dst := some 71, op := Op.load 24 (Operand.tmp 9), type := 24, pos := "law.go:99", after := #[], guard := none }) (v := ?vv44) rfl (by kernel_rfl) (by kernel_rfl) (by kernel_rfl) (fun _ _ _ h => h) (Or.inl ⟨by rfl, ?hy44⟩) hHeld ?rest44
          case hy44 => (intro wS hSw; (try dsimp only at hSw); go_simp; try with_reducible rfl)
          simp only [Act.put, List.setIfInBounds_toArray, List.set_cons_zero, List.set_cons_succ]
          refine wpAnyH_take (i := 1) (oi := { dst := some 72, op := Op.load 24 (Operand.tmp 7), type := 24, pos := "law.go:99", after := #[], guard := none }) (v := ?vv45) rfl (by kernel_rfl) (by kernel_rfl) (by kernel_rfl) (fun _ _ _ h => h) (Or.inl ⟨by rfl, ?hy45⟩) hHeld ?rest45
          case hy45 => (intro wS hSw; (try dsimp only at hSw); go_simp; try with_reducible rfl)
          simp only [Act.put, List.setIfInBounds_toArray, List.set_cons_zero, List.set_cons_succ]
          refine wpAnyH_ready (rs := [2]) (by kernel_rfl) (by simp) ?_
          refine AllReadyH.cons (o := { dst := some 73, op := Op.call { callee := Callee.value (Operand.func 31), args := #[Operand.tmp 71, Operand.tmp 72], argTypes := #[24, 24] }, type := 4, pos := "law.go:99", after := #[{ on := 0, ground := Ground.data }, { on := 1, ground := Ground.data }], guard := none }) rfl (fun K hK => ?_) AllReadyH.nil
          go_simp
          with_reducible refine (Qca.out _ _ _ (KS.out _ hcall.out).2.2.1.rc (KS.out _ hcall.out).1.rc).mono ?_
          rintro e wq ⟨rfl, hb'⟩
          replace hcall := Lib.hid (hcall.out.trans (hb'.mono hcall.out.size))
          clear hb' hHeld
          try go_wp2_with fail
          refine hK.out _ _ (SC.out _ hcall.out) (fun hHeld => ?_)
          clear hK K
          try simp only [Act.put, List.setIfInBounds_toArray, List.set_cons_zero, List.set_cons_succ]
          refine wpAnyH_take (i := 3) (oi := { dst := some 74, op := Op.unOp UnOp.not 4 (Operand.tmp 73), type := 4, pos := "law.go:99", after := #[{ on := 2, ground := Ground.data }], guard := none }) (v := ?vv46) rfl (by kernel_rfl) (by kernel_rfl) (by kernel_rfl) (fun _ _ _ h => h) (Or.inl ⟨by rfl, ?hy46⟩) hHeld ?rest46
          case hy46 => (intro wS hSw; (try dsimp only at hSw); go_simp; try with_reducible rfl)
          simp only [Act.put, List.setIfInBounds_toArray, List.set_cons_zero, List.set_cons_succ]
          refine wpAnyH_take (i := 4) (oi := { dst := some 75, op := Op.move (Operand.tmp 74), type := 4, pos := "law.go:99", after := #[{ on := 3, ground := Ground.data }, { on := 2, ground := Ground.chain }], guard := none }) (v := ?vv47) rfl (by kernel_rfl) (by kernel_rfl) (by kernel_rfl) (fun _ _ _ h => h) (Or.inl ⟨by rfl, ?hy47⟩) hHeld ?rest47
          case hy47 => (intro wS hSw; (try dsimp only at hSw); go_simp; try with_reducible rfl)
          simp only [Act.put, List.setIfInBounds_toArray, List.set_cons_zero, List.set_cons_succ]
          refine wpAnyH_take (i := 5) (oi := { dst := some 76, op := Op.load 24 (Operand.tmp 9), type := 24, pos := "law.go:99", after := #[{ on := 4, ground := Ground.guard }], guard := some (4, false) }) (v := undef) rfl (by kernel_rfl) (by kernel_rfl) (by kernel_rfl) (fun _ _ _ h => h) (Or.inr ⟨by rfl, rfl⟩) hHeld ?_
          simp only [Act.put, List.setIfInBounds_toArray, List.set_cons_zero, List.set_cons_succ]
          refine wpAnyH_take (i := 6) (oi := { dst := some 77, op := Op.load 24 (Operand.tmp 8), type := 24, pos := "law.go:99", after := #[{ on := 4, ground := Ground.guard }], guard := some (4, false) }) (v := undef) rfl (by kernel_rfl) (by kernel_rfl) (by kernel_rfl) (fun _ _ _ h => h) (Or.inr ⟨by rfl, rfl⟩) hHeld ?_
          simp only [Act.put, List.setIfInBounds_toArray, List.set_cons_zero, List.set_cons_succ]
          refine wpAnyH_take (i := 7) (oi := { dst := some 78, op := Op.call { callee := Callee.value (Operand.func 31), args := #[Operand.tmp 76, Operand.tmp 77], argTypes := #[24, 24] }, type := 4, pos := "law.go:99", after := #[{ on := 5, ground := Ground.data }, { on := 6, ground := Ground.data }, { on := 4, ground := Ground.chain }, { on := 4, ground := Ground.guard }], guard := some (4, false) }) (v := undef) rfl (by kernel_rfl) (by kernel_rfl) (by kernel_rfl) (fun _ _ _ h => h) (Or.inr ⟨by rfl, rfl⟩) hHeld ?_
          simp only [Act.put, List.setIfInBounds_toArray, List.set_cons_zero, List.set_cons_succ]
          refine wpAnyH_take (i := 8) (oi := { dst := some 79, op := Op.load 24 (Operand.tmp 9), type := 24, pos := "law.go:99", after := #[{ on := 4, ground := Ground.guard }], guard := some (4, false) }) (v := undef) rfl (by kernel_rfl) (by kernel_rfl) (by kernel_rfl) (fun _ _ _ h => h) (Or.inr ⟨by rfl, rfl⟩) hHeld ?_
          simp only [Act.put, List.setIfInBounds_toArray, List.set_cons_zero, List.set_cons_succ]
          refine wpAnyH_take (i := 9) (oi := { dst := some 80, op := Op.load 24 (Operand.tmp 11), type := 24, pos := "law.go:99", after := #[{ on := 4, ground := Ground.guard }], guard := some (4, false) }) (v := undef) rfl (by kernel_rfl) (by kernel_rfl) (by kernel_rfl) (fun _ _ _ h => h) (Or.inr ⟨by rfl, rfl⟩) hHeld ?_
          simp only [Act.put, List.setIfInBounds_toArray, List.set_cons_zero, List.set_cons_succ]
          refine wpAnyH_take (i := 10) (oi := { dst := some 81, op := Op.call { callee := Callee.value (Operand.func 31), args := #[Operand.tmp 79, Operand.tmp 80], argTypes := #[24, 24] }, type := 4, pos := "law.go:99", after := #[{ on := 8, ground := Ground.data }, { on := 9, ground := Ground.data }, { on := 7, ground := Ground.chain }, { on := 4, ground := Ground.guard }], guard := some (4, false) }) (v := undef) rfl (by kernel_rfl) (by kernel_rfl) (by kernel_rfl) (fun _ _ _ h => h) (Or.inr ⟨by rfl, rfl⟩) hHeld ?_
          simp only [Act.put, List.setIfInBounds_toArray, List.set_cons_zero, List.set_cons_succ]
          refine wpAnyH_take (i := 11) (oi := { dst := some 82, op := Op.binOp BinOp.eql 4 (Operand.tmp 78) (Operand.tmp 81) 4, type := 4, pos := "law.go:99", after := #[{ on := 7, ground := Ground.data }, { on := 10, ground := Ground.data }, { on := 4, ground := Ground.guard }], guard := some (4, false) }) (v := undef) rfl (by kernel_rfl) (by kernel_rfl) (by kernel_rfl) (fun _ _ _ h => h) (Or.inr ⟨by rfl, rfl⟩) hHeld ?_
          simp only [Act.put, List.setIfInBounds_toArray, List.set_cons_zero, List.set_cons_succ]
          refine wpAnyH_take (i := 12) (oi := { dst := some 83, op := Op.pick (Operand.tmp 75) (Operand.const (Value.bool true)) (Operand.tmp 82), type := 4, pos := "law.go:99", after := #[{ on := 4, ground := Ground.data }, { on := 11, ground := Ground.data }], guard := none }) (v := ?vv48) rfl (by kernel_rfl) (by kernel_rfl) (by kernel_rfl) (fun _ _ _ h => h) (Or.inl ⟨by rfl, ?hy48⟩) hHeld ?rest48
          case hy48 => (intro wS hSw; (try dsimp only at hSw); go_simp; try with_reducible rfl)
          simp only [Act.put, List.setIfInBounds_toArray, List.set_cons_zero, List.set_cons_succ]
          refine wpAnyH_take (i := 13) (oi := { dst := some 6, op := Op.assign (Operand.tmp 83), type := 4, pos := "law.go:99", after := #[{ on := 12, ground := Ground.data }, { on := 10, ground := Ground.chain }, { on := 0, ground := Ground.phase }, { on := 1, ground := Ground.phase }, { on := 2, ground := Ground.phase }, { on := 3, ground := Ground.phase }, { on := 4, ground := Ground.phase }, { on := 5, ground := Ground.phase }, { on := 6, ground := Ground.phase }, { on := 7, ground := Ground.phase }, { on := 8, ground := Ground.phase }, { on := 9, ground := Ground.phase }, { on := 10, ground := Ground.phase }, { on := 11, ground := Ground.phase }, { on := 12, ground := Ground.phase }], guard := none }) (v := ?vv49) rfl (by kernel_rfl) (by kernel_rfl) (by kernel_rfl) (fun _ _ _ h => h) (Or.inl ⟨by rfl, ?hy49⟩) hHeld ?rest49
          case hy49 => (intro wS hSw; (try dsimp only at hSw); go_simp; try with_reducible rfl)
          simp only [Act.put, List.setIfInBounds_toArray, List.set_cons_zero, List.set_cons_succ]
          refine wpAnyH_done (by kernel_rfl) ?_ _
          all_goals
            go_wp2_with fail
            go_ret
            exact ⟨by first | rfl | simp, (KS.out _ hcall.out).2.2.2.2.2⟩
        · clear HC2
          refine wp_region_held_drew (S := fun w' => w'.cell? ⟨A0, 0, none⟩ = some (.int .i64 D0) ∧ w'.cell? ⟨A0, 1, none⟩ = some ((.slice a0 n0 c0)) ∧ w'.cell? ⟨A1, 0, none⟩ = some (.int .i64 D1) ∧ w'.cell? ⟨A1, 1, none⟩ = some ((.slice a1 n1 c1)) ∧ w'.cell? ⟨A2, 0, none⟩ = some (.int .i64 D2) ∧ w'.cell? ⟨A2, 1, none⟩ = some ((.slice a2 n2 c2)) ∧ w'.cell? ⟨A3, 0, none⟩ = some (.int .i64 Mj) ∧ w'.cell? ⟨A3, 1, none⟩ = some ((.slice a3 n3 c3)) ∧ w'.cell? ⟨A4, 0, none⟩ = some (.int .i64 Mm) ∧ w'.cell? ⟨A4, 1, none⟩ = some ((.slice a4 n4 c4))) (by kernel_rfl) (SC.out _ hcall.out) (fun hHeld => ?_)
          refine wpAnyH_take (i := 0) (oi := { dst := some 71, op := Op.load 24 (Operand.tmp 9), type := 24, pos := "law.go:99", after := #[], guard := none }) (v := ?vv50) rfl (by kernel_rfl) (by kernel_rfl) (by kernel_rfl) (fun _ _ _ h => h) (Or.inl ⟨by rfl, ?hy50⟩) hHeld ?rest50
          case hy50 => (intro wS hSw; (try dsimp only at hSw); go_simp; try with_reducible rfl)
          simp only [Act.put, List.setIfInBounds_toArray, List.set_cons_zero, List.set_cons_succ]
          refine wpAnyH_take (i := 1) (oi := { dst := some 72, op := Op.load 24 (Operand.tmp 7), type := 24, pos := "law.go:99", after := #[], guard := none }) (v := ?vv51) rfl (by kernel_rfl) (by kernel_rfl) (by kernel_rfl) (fun _ _ _ h => h) (Or.inl ⟨by rfl, ?hy51⟩) hHeld ?rest51
          case hy51 => (intro wS hSw; (try dsimp only at hSw); go_simp; try with_reducible rfl)
          simp only [Act.put, List.setIfInBounds_toArray, List.set_cons_zero, List.set_cons_succ]
          refine wpAnyH_ready (rs := [2]) (by kernel_rfl) (by simp) ?_
          refine AllReadyH.cons (o := { dst := some 73, op := Op.call { callee := Callee.value (Operand.func 31), args := #[Operand.tmp 71, Operand.tmp 72], argTypes := #[24, 24] }, type := 4, pos := "law.go:99", after := #[{ on := 0, ground := Ground.data }, { on := 1, ground := Ground.data }], guard := none }) rfl (fun K hK => ?_) AllReadyH.nil
          go_simp
          with_reducible refine (Qca.out _ _ _ (KS.out _ hcall.out).2.2.1.rc (KS.out _ hcall.out).1.rc).mono ?_
          rintro e wq ⟨rfl, hb'⟩
          replace hcall := Lib.hid (hcall.out.trans (hb'.mono hcall.out.size))
          clear hb' hHeld
          try go_wp2_with fail
          refine hK.out _ _ (SC.out _ hcall.out) (fun hHeld => ?_)
          clear hK K
          try simp only [Act.put, List.setIfInBounds_toArray, List.set_cons_zero, List.set_cons_succ]
          refine wpAnyH_take (i := 3) (oi := { dst := some 74, op := Op.unOp UnOp.not 4 (Operand.tmp 73), type := 4, pos := "law.go:99", after := #[{ on := 2, ground := Ground.data }], guard := none }) (v := ?vv52) rfl (by kernel_rfl) (by kernel_rfl) (by kernel_rfl) (fun _ _ _ h => h) (Or.inl ⟨by rfl, ?hy52⟩) hHeld ?rest52
          case hy52 => (intro wS hSw; (try dsimp only at hSw); go_simp; try with_reducible rfl)
          simp only [Act.put, List.setIfInBounds_toArray, List.set_cons_zero, List.set_cons_succ]
          refine wpAnyH_take (i := 4) (oi := { dst := some 75, op := Op.move (Operand.tmp 74), type := 4, pos := "law.go:99", after := #[{ on := 3, ground := Ground.data }, { on := 2, ground := Ground.chain }], guard := none }) (v := ?vv53) rfl (by kernel_rfl) (by kernel_rfl) (by kernel_rfl) (fun _ _ _ h => h) (Or.inl ⟨by rfl, ?hy53⟩) hHeld ?rest53
          case hy53 => (intro wS hSw; (try dsimp only at hSw); go_simp; try with_reducible rfl)
          simp only [Act.put, List.setIfInBounds_toArray, List.set_cons_zero, List.set_cons_succ]
          refine wpAnyH_take (i := 5) (oi := { dst := some 76, op := Op.load 24 (Operand.tmp 9), type := 24, pos := "law.go:99", after := #[{ on := 4, ground := Ground.guard }], guard := some (4, false) }) (v := ?vv54) rfl (by kernel_rfl) (by kernel_rfl) (by kernel_rfl) (fun _ _ _ h => h) (Or.inl ⟨by rfl, ?hy54⟩) hHeld ?rest54
          case hy54 => (intro wS hSw; (try dsimp only at hSw); go_simp; try with_reducible rfl)
          simp only [Act.put, List.setIfInBounds_toArray, List.set_cons_zero, List.set_cons_succ]
          refine wpAnyH_take (i := 6) (oi := { dst := some 77, op := Op.load 24 (Operand.tmp 8), type := 24, pos := "law.go:99", after := #[{ on := 4, ground := Ground.guard }], guard := some (4, false) }) (v := ?vv55) rfl (by kernel_rfl) (by kernel_rfl) (by kernel_rfl) (fun _ _ _ h => h) (Or.inl ⟨by rfl, ?hy55⟩) hHeld ?rest55
          case hy55 => (intro wS hSw; (try dsimp only at hSw); go_simp; try with_reducible rfl)
          simp only [Act.put, List.setIfInBounds_toArray, List.set_cons_zero, List.set_cons_succ]
          refine wpAnyH_take (i := 8) (oi := { dst := some 79, op := Op.load 24 (Operand.tmp 9), type := 24, pos := "law.go:99", after := #[{ on := 4, ground := Ground.guard }], guard := some (4, false) }) (v := ?vv56) rfl (by kernel_rfl) (by kernel_rfl) (by kernel_rfl) (fun _ _ _ h => h) (Or.inl ⟨by rfl, ?hy56⟩) hHeld ?rest56
          case hy56 => (intro wS hSw; (try dsimp only at hSw); go_simp; try with_reducible rfl)
          simp only [Act.put, List.setIfInBounds_toArray, List.set_cons_zero, List.set_cons_succ]
          refine wpAnyH_take (i := 9) (oi := { dst := some 80, op := Op.load 24 (Operand.tmp 11), type := 24, pos := "law.go:99", after := #[{ on := 4, ground := Ground.guard }], guard := some (4, false) }) (v := ?vv57) rfl (by kernel_rfl) (by kernel_rfl) (by kernel_rfl) (fun _ _ _ h => h) (Or.inl ⟨by rfl, ?hy57⟩) hHeld ?rest57
          case hy57 => (intro wS hSw; (try dsimp only at hSw); go_simp; try with_reducible rfl)
          simp only [Act.put, List.setIfInBounds_toArray, List.set_cons_zero, List.set_cons_succ]
          refine wpAnyH_ready (rs := [7]) (by kernel_rfl) (by simp) ?_
          refine AllReadyH.cons (o := { dst := some 78, op := Op.call { callee := Callee.value (Operand.func 31), args := #[Operand.tmp 76, Operand.tmp 77], argTypes := #[24, 24] }, type := 4, pos := "law.go:99", after := #[{ on := 5, ground := Ground.data }, { on := 6, ground := Ground.data }, { on := 4, ground := Ground.chain }, { on := 4, ground := Ground.guard }], guard := some (4, false) }) rfl (fun K hK => ?_) AllReadyH.nil
          go_simp
          with_reducible refine (Qcb.out _ _ _ (KS.out _ hcall.out).2.2.1.rc (KS.out _ hcall.out).2.1.rc).mono ?_
          rintro e wq ⟨rfl, hb'⟩
          replace hcall := Lib.hid (hcall.out.trans (hb'.mono hcall.out.size))
          clear hb' hHeld
          try go_wp2_with fail
          refine hK.out _ _ (SC.out _ hcall.out) (fun hHeld => ?_)
          clear hK K
          try simp only [Act.put, List.setIfInBounds_toArray, List.set_cons_zero, List.set_cons_succ]
          refine wpAnyH_ready (rs := [10]) (by kernel_rfl) (by simp) ?_
          refine AllReadyH.cons (o := { dst := some 81, op := Op.call { callee := Callee.value (Operand.func 31), args := #[Operand.tmp 79, Operand.tmp 80], argTypes := #[24, 24] }, type := 4, pos := "law.go:99", after := #[{ on := 8, ground := Ground.data }, { on := 9, ground := Ground.data }, { on := 7, ground := Ground.chain }, { on := 4, ground := Ground.guard }], guard := some (4, false) }) rfl (fun K hK => ?_) AllReadyH.nil
          go_simp
          with_reducible refine (Qcm.out _ _ _ (KS.out _ hcall.out).2.2.1.rc (KS.out _ hcall.out).2.2.2.2.1.rc).mono ?_
          rintro e wq ⟨rfl, hb'⟩
          replace hcall := Lib.hid (hcall.out.trans (hb'.mono hcall.out.size))
          clear hb' hHeld
          try go_wp2_with fail
          refine hK.out _ _ (SC.out _ hcall.out) (fun hHeld => ?_)
          clear hK K
          try simp only [Act.put, List.setIfInBounds_toArray, List.set_cons_zero, List.set_cons_succ]
          refine wpAnyH_take (i := 11) (oi := { dst := some 82, op := Op.binOp BinOp.eql 4 (Operand.tmp 78) (Operand.tmp 81) 4, type := 4, pos := "law.go:99", after := #[{ on := 7, ground := Ground.data }, { on := 10, ground := Ground.data }, { on := 4, ground := Ground.guard }], guard := some (4, false) }) (v := ?vv58) rfl (by kernel_rfl) (by kernel_rfl) (by kernel_rfl) (fun _ _ _ h => h) (Or.inl ⟨by rfl, ?hy58⟩) hHeld ?rest58
          case hy58 => (intro wS hSw; (try dsimp only at hSw); go_simp; try with_reducible rfl)
          simp only [Act.put, List.setIfInBounds_toArray, List.set_cons_zero, List.set_cons_succ]
          refine wpAnyH_take (i := 12) (oi := { dst := some 83, op := Op.pick (Operand.tmp 75) (Operand.const (Value.bool true)) (Operand.tmp 82), type := 4, pos := "law.go:99", after := #[{ on := 4, ground := Ground.data }, { on := 11, ground := Ground.data }], guard := none }) (v := ?vv59) rfl (by kernel_rfl) (by kernel_rfl) (by kernel_rfl) (fun _ _ _ h => h) (Or.inl ⟨by rfl, ?hy59⟩) hHeld ?rest59
          case hy59 => (intro wS hSw; (try dsimp only at hSw); go_simp; try with_reducible rfl)
          simp only [Act.put, List.setIfInBounds_toArray, List.set_cons_zero, List.set_cons_succ]
          refine wpAnyH_take (i := 13) (oi := { dst := some 6, op := Op.assign (Operand.tmp 83), type := 4, pos := "law.go:99", after := #[{ on := 12, ground := Ground.data }, { on := 10, ground := Ground.chain }, { on := 0, ground := Ground.phase }, { on := 1, ground := Ground.phase }, { on := 2, ground := Ground.phase }, { on := 3, ground := Ground.phase }, { on := 4, ground := Ground.phase }, { on := 5, ground := Ground.phase }, { on := 6, ground := Ground.phase }, { on := 7, ground := Ground.phase }, { on := 8, ground := Ground.phase }, { on := 9, ground := Ground.phase }, { on := 10, ground := Ground.phase }, { on := 11, ground := Ground.phase }, { on := 12, ground := Ground.phase }], guard := none }) (v := ?vv60) rfl (by kernel_rfl) (by kernel_rfl) (by kernel_rfl) (fun _ _ _ h => h) (Or.inl ⟨by rfl, ?hy60⟩) hHeld ?rest60
          case hy60 => (intro wS hSw; (try dsimp only at hSw); go_simp; try with_reducible rfl)
          simp only [Act.put, List.setIfInBounds_toArray, List.set_cons_zero, List.set_cons_succ]
          refine wpAnyH_done (by kernel_rfl) ?_ _
          all_goals
            go_wp2_with fail
            go_ret
            exact ⟨by first | rfl | simp, (KS.out _ hcall.out).2.2.2.2.2⟩
        · clear HC2
          refine wp_region_held_drew (S := fun w' => w'.cell? ⟨A0, 0, none⟩ = some (.int .i64 D0) ∧ w'.cell? ⟨A0, 1, none⟩ = some ((.slice a0 n0 c0)) ∧ w'.cell? ⟨A1, 0, none⟩ = some (.int .i64 D1) ∧ w'.cell? ⟨A1, 1, none⟩ = some ((.slice a1 n1 c1)) ∧ w'.cell? ⟨A2, 0, none⟩ = some (.int .i64 D2) ∧ w'.cell? ⟨A2, 1, none⟩ = some ((.slice a2 n2 c2)) ∧ w'.cell? ⟨A3, 0, none⟩ = some (.int .i64 Mj) ∧ w'.cell? ⟨A3, 1, none⟩ = some ((.slice a3 n3 c3)) ∧ w'.cell? ⟨A4, 0, none⟩ = some (.int .i64 Mm) ∧ w'.cell? ⟨A4, 1, none⟩ = some ((.slice a4 n4 c4))) (by kernel_rfl) (SC.out _ hcall.out) (fun hHeld => ?_)
          refine wpAnyH_take (i := 0) (oi := { dst := some 71, op := Op.load 24 (Operand.tmp 9), type := 24, pos := "law.go:99", after := #[], guard := none }) (v := ?vv61) rfl (by kernel_rfl) (by kernel_rfl) (by kernel_rfl) (fun _ _ _ h => h) (Or.inl ⟨by rfl, ?hy61⟩) hHeld ?rest61
          case hy61 => (intro wS hSw; (try dsimp only at hSw); go_simp; try with_reducible rfl)
          simp only [Act.put, List.setIfInBounds_toArray, List.set_cons_zero, List.set_cons_succ]
          refine wpAnyH_take (i := 1) (oi := { dst := some 72, op := Op.load 24 (Operand.tmp 7), type := 24, pos := "law.go:99", after := #[], guard := none }) (v := ?vv62) rfl (by kernel_rfl) (by kernel_rfl) (by kernel_rfl) (fun _ _ _ h => h) (Or.inl ⟨by rfl, ?hy62⟩) hHeld ?rest62
          case hy62 => (intro wS hSw; (try dsimp only at hSw); go_simp; try with_reducible rfl)
          simp only [Act.put, List.setIfInBounds_toArray, List.set_cons_zero, List.set_cons_succ]
          refine wpAnyH_ready (rs := [2]) (by kernel_rfl) (by simp) ?_
          refine AllReadyH.cons (o := { dst := some 73, op := Op.call { callee := Callee.value (Operand.func 31), args := #[Operand.tmp 71, Operand.tmp 72], argTypes := #[24, 24] }, type := 4, pos := "law.go:99", after := #[{ on := 0, ground := Ground.data }, { on := 1, ground := Ground.data }], guard := none }) rfl (fun K hK => ?_) AllReadyH.nil
          go_simp
          with_reducible refine (Qca.out _ _ _ (KS.out _ hcall.out).2.2.1.rc (KS.out _ hcall.out).1.rc).mono ?_
          rintro e wq ⟨rfl, hb'⟩
          replace hcall := Lib.hid (hcall.out.trans (hb'.mono hcall.out.size))
          clear hb' hHeld
          try go_wp2_with fail
          refine hK.out _ _ (SC.out _ hcall.out) (fun hHeld => ?_)
          clear hK K
          try simp only [Act.put, List.setIfInBounds_toArray, List.set_cons_zero, List.set_cons_succ]
          refine wpAnyH_take (i := 3) (oi := { dst := some 74, op := Op.unOp UnOp.not 4 (Operand.tmp 73), type := 4, pos := "law.go:99", after := #[{ on := 2, ground := Ground.data }], guard := none }) (v := ?vv63) rfl (by kernel_rfl) (by kernel_rfl) (by kernel_rfl) (fun _ _ _ h => h) (Or.inl ⟨by rfl, ?hy63⟩) hHeld ?rest63
          case hy63 => (intro wS hSw; (try dsimp only at hSw); go_simp; try with_reducible rfl)
          simp only [Act.put, List.setIfInBounds_toArray, List.set_cons_zero, List.set_cons_succ]
          refine wpAnyH_take (i := 4) (oi := { dst := some 75, op := Op.move (Operand.tmp 74), type := 4, pos := "law.go:99", after := #[{ on := 3, ground := Ground.data }, { on := 2, ground := Ground.chain }], guard := none }) (v := ?vv64) rfl (by kernel_rfl) (by kernel_rfl) (by kernel_rfl) (fun _ _ _ h => h) (Or.inl ⟨by rfl, ?hy64⟩) hHeld ?rest64
          case hy64 => (intro wS hSw; (try dsimp only at hSw); go_simp; try with_reducible rfl)
          simp only [Act.put, List.setIfInBounds_toArray, List.set_cons_zero, List.set_cons_succ]
          refine wpAnyH_take (i := 5) (oi := { dst := some 76, op := Op.load 24 (Operand.tmp 9), type := 24, pos := "law.go:99", after := #[{ on := 4, ground := Ground.guard }], guard := some (4, false) }) (v := ?vv65) rfl (by kernel_rfl) (by kernel_rfl) (by kernel_rfl) (fun _ _ _ h => h) (Or.inl ⟨by rfl, ?hy65⟩) hHeld ?rest65
          case hy65 => (intro wS hSw; (try dsimp only at hSw); go_simp; try with_reducible rfl)
          simp only [Act.put, List.setIfInBounds_toArray, List.set_cons_zero, List.set_cons_succ]
          refine wpAnyH_take (i := 6) (oi := { dst := some 77, op := Op.load 24 (Operand.tmp 8), type := 24, pos := "law.go:99", after := #[{ on := 4, ground := Ground.guard }], guard := some (4, false) }) (v := ?vv66) rfl (by kernel_rfl) (by kernel_rfl) (by kernel_rfl) (fun _ _ _ h => h) (Or.inl ⟨by rfl, ?hy66⟩) hHeld ?rest66
          case hy66 => (intro wS hSw; (try dsimp only at hSw); go_simp; try with_reducible rfl)
          simp only [Act.put, List.setIfInBounds_toArray, List.set_cons_zero, List.set_cons_succ]
          refine wpAnyH_take (i := 8) (oi := { dst := some 79, op := Op.load 24 (Operand.tmp 9), type := 24, pos := "law.go:99", after := #[{ on := 4, ground := Ground.guard }], guard := some (4, false) }) (v := ?vv67) rfl (by kernel_rfl) (by kernel_rfl) (by kernel_rfl) (fun _ _ _ h => h) (Or.inl ⟨by rfl, ?hy67⟩) hHeld ?rest67
          case hy67 => (intro wS hSw; (try dsimp only at hSw); go_simp; try with_reducible rfl)
          simp only [Act.put, List.setIfInBounds_toArray, List.set_cons_zero, List.set_cons_succ]
          refine wpAnyH_take (i := 9) (oi := { dst := some 80, op := Op.load 24 (Operand.tmp 11), type := 24, pos := "law.go:99", after := #[{ on := 4, ground := Ground.guard }], guard := some (4, false) }) (v := ?vv68) rfl (by kernel_rfl) (by kernel_rfl) (by kernel_rfl) (fun _ _ _ h => h) (Or.inl ⟨by rfl, ?hy68⟩) hHeld ?rest68
          case hy68 => (intro wS hSw; (try dsimp only at hSw); go_simp; try with_reducible rfl)
          simp only [Act.put, List.setIfInBounds_toArray, List.set_cons_zero, List.set_cons_succ]
          refine wpAnyH_ready (rs := [7]) (by kernel_rfl) (by simp) ?_
          refine AllReadyH.cons (o := { dst := some 78, op := Op.call { callee := Callee.value (Operand.func 31), args := #[Operand.tmp 76, Operand.tmp 77], argTypes := #[24, 24] }, type := 4, pos := "law.go:99", after := #[{ on := 5, ground := Ground.data }, { on := 6, ground := Ground.data }, { on := 4, ground := Ground.chain }, { on := 4, ground := Ground.guard }], guard := some (4, false) }) rfl (fun K hK => ?_) AllReadyH.nil
          go_simp
          with_reducible refine (Qcb.out _ _ _ (KS.out _ hcall.out).2.2.1.rc (KS.out _ hcall.out).2.1.rc).mono ?_
          rintro e wq ⟨rfl, hb'⟩
          replace hcall := Lib.hid (hcall.out.trans (hb'.mono hcall.out.size))
          clear hb' hHeld
          try go_wp2_with fail
          refine hK.out _ _ (SC.out _ hcall.out) (fun hHeld => ?_)
          clear hK K
          try simp only [Act.put, List.setIfInBounds_toArray, List.set_cons_zero, List.set_cons_succ]
          refine wpAnyH_ready (rs := [10]) (by kernel_rfl) (by simp) ?_
          refine AllReadyH.cons (o := { dst := some 81, op := Op.call { callee := Callee.value (Operand.func 31), args := #[Operand.tmp 79, Operand.tmp 80], argTypes := #[24, 24] }, type := 4, pos := "law.go:99", after := #[{ on := 8, ground := Ground.data }, { on := 9, ground := Ground.data }, { on := 7, ground := Ground.chain }, { on := 4, ground := Ground.guard }], guard := some (4, false) }) rfl (fun K hK => ?_) AllReadyH.nil
          go_simp
          with_reducible refine (Qcm.out _ _ _ (KS.out _ hcall.out).2.2.1.rc (KS.out _ hcall.out).2.2.2.2.1.rc).mono ?_
          rintro e wq ⟨rfl, hb'⟩
          replace hcall := Lib.hid (hcall.out.trans (hb'.mono hcall.out.size))
          clear hb' hHeld
          try go_wp2_with fail
          refine hK.out _ _ (SC.out _ hcall.out) (fun hHeld => ?_)
          clear hK K
          try simp only [Act.put, List.setIfInBounds_toArray, List.set_cons_zero, List.set_cons_succ]
          refine wpAnyH_take (i := 11) (oi := { dst := some 82, op := Op.binOp BinOp.eql 4 (Operand.tmp 78) (Operand.tmp 81) 4, type := 4, pos := "law.go:99", after := #[{ on := 7, ground := Ground.data }, { on := 10, ground := Ground.data }, { on := 4, ground := Ground.guard }], guard := some (4, false) }) (v := ?vv69) rfl (by kernel_rfl) (by kernel_rfl) (by kernel_rfl) (fun _ _ _ h => h) (Or.inl ⟨by rfl, ?hy69⟩) hHeld ?rest69
          case hy69 => (intro wS hSw; (try dsimp only at hSw); go_simp; try with_reducible rfl)
          simp only [Act.put, List.setIfInBounds_toArray, List.set_cons_zero, List.set_cons_succ]
          refine wpAnyH_take (i := 12) (oi := { dst := some 83, op := Op.pick (Operand.tmp 75) (Operand.const (Value.bool true)) (Operand.tmp 82), type := 4, pos := "law.go:99", after := #[{ on := 4, ground := Ground.data }, { on := 11, ground := Ground.data }], guard := none }) (v := ?vv70) rfl (by kernel_rfl) (by kernel_rfl) (by kernel_rfl) (fun _ _ _ h => h) (Or.inl ⟨by rfl, ?hy70⟩) hHeld ?rest70
          case hy70 => (intro wS hSw; (try dsimp only at hSw); go_simp; try with_reducible rfl)
          simp only [Act.put, List.setIfInBounds_toArray, List.set_cons_zero, List.set_cons_succ]
          refine wpAnyH_take (i := 13) (oi := { dst := some 6, op := Op.assign (Operand.tmp 83), type := 4, pos := "law.go:99", after := #[{ on := 12, ground := Ground.data }, { on := 10, ground := Ground.chain }, { on := 0, ground := Ground.phase }, { on := 1, ground := Ground.phase }, { on := 2, ground := Ground.phase }, { on := 3, ground := Ground.phase }, { on := 4, ground := Ground.phase }, { on := 5, ground := Ground.phase }, { on := 6, ground := Ground.phase }, { on := 7, ground := Ground.phase }, { on := 8, ground := Ground.phase }, { on := 9, ground := Ground.phase }, { on := 10, ground := Ground.phase }, { on := 11, ground := Ground.phase }, { on := 12, ground := Ground.phase }], guard := none }) (v := ?vv71) rfl (by kernel_rfl) (by kernel_rfl) (by kernel_rfl) (fun _ _ _ h => h) (Or.inl ⟨by rfl, ?hy71⟩) hHeld ?rest71
          case hy71 => (intro wS hSw; (try dsimp only at hSw); go_simp; try with_reducible rfl)
          simp only [Act.put, List.setIfInBounds_toArray, List.set_cons_zero, List.set_cons_succ]
          refine wpAnyH_done (by kernel_rfl) ?_ _
          all_goals
            go_wp2_with fail
            go_ret
            exact ⟨by first | rfl | simp, (KS.out _ hcall.out).2.2.2.2.2⟩
end Go.Proofs.Ytlkhbbdigljpjaa
