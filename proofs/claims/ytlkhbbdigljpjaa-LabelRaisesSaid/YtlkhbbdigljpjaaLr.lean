import Derived.Test.YtlkhbbdigljpjaaLo
namespace Go.Proofs.Ytlkhbbdigljpjaa
open Go.RowKit
set_option linter.unusedVariables false
set_option linter.unusedSimpArgs false

/-- What Owns gives, as it is read. -/
def OG (W : World) (cs : List Nat) (e : Ending) (w' : World) : Prop := ∃ a c, e = .returned (.slice a cs.length c) ∧ (∀ k x, cs[k]? = some x → ∃ bc oc, a = some ⟨bc, oc, none⟩ ∧ bc < w'.heap.size ∧ w'.cell? ⟨bc, oc + k, none⟩ = some (.int .u32 (x : Nat))) ∧ Below W.heap.size W w'
theorem og_of {W w' : World} {v : Value} {cs : List Nat} {e : Ending} (h1 : e = .returned v) (h2 : w'.ownsRow (W.heap.size + 1) 37 1 v cs.length (U cs)) (h3 : Below W.heap.size W w') (hn : cs.length ≤ 1000000) : OG W cs e w' := by
  rcases readsV_of_owns h2 (by omega) with ⟨rfl, hc⟩ | ⟨bc, oc, cc, rfl, hbc, _, hcc⟩
  · have : cs = [] := by simpa [U] using hc
    subst this
    exact ⟨none, 0, h1, fun k x hk => by simp at hk, h3⟩
  · exact ⟨some ⟨bc, oc, none⟩, cc, by simpa [U] using h1, fun k x hk => ⟨bc, oc, rfl, hbc, hcc k _ (by unfold U; rw [List.getElem?_map, hk]; rfl)⟩, h3⟩
theorem Lab.owns_le (ps : List (Nat × Int)) : (Lab.owns ps).length ≤ ps.length := by have := Lab.owns_len ps ps.length; rwa [List.take_length] at this
theorem owns_c {D : Int} {v1 : Value} {ps : List (Nat × Int)} {W : World} (r1 : RC W.heap.size W v1 ps) (hn : ps.length ≤ 1000000) : Calls Try.prog 26 #[.agg #[.int .i64 D, v1]] W (OG W (Lab.owns ps)) :=
  (powns_any v1 ps D W (r1.reads (Nat.le_refl _)) (by omega)).mono fun e w' ⟨v, h1, h2, h3⟩ => og_of h1 h2 h3 (by have := Lab.owns_le ps; omega)
theorem rowns_c {D : Int} {v1 : Value} {ps : List (Nat × Int)} {W : World} (r1 : RC W.heap.size W v1 ps) (hn : ps.length ≤ 1000000) : Calls Try.prog 27 #[.agg #[.int .i64 D, v1]] W (OG W (Lab.owns ps)) :=
  (owns_any v1 ps D W (r1.reads (Nat.le_refl _)) (by omega)).mono fun e w' ⟨v, h1, h2, h3⟩ => og_of h1 h2 h3 (by have := Lab.owns_le ps; omega)
theorem at_c {D l : Int} {v1 : Value} {ps : List (Nat × Int)} {W : World} {c : Nat} (o1 : Lab.Ok D ps) (r1 : RC W.heap.size W v1 ps) (h : Lab.at' D ps c = l) : Calls Try.prog 28 #[.agg #[.int .i64 D, v1], .int .u32 c] W fun e w' => e = .returned (.int .i64 l) ∧ Below W.heap.size W w' := by
  have := pat_any v1 ps D c W o1.1 (r1.reads (Nat.le_refl _)); rwa [h] at this
theorem rat_c {D l : Int} {v1 : Value} {ps : List (Nat × Int)} {W : World} {c : Nat} (r1 : RC W.heap.size W v1 ps) (h : Lab.at' D ps c = l) : Calls Try.prog 29 #[.agg #[.int .i64 D, v1], .int .u32 c] W fun e w' => e = .returned (.int .i64 l) ∧ Below W.heap.size W w' := by
  have := at_any v1 ps D c W (r1.reads (Nat.le_refl _)); rwa [h] at this
theorem turn_ge {b x : Int} (h0 : 0 ≤ x) (hb : 0 ≤ b) : x ≤ Lab.turn 0 b x := by unfold Lab.turn; split <;> omega
theorem leq_turn {b D : Int} {ps : List (Nat × Int)} (h : Lab.Fine D ps) (hb : 0 ≤ b) : ∀ c, Lab.at' D ps c ≤ Lab.at' (Lab.turn 0 b D) (Lab.tn 0 b D ps) c := fun c => by
  rw [Lab.tn_at h.1]; exact turn_ge (fine_at h c).1 hb
theorem leq_raise_of {D E : Int} {ps qs : List (Nat × Int)} (h2 : Lab.Fine E qs) (h : ∀ c, Lab.at' D ps c ≤ Lab.at' E qs c) : ∀ c, Lab.at' D ps c ≤ Lab.at' (Lab.turn 0 5 E) (Lab.tn 0 5 E qs) c := fun c => Int.le_trans (h c) (leq_turn h2 (by omega) c)
theorem mem_owns {ps : List (Nat × Int)} {c : Nat} (h : c ∈ Lab.owns ps) : (c, (0 : Int)) ∈ ps := by
  unfold Lab.owns at h
  obtain ⟨p, hp, rfl⟩ := List.mem_map.1 h
  obtain ⟨h1, h2⟩ := List.mem_filter.1 hp
  have : p.2 = 0 := by simpa using h2
  rw [← this]; exact h1
theorem at_owned {b D : Int} {ps : List (Nat × Int)} (o : Lab.Ok D ps) {c : Nat} {k : Nat} (h : (Lab.owns ps)[k]? = some c) : Lab.at' (Lab.turn 0 b D) (Lab.tn 0 b D ps) c = b := by
  rw [Lab.tn_at o, Lab.at_mem o.1 (mem_owns (List.mem_of_getElem? h))]; simp [Lab.turn]
theorem owns_raised {D : Int} {ps : List (Nat × Int)} (o : Lab.Ok D ps) : Lab.owns (Lab.tn 0 5 D ps) = [] := by
  rw [List.eq_nil_iff_forall_not_mem]
  intro c hc
  have h1 := Lab.at_mem (D := Lab.turn 0 5 D) (Lab.tn_ok (a := 0) (b := 5) o).1 (mem_owns hc)
  rw [Lab.tn_at o] at h1
  unfold Lab.turn at h1
  split at h1 <;> simp_all
theorem same_raised {D : Int} {ps : List (Nat × Int)} (h : Lab.Fine D ps) (hn : (Lab.owns ps).length = 0) : D = Lab.turn 0 5 D ∧ ps = Lab.tn 0 5 D ps := by
  have hD : D = Lab.turn 0 5 D := by unfold Lab.turn; rw [if_neg (by have := h.2.1; omega)]
  refine pair_ext h.1 (Lab.tn_ok h.1) hD fun c => ?_
  rw [Lab.tn_at h.1]
  unfold Lab.turn
  split
  · next he =>
    exfalso
    have hD1 := h.2.1
    obtain ⟨p, hp, rfl⟩ := Lab.at_ne (D := D) (ps := ps) (c := c) (by omega)
    rw [Lab.at_mem h.1.1 hp] at he
    have : p.1 ∈ Lab.owns ps := by unfold Lab.owns; exact List.mem_map.2 ⟨p, List.mem_filter.2 ⟨hp, by simp [he]⟩, rfl⟩
    rw [List.eq_nil_of_length_eq_zero hn] at this
    cases this
  · rfl
set_option maxRecDepth 100000 in
set_option maxHeartbeats 4000000 in
theorem raises_law (S0 S1 : Int) (v0 v1 : Value) (w : World) (h0 : Ints w v0) (h1 : Ints w v1) :
    Calls Try.prog 8 #[.agg #[.int .i64 S0, v0], .agg #[.int .i64 S1, v1]] w fun e w' => e = .returned (.bool true) ∧ Below w.heap.size w w' := by
  obtain ⟨va0, vn0, vc0, rfl⟩ : ∃ a n c, v0 = .slice a n c := by rcases h0 with ⟨a, c, rfl⟩ | ⟨b, off, cap, n, ls, rfl, _⟩ <;> exact ⟨_, _, _, rfl⟩
  obtain ⟨va1, vn1, vc1, rfl⟩ : ∃ a n c, v1 = .slice a n c := by rcases h1 with ⟨a, c, rfl⟩ | ⟨b, off, cap, n, ls, rfl, _⟩ <;> exact ⟨_, _, _, rfl⟩
  have HI0 := Lib.hid h0
  have HI1 := Lib.hid h1
  have HFit := Lib.hid (fun (W : World) => fit_any W)
  obtain ⟨W0, e0⟩ : ∃ W0, W0 = ((w.alloc (Obj.cells #[.int .i64 S0, .slice va0 vn0 vc0] 29)).alloc (Obj.cells #[.int .i64 S1, .slice va1 vn1 vc1] 29)) := ⟨_, rfl⟩
  have hB : Below w.heap.size w W0 := by rw [e0]; exact ((Below.refl _ _).alloc (Nat.le_refl _) _).alloc (by simp <;> omega) _
  have hk0 : W0.heap[w.heap.size]? = some (Obj.cells #[.int .i64 S0, .slice va0 vn0 vc0] 29) := by
    rw [e0]
    rw [Below.heap_alloc _ _ _ (by simp <;> omega)]
    have := heap_alloc_new w (Obj.cells #[.int .i64 S0, .slice va0 vn0 vc0] 29); simpa using this
  have hk1 : W0.heap[w.heap.size + 1]? = some (Obj.cells #[.int .i64 S1, .slice va1 vn1 vc1] 29) := by
    rw [e0]
    have := heap_alloc_new (w.alloc (Obj.cells #[.int .i64 S0, .slice va0 vn0 vc0] 29)) (Obj.cells #[.int .i64 S1, .slice va1 vn1 vc1] 29); simpa using this
  have HB := Lib.hid hB
  have HK := Lib.hid (show W0.heap[w.heap.size]? = some (Obj.cells #[.int .i64 S0, .slice va0 vn0 vc0] 29) ∧ W0.heap[w.heap.size + 1]? = some (Obj.cells #[.int .i64 S1, .slice va1 vn1 vc1] 29) from ⟨hk0, hk1⟩)
  clear h0 h1 hB hk0 hk1
  go_enter Try.func8, Try.ntmps8
  go_wp2_with fail
  rw [← e0]
  clear e0
  refine (HFit.out _).mono ?_
  rintro e w1 ⟨rfl, hb1⟩
  have hS : ∀ wx, Below w1.heap.size w1 wx → Below w.heap.size w wx ∧ wx.cell? ⟨w.heap.size, 0, none⟩ = some (.int .i64 S0) ∧ wx.cell? ⟨w.heap.size, 1, none⟩ = some (.slice va0 vn0 vc0) ∧ wx.cell? ⟨w.heap.size + 1, 0, none⟩ = some (.int .i64 S1) ∧ wx.cell? ⟨w.heap.size + 1, 1, none⟩ = some (.slice va1 vn1 vc1) := fun wx hx => by
    have h0 := hb1.trans (hx.mono hb1.size)
    have r0 : wx.heap[w.heap.size]? = some (Obj.cells #[.int .i64 S0, .slice va0 vn0 vc0] 29) := by rw [h0.block _ (Array.getElem?_eq_some_iff.1 HK.out.1).1]; exact HK.out.1
    have r1 : wx.heap[w.heap.size + 1]? = some (Obj.cells #[.int .i64 S1, .slice va1 vn1 vc1] 29) := by rw [h0.block _ (Array.getElem?_eq_some_iff.1 HK.out.2).1]; exact HK.out.2
    exact ⟨HB.out.trans (h0.mono HB.out.size), by rw [cell_of_row _ _ 0 _ 29 (0, 0) r0]; rfl, by rw [cell_of_row _ _ 1 _ 29 (0, 0) r0]; rfl, by rw [cell_of_row _ _ 0 _ 29 (0, 0) r1]; rfl, by rw [cell_of_row _ _ 1 _ 29 (0, 0) r1]; rfl⟩
  have HS := Lib.hid hS
  clear hS hb1
  go_upto_region 3 with fail
  have hcall := Lib.hid ((Below.refl w1.heap.size w1).drew)
  have C0 := Lib.hid (fun (W : World) (h : Below w1.heap.size w1 W) => seed_form S0 (.slice va0 vn0 vc0) W (HI0.out.below (HS.out W h).1))
  have C1 := Lib.hid (fun (W : World) (h : Below w1.heap.size w1 W) => seed_form S1 (.slice va1 vn1 vc1) W (HI1.out.below (HS.out W h).1))
  have SS := Lib.hid (fun (wx : World) (h : Below w1.heap.size w1 wx) => ((HS.out wx h).2 : wx.cell? ⟨w.heap.size, 0, none⟩ = some (.int .i64 S0) ∧ wx.cell? ⟨w.heap.size, 1, none⟩ = some (.slice va0 vn0 vc0) ∧ wx.cell? ⟨w.heap.size + 1, 0, none⟩ = some (.int .i64 S1) ∧ wx.cell? ⟨w.heap.size + 1, 1, none⟩ = some (.slice va1 vn1 vc1)))
  go_cut [5, 6, 12, 13, 14, 15] (fun s5 s6 s12 s13 s14 s15 wx => ∃ A0 D0 ps0 a0 n0 c0 A1 D1 ps1 a1 n1 c1, s5 = .pointer (some ⟨A0, 0, none⟩) ∧ s6 = .pointer (some ⟨A1, 0, none⟩) ∧ Hid (Lbl wx A0 D0 (.slice a0 n0 c0) ps0 ∧ Lbl wx A1 D1 (.slice a1 n1 c1) ps1 ∧ Lab.Fine D0 ps0 ∧ Lab.Fine D1 ps1 ∧ Below w1.heap.size w1 wx))
  case first =>
    refine wp_region_any (by kernel_rfl) ?_
    refine wpAny_inv (I := fun L a wz => ∃ y5 y6 y12 y13 y14 y15 : Value, a = { tmps := #[.agg #[.int .i64 S0, .slice va0 vn0 vc0], .agg #[.int .i64 S1, .slice va1 vn1 vc1], .pointer (some ⟨w.heap.size, 0, none⟩), .pointer (some ⟨w.heap.size + 1, 0, none⟩), .bool false, y5, y6, undef, undef, undef, .bool true, .bool false, y12, y13, y14, y15, undef, undef, undef, undef, undef, undef, undef, undef, undef, undef, undef, undef, undef, undef, undef, undef, undef, undef, undef, undef, undef, undef, undef, undef, undef, undef, undef, undef, undef, undef, undef, undef, undef, undef, undef, undef, undef, undef, undef, undef, undef, undef, undef, undef, undef, undef, undef, undef, undef, undef, undef, undef, undef, undef, undef, undef, undef, undef, undef, undef, undef, undef, undef, undef, undef], defers := [] } ∧ Hid (L.size = 8 ∧ Below w1.heap.size w1 wz ∧ (L[0]? = some true → y12 = .agg #[.int .i64 S0, .slice va0 vn0 vc0]) ∧ (L[1]? = some true → LV w1 wz Lab.Fine y13) ∧ (L[2]? = some true → y14 = .agg #[.int .i64 S1, .slice va1 vn1 vc1]) ∧ (L[3]? = some true → LV w1 wz Lab.Fine y15) ∧ (L[4]? = some true → AV w1 wz y5) ∧ (L[5]? = some true → AV w1 wz y6) ∧ (L[4]? = some true → L[5]? = some true → y5 ≠ y6) ∧ (L[6]? = some true → SV wz y5 y13) ∧ (L[7]? = some true → SV wz y6 y15) ∧ (L[6]? = some true → (L[4]? = some true ∧ L[1]? = some true)) ∧ (L[7]? = some true → (L[5]? = some true ∧ L[3]? = some true)))) ?step ?fin _ _ _ _ ⟨_, _, _, _, _, _, rfl, Lib.hid ⟨by rfl, Below.drew (Below.refl _ _), gone (by rfl), gone (by rfl), gone (by rfl), gone (by rfl), gone (by rfl), gone (by rfl), gone (by rfl), gone (by rfl), gone (by rfl), gone (by rfl), gone (by rfl)⟩⟩ (by decide)
    case step =>
      intro L a wz i o hI ho hL hdeps K hK
      obtain ⟨y5, y6, y12, y13, y14, y15, rfl, hinv⟩ := hI
      have hi : i < 8 := by have := (Array.getElem?_eq_some_iff.1 ho).1; exact this
      obtain ⟨hN, hbel, z0, z1, z2, z3, z4, z5, z6, z7, z8, z9, z10⟩ := hinv.out
      obtain rfl | rfl | rfl | rfl | rfl | rfl | rfl | rfl : i = 0 ∨ i = 1 ∨ i = 2 ∨ i = 3 ∨ i = 4 ∨ i = 5 ∨ i = 6 ∨ i = 7 := by omega
      · obtain rfl := Option.some.inj ho
        obtain ⟨b0, b1, _⟩ := SS.out wz hbel
        clear ho
        have Z := hinv
        clear hinv hbel hN hdeps z0 z1 z2 z3 z4 z5 z6 z7 z8 z9 z10
        go_simp
        obtain ⟨hN, hbel, z0, z1, z2, z3, z4, z5, z6, z7, z8, z9, z10⟩ := Z.out
        exact hK _ _ ⟨_, _, _, _, _, _, rfl, Lib.hid ⟨by simpa using hN, hbel, fun _ => rfl, fun g0 => (z1 ((set_other (by decide)).symm.trans g0)), fun g0 => (z2 ((set_other (by decide)).symm.trans g0)), fun g0 => (z3 ((set_other (by decide)).symm.trans g0)), fun g0 => (z4 ((set_other (by decide)).symm.trans g0)), fun g0 => (z5 ((set_other (by decide)).symm.trans g0)), fun g0 g1 => (z6 ((set_other (by decide)).symm.trans g0) ((set_other (by decide)).symm.trans g1)), fun g0 => (z7 ((set_other (by decide)).symm.trans g0)), fun g0 => (z8 ((set_other (by decide)).symm.trans g0)), fun g0 => ⟨set_keep (z9 ((set_other (by decide)).symm.trans g0)).1, set_keep (z9 ((set_other (by decide)).symm.trans g0)).2⟩, fun g0 => ⟨set_keep (z10 ((set_other (by decide)).symm.trans g0)).1, set_keep (z10 ((set_other (by decide)).symm.trans g0)).2⟩⟩⟩
      · obtain rfl := Option.some.inj ho
        have e0 := z0 (dep (by simp [Region.binds] at hdeps ⊢; simp [hdeps]))
        subst e0
        have CC := Lib.hid (C0.out wz hbel)
        have Z := hinv
        clear hinv ho hbel hN hdeps z0 z1 z2 z3 z4 z5 z6 z7 z8 z9 z10
        go_simp
        refine CC.out.mono ?_
        rintro e wq ⟨D, a, n, c, ps, rfl, hg, how, hb'⟩
        obtain ⟨hN, hbel, z0, z1, z2, z3, z4, z5, z6, z7, z8, z9, z10⟩ := Z.out
        exact hK _ _ ⟨_, _, _, _, _, _, rfl, Lib.hid ⟨by simpa using hN, hbel.trans (hb'.mono hbel.size), fun g0 => (z0 ((set_other (by decide)).symm.trans g0)), fun _ => ⟨D, a, n, c, ps, rfl, hg, owns_mono how hbel.size⟩, fun g0 => (z2 ((set_other (by decide)).symm.trans g0)), fun g0 => (z3 ((set_other (by decide)).symm.trans g0)).below hb', fun g0 => (z4 ((set_other (by decide)).symm.trans g0)).below hb', fun g0 => (z5 ((set_other (by decide)).symm.trans g0)).below hb', fun g0 g1 => (z6 ((set_other (by decide)).symm.trans g0) ((set_other (by decide)).symm.trans g1)), fun g0 => not_done hL (z9 ((set_other (by decide)).symm.trans g0)).2, fun g0 => (z8 ((set_other (by decide)).symm.trans g0)).below hb', fun g0 => ⟨set_keep (z9 ((set_other (by decide)).symm.trans g0)).1, set_keep (z9 ((set_other (by decide)).symm.trans g0)).2⟩, fun g0 => ⟨set_keep (z10 ((set_other (by decide)).symm.trans g0)).1, set_keep (z10 ((set_other (by decide)).symm.trans g0)).2⟩⟩⟩
      · obtain rfl := Option.some.inj ho
        obtain ⟨_, _, b0, b1⟩ := SS.out wz hbel
        clear ho
        have Z := hinv
        clear hinv hbel hN hdeps z0 z1 z2 z3 z4 z5 z6 z7 z8 z9 z10
        go_simp
        obtain ⟨hN, hbel, z0, z1, z2, z3, z4, z5, z6, z7, z8, z9, z10⟩ := Z.out
        exact hK _ _ ⟨_, _, _, _, _, _, rfl, Lib.hid ⟨by simpa using hN, hbel, fun g0 => (z0 ((set_other (by decide)).symm.trans g0)), fun g0 => (z1 ((set_other (by decide)).symm.trans g0)), fun _ => rfl, fun g0 => (z3 ((set_other (by decide)).symm.trans g0)), fun g0 => (z4 ((set_other (by decide)).symm.trans g0)), fun g0 => (z5 ((set_other (by decide)).symm.trans g0)), fun g0 g1 => (z6 ((set_other (by decide)).symm.trans g0) ((set_other (by decide)).symm.trans g1)), fun g0 => (z7 ((set_other (by decide)).symm.trans g0)), fun g0 => (z8 ((set_other (by decide)).symm.trans g0)), fun g0 => ⟨set_keep (z9 ((set_other (by decide)).symm.trans g0)).1, set_keep (z9 ((set_other (by decide)).symm.trans g0)).2⟩, fun g0 => ⟨set_keep (z10 ((set_other (by decide)).symm.trans g0)).1, set_keep (z10 ((set_other (by decide)).symm.trans g0)).2⟩⟩⟩
      · obtain rfl := Option.some.inj ho
        have e2 := z2 (dep (by simp [Region.binds] at hdeps ⊢; simp [hdeps]))
        subst e2
        have CC := Lib.hid (C1.out wz hbel)
        have Z := hinv
        clear hinv ho hbel hN hdeps z0 z1 z2 z3 z4 z5 z6 z7 z8 z9 z10
        go_simp
        refine CC.out.mono ?_
        rintro e wq ⟨D, a, n, c, ps, rfl, hg, how, hb'⟩
        obtain ⟨hN, hbel, z0, z1, z2, z3, z4, z5, z6, z7, z8, z9, z10⟩ := Z.out
        exact hK _ _ ⟨_, _, _, _, _, _, rfl, Lib.hid ⟨by simpa using hN, hbel.trans (hb'.mono hbel.size), fun g0 => (z0 ((set_other (by decide)).symm.trans g0)), fun g0 => (z1 ((set_other (by decide)).symm.trans g0)).below hb', fun g0 => (z2 ((set_other (by decide)).symm.trans g0)), fun _ => ⟨D, a, n, c, ps, rfl, hg, owns_mono how hbel.size⟩, fun g0 => (z4 ((set_other (by decide)).symm.trans g0)).below hb', fun g0 => (z5 ((set_other (by decide)).symm.trans g0)).below hb', fun g0 g1 => (z6 ((set_other (by decide)).symm.trans g0) ((set_other (by decide)).symm.trans g1)), fun g0 => (z7 ((set_other (by decide)).symm.trans g0)).below hb', fun g0 => not_done hL (z10 ((set_other (by decide)).symm.trans g0)).2, fun g0 => ⟨set_keep (z9 ((set_other (by decide)).symm.trans g0)).1, set_keep (z9 ((set_other (by decide)).symm.trans g0)).2⟩, fun g0 => ⟨set_keep (z10 ((set_other (by decide)).symm.trans g0)).1, set_keep (z10 ((set_other (by decide)).symm.trans g0)).2⟩⟩⟩
      · obtain rfl := Option.some.inj ho
        have Z := hinv
        clear hinv ho hbel hN hdeps z0 z1 z2 z3 z4 z5 z6 z7 z8 z9 z10
        go_simp
        obtain ⟨hN, hbel, z0, z1, z2, z3, z4, z5, z6, z7, z8, z9, z10⟩ := Z.out
        have hb' := below_alloc1 wz (Obj.cells #[.int .i64 0, .slice none 0 0] 24)
        exact hK _ _ ⟨_, _, _, _, _, _, rfl, Lib.hid ⟨by simpa using hN, hbel.trans (hb'.mono hbel.size), fun g0 => (z0 ((set_other (by decide)).symm.trans g0)), fun g0 => (z1 ((set_other (by decide)).symm.trans g0)).below hb', fun g0 => (z2 ((set_other (by decide)).symm.trans g0)), fun g0 => (z3 ((set_other (by decide)).symm.trans g0)).below hb', fun _ => AV.new _ _ _ _ hbel.size, fun g0 => (z5 ((set_other (by decide)).symm.trans g0)).below hb', fun g0 g1 => ((z5 ((set_other (by decide)).symm.trans g1)).ne).symm, fun g0 => not_done hL (z9 ((set_other (by decide)).symm.trans g0)).1, fun g0 => (z8 ((set_other (by decide)).symm.trans g0)).below hb', fun g0 => ⟨set_keep (z9 ((set_other (by decide)).symm.trans g0)).1, set_keep (z9 ((set_other (by decide)).symm.trans g0)).2⟩, fun g0 => ⟨set_keep (z10 ((set_other (by decide)).symm.trans g0)).1, set_keep (z10 ((set_other (by decide)).symm.trans g0)).2⟩⟩⟩
      · obtain rfl := Option.some.inj ho
        have Z := hinv
        clear hinv ho hbel hN hdeps z0 z1 z2 z3 z4 z5 z6 z7 z8 z9 z10
        go_simp
        obtain ⟨hN, hbel, z0, z1, z2, z3, z4, z5, z6, z7, z8, z9, z10⟩ := Z.out
        have hb' := below_alloc1 wz (Obj.cells #[.int .i64 0, .slice none 0 0] 24)
        exact hK _ _ ⟨_, _, _, _, _, _, rfl, Lib.hid ⟨by simpa using hN, hbel.trans (hb'.mono hbel.size), fun g0 => (z0 ((set_other (by decide)).symm.trans g0)), fun g0 => (z1 ((set_other (by decide)).symm.trans g0)).below hb', fun g0 => (z2 ((set_other (by decide)).symm.trans g0)), fun g0 => (z3 ((set_other (by decide)).symm.trans g0)).below hb', fun g0 => (z4 ((set_other (by decide)).symm.trans g0)).below hb', fun _ => AV.new _ _ _ _ hbel.size, fun g0 g1 => (z4 ((set_other (by decide)).symm.trans g0)).ne, fun g0 => (z7 ((set_other (by decide)).symm.trans g0)).below hb', fun g0 => not_done hL (z10 ((set_other (by decide)).symm.trans g0)).1, fun g0 => ⟨set_keep (z9 ((set_other (by decide)).symm.trans g0)).1, set_keep (z9 ((set_other (by decide)).symm.trans g0)).2⟩, fun g0 => ⟨set_keep (z10 ((set_other (by decide)).symm.trans g0)).1, set_keep (z10 ((set_other (by decide)).symm.trans g0)).2⟩⟩⟩
      · obtain rfl := Option.some.inj ho
        have hds : L[4]? = some true ∧ L[5]? = some true ∧ L[1]? = some true := by
          simp [Region.binds] at hdeps
          refine ⟨?_, ?_, ?_⟩ <;> (refine dep ?_; simp [hdeps])
        obtain ⟨d4, d5, d1⟩ := hds
        obtain ⟨A0, hA1, hA2, x0, u0, hA3⟩ := z4 d4
        obtain ⟨D, a, n, c, ps, hc1, hc2, hc3⟩ := z1 d1
        subst hA1
        subst hc1
        obtain ⟨s0, s1, s2, s3, s4, _⟩ := old2 wz A0 24 _ _ (.int .i64 D) (.slice a n c) hA3
        have S4 := Lib.hid s4
        have HA3 := Lib.hid hA3
        have HA2 := Lib.hid hA2
        have Z := hinv
        clear hinv ho hbel hN hdeps s4 hA2 hA3 hc2 hc3 z0 z1 z2 z3 z4 z5 z6 z7 z8 z9 z10
        go_simp
        obtain ⟨hN, hbel, z0, z1, z2, z3, z4, z5, z6, z7, z8, z9, z10⟩ := Z.out
        have hA4 := heap_setCell_same wz A0 0 _ 24 (.int .i64 D) HA3.out
        simp only [List.setIfInBounds_toArray, List.set_cons_zero] at hA4
        exact hK _ _ ⟨_, _, _, _, _, _, rfl, Lib.hid ⟨by simpa using hN, (hbel.setCell (p := ⟨A0, 0, none⟩) HA2.out _).setCell (p := ⟨A0, 1, none⟩) HA2.out _, fun g0 => (z0 ((set_other (by decide)).symm.trans g0)), fun g0 => ((z1 ((set_other (by decide)).symm.trans g0)).set HA3.out).set hA4, fun g0 => (z2 ((set_other (by decide)).symm.trans g0)), fun g0 => ((z3 ((set_other (by decide)).symm.trans g0)).set HA3.out).set hA4, fun _ => ⟨A0, rfl, HA2.out, _, _, S4.out⟩, fun g0 => ((z5 ((set_other (by decide)).symm.trans g0)).set ((z6 d4 d5)).symm).set ((z6 d4 d5)).symm, fun g0 g1 => (z6 ((set_other (by decide)).symm.trans g0) ((set_other (by decide)).symm.trans g1)), fun _ => ⟨A0, D, .slice a n c, rfl, rfl, S4.out⟩, fun g0 => ((z8 ((set_other (by decide)).symm.trans g0)).set ((z6 d4 d5)).symm).set ((z6 d4 d5)).symm, fun _ => ⟨set_keep d4, set_keep d1⟩, fun g0 => ⟨set_keep (z10 ((set_other (by decide)).symm.trans g0)).1, set_keep (z10 ((set_other (by decide)).symm.trans g0)).2⟩⟩⟩
      · obtain rfl := Option.some.inj ho
        have hds : L[5]? = some true ∧ L[4]? = some true ∧ L[3]? = some true := by
          simp [Region.binds] at hdeps
          refine ⟨?_, ?_, ?_⟩ <;> (refine dep ?_; simp [hdeps])
        obtain ⟨d5, d4, d3⟩ := hds
        obtain ⟨A0, hA1, hA2, x0, u0, hA3⟩ := z5 d5
        obtain ⟨D, a, n, c, ps, hc1, hc2, hc3⟩ := z3 d3
        subst hA1
        subst hc1
        obtain ⟨s0, s1, s2, s3, s4, _⟩ := old2 wz A0 24 _ _ (.int .i64 D) (.slice a n c) hA3
        have S4 := Lib.hid s4
        have HA3 := Lib.hid hA3
        have HA2 := Lib.hid hA2
        have Z := hinv
        clear hinv ho hbel hN hdeps s4 hA2 hA3 hc2 hc3 z0 z1 z2 z3 z4 z5 z6 z7 z8 z9 z10
        go_simp
        obtain ⟨hN, hbel, z0, z1, z2, z3, z4, z5, z6, z7, z8, z9, z10⟩ := Z.out
        have hA4 := heap_setCell_same wz A0 0 _ 24 (.int .i64 D) HA3.out
        simp only [List.setIfInBounds_toArray, List.set_cons_zero] at hA4
        exact hK _ _ ⟨_, _, _, _, _, _, rfl, Lib.hid ⟨by simpa using hN, (hbel.setCell (p := ⟨A0, 0, none⟩) HA2.out _).setCell (p := ⟨A0, 1, none⟩) HA2.out _, fun g0 => (z0 ((set_other (by decide)).symm.trans g0)), fun g0 => ((z1 ((set_other (by decide)).symm.trans g0)).set HA3.out).set hA4, fun g0 => (z2 ((set_other (by decide)).symm.trans g0)), fun g0 => ((z3 ((set_other (by decide)).symm.trans g0)).set HA3.out).set hA4, fun g0 => ((z4 ((set_other (by decide)).symm.trans g0)).set (z6 d4 d5)).set (z6 d4 d5), fun _ => ⟨A0, rfl, HA2.out, _, _, S4.out⟩, fun g0 g1 => (z6 ((set_other (by decide)).symm.trans g0) ((set_other (by decide)).symm.trans g1)), fun g0 => ((z7 ((set_other (by decide)).symm.trans g0)).set (z6 d4 d5)).set (z6 d4 d5), fun _ => ⟨A0, D, .slice a n c, rfl, rfl, S4.out⟩, fun g0 => ⟨set_keep (z9 ((set_other (by decide)).symm.trans g0)).1, set_keep (z9 ((set_other (by decide)).symm.trans g0)).2⟩, fun _ => ⟨set_keep d5, set_keep d3⟩⟩⟩
    case fin =>
      intro L a wz hI hr
      obtain ⟨y5, y6, y12, y13, y14, y15, rfl, hinv⟩ := hI
      obtain ⟨hN, hbel, z0, z1, z2, z3, z4, z5, z6, z7, z8, z9, z10⟩ := hinv.out
      have f0 : L[0]? = some true := by
        cases hb : L[0]? with
        | none => have := (Array.getElem?_eq_none_iff.1 hb); omega
        | some b =>
          cases b with
          | true => rfl
          | false =>
            exact (ready_nil hr hb (by rfl) (by simp [Region.binds])).elim
      have f1 : L[1]? = some true := by
        cases hb : L[1]? with
        | none => have := (Array.getElem?_eq_none_iff.1 hb); omega
        | some b =>
          cases b with
          | true => rfl
          | false =>
            exact (ready_nil hr hb (by rfl) (by simp [Region.binds, f0])).elim
      have f2 : L[2]? = some true := by
        cases hb : L[2]? with
        | none => have := (Array.getElem?_eq_none_iff.1 hb); omega
        | some b =>
          cases b with
          | true => rfl
          | false =>
            exact (ready_nil hr hb (by rfl) (by simp [Region.binds, f0, f1])).elim
      have f3 : L[3]? = some true := by
        cases hb : L[3]? with
        | none => have := (Array.getElem?_eq_none_iff.1 hb); omega
        | some b =>
          cases b with
          | true => rfl
          | false =>
            exact (ready_nil hr hb (by rfl) (by simp [Region.binds, f0, f1, f2])).elim
      have f4 : L[4]? = some true := by
        cases hb : L[4]? with
        | none => have := (Array.getElem?_eq_none_iff.1 hb); omega
        | some b =>
          cases b with
          | true => rfl
          | false =>
            exact (ready_nil hr hb (by rfl) (by simp [Region.binds, f0, f1, f2, f3])).elim
      have f5 : L[5]? = some true := by
        cases hb : L[5]? with
        | none => have := (Array.getElem?_eq_none_iff.1 hb); omega
        | some b =>
          cases b with
          | true => rfl
          | false =>
            exact (ready_nil hr hb (by rfl) (by simp [Region.binds, f0, f1, f2, f3, f4])).elim
      have f6 : L[6]? = some true := by
        cases hb : L[6]? with
        | none => have := (Array.getElem?_eq_none_iff.1 hb); omega
        | some b =>
          cases b with
          | true => rfl
          | false =>
            exact (ready_nil hr hb (by rfl) (by simp [Region.binds, f0, f1, f2, f3, f4, f5])).elim
      have f7 : L[7]? = some true := by
        cases hb : L[7]? with
        | none => have := (Array.getElem?_eq_none_iff.1 hb); omega
        | some b =>
          cases b with
          | true => rfl
          | false =>
            exact (ready_nil hr hb (by rfl) (by simp [Region.binds, f0, f1, f2, f3, f4, f5, f6])).elim
      obtain ⟨A0, D0, v0, hp0, hy0, hh0⟩ := z7 f6
      obtain ⟨D0', a0, n0, c0, ps0, hz0, hg0, ho0⟩ := z1 f1
      rw [hy0] at hz0
      obtain ⟨rfl, rfl⟩ : D0 = D0' ∧ v0 = .slice a0 n0 c0 := by simpa using hz0
      obtain ⟨A1, D1, v1, hp1, hy1, hh1⟩ := z8 f7
      obtain ⟨D1', a1, n1, c1, ps1, hz1, hg1, ho1⟩ := z3 f3
      rw [hy1] at hz1
      obtain ⟨rfl, rfl⟩ : D1 = D1' ∧ v1 = .slice a1 n1 c1 := by simpa using hz1
      subst hp0 hp1
      have HF := Lib.hid (show Lbl wz A0 D0 (.slice a0 n0 c0) ps0 ∧ Lbl wz A1 D1 (.slice a1 n1 c1) ps1 ∧ Lab.Fine D0 ps0 ∧ Lab.Fine D1 ps1 ∧ Below w1.heap.size w1 wz from ⟨⟨hh0, rc_of_owns ho0 (by have := hg0.2.2.2.2; omega)⟩, ⟨hh1, rc_of_owns ho1 (by have := hg1.2.2.2.2; omega)⟩, hg0, hg1, hbel⟩)
      go_wp2_with fail
      go_meet
      exact ⟨_, _, _, _, _, _, _, _, _, _, _, _, rfl, rfl, HF⟩
  case rest =>
    obtain ⟨A0, D0, ps0, a0, n0, c0, A1, D1, ps1, a1, n1, c1, rfl, rfl, HF⟩ := hcut
    have HBw := Lib.hid (HS.out w1 (Below.refl _ _)).1
    clear HS SS C0 C1 hcall HI0 HI1 HK HB HFit
    obtain ⟨X, rfl⟩ : ∃ X, X = wc := ⟨_, rfl⟩
    obtain ⟨L0, L1, F0, F1, hbx⟩ := HF.out
    have HX := Lib.hid (HBw.out.trans (hbx.mono HBw.out.size))
    have O0 := Lib.hid F0.1
    have l0 := F0.2.2.2.2
    have O1 := Lib.hid F1.1
    have l1 := F1.2.2.2.2
    obtain ⟨Mu, eMu⟩ : ∃ X, Lab.turn 0 5 D0 = X := ⟨_, rfl⟩
    obtain ⟨Zu, eZu⟩ : ∃ X, Lab.tn 0 5 D0 ps0 = X := ⟨_, rfl⟩
    have Ou := Lib.hid (show Lab.Ok Mu Zu by rw [← eMu, ← eZu]; exact Lab.tn_ok O0.out)
    have lZu : Zu.length ≤ 24 := by rw [← eZu]; have := Lab.tn_len 0 5 D0 ps0; omega
    obtain ⟨Mt, eMt⟩ : ∃ X, Lab.turn 0 5 D1 = X := ⟨_, rfl⟩
    obtain ⟨Zt, eZt⟩ : ∃ X, Lab.tn 0 5 D1 ps1 = X := ⟨_, rfl⟩
    have Ot := Lib.hid (show Lab.Ok Mt Zt by rw [← eMt, ← eZt]; exact Lab.tn_ok O1.out)
    have lZt : Zt.length ≤ 24 := by rw [← eZt]; have := Lab.tn_len 0 5 D1 ps1; omega
    obtain ⟨Ms, eMs⟩ : ∃ X, Lab.turn 0 2 D0 = X := ⟨_, rfl⟩
    obtain ⟨Zs, eZs⟩ : ∃ X, Lab.tn 0 2 D0 ps0 = X := ⟨_, rfl⟩
    have Os := Lib.hid (show Lab.Ok Ms Zs by rw [← eMs, ← eZs]; exact Lab.tn_ok O0.out)
    have lZs : Zs.length ≤ 24 := by rw [← eZs]; have := Lab.tn_len 0 2 D0 ps0; omega
    obtain ⟨Ml, eMl⟩ : ∃ X, Lab.turn 5 0 Mu = X := ⟨_, rfl⟩
    obtain ⟨Zl, eZl⟩ : ∃ X, Lab.tn 5 0 Mu Zu = X := ⟨_, rfl⟩
    have lZl : Zl.length ≤ 48 := by rw [← eZl]; have := Lab.tn_len 5 0 Mu Zu; omega
    have EL := Lib.hid (show Ml = D0 ∧ Zl = ps0 from by rw [← eMl, ← eZl]; exact lower_raise O0.out F0 eMu eZu)
    have CU := Lib.hid (by rw [← eMu, ← eZu]; exact raise_c L0.rc (by omega) : Calls Try.prog 17 #[.agg #[.int .i64 D0, .slice a0 n0 c0]] X (LG X Mu Zu))
    obtain ⟨rar, hrar⟩ := bool_is (∀ c, Lab.at' D0 ps0 c ≤ Lab.at' Mu Zu c)
    have Qar := Lib.hid (fun (W : World) (v0 v1 : Value) (r0 : RC W.heap.size W v0 ps0) (r1 : RC W.heap.size W v1 Zu) => (pleq_any D0 Mu v0 v1 ps0 Zu W O0.out Ou.out r0 r1 rar hrar : Calls Try.prog 31 #[.agg #[.int .i64 D0, v0], .agg #[.int .i64 Mu, v1]] W fun e w' => e = .returned (.bool rar) ∧ Below W.heap.size W w'))
    obtain ⟨rab, hrab⟩ := bool_is (∀ c, Lab.at' D0 ps0 c ≤ Lab.at' D1 ps1 c)
    have Qab := Lib.hid (fun (W : World) (v0 v1 : Value) (r0 : RC W.heap.size W v0 ps0) (r1 : RC W.heap.size W v1 ps1) => (pleq_any D0 D1 v0 v1 ps0 ps1 W O0.out O1.out r0 r1 rab hrab : Calls Try.prog 31 #[.agg #[.int .i64 D0, v0], .agg #[.int .i64 D1, v1]] W fun e w' => e = .returned (.bool rab) ∧ Below W.heap.size W w'))
    obtain ⟨rat, hrat⟩ := bool_is (∀ c, Lab.at' D0 ps0 c ≤ Lab.at' Mt Zt c)
    have Qat := Lib.hid (fun (W : World) (v0 v1 : Value) (r0 : RC W.heap.size W v0 ps0) (r1 : RC W.heap.size W v1 Zt) => (pleq_any D0 Mt v0 v1 ps0 Zt W O0.out Ot.out r0 r1 rat hrat : Calls Try.prog 31 #[.agg #[.int .i64 D0, v0], .agg #[.int .i64 Mt, v1]] W fun e w' => e = .returned (.bool rat) ∧ Below W.heap.size W w'))
    obtain ⟨ras, hras⟩ := bool_is (∀ c, Lab.at' D0 ps0 c ≤ Lab.at' Ms Zs c)
    have Qas := Lib.hid (fun (W : World) (v0 v1 : Value) (r0 : RC W.heap.size W v0 ps0) (r1 : RC W.heap.size W v1 Zs) => (pleq_any D0 Ms v0 v1 ps0 Zs W O0.out Os.out r0 r1 ras hras : Calls Try.prog 31 #[.agg #[.int .i64 D0, v0], .agg #[.int .i64 Ms, v1]] W fun e w' => e = .returned (.bool ras) ∧ Below W.heap.size W w'))
    obtain rfl : rar = true := hrar.2 (by rw [← eMu, ← eZu]; exact leq_turn F0 (by omega))
    obtain rfl : ras = true := hras.2 (by rw [← eMs, ← eZs]; exact leq_turn F0 (by omega))
    have HT := Lib.hid (show rab = true → rat = true from fun h => hrat.2 (by rw [← eMt, ← eZt]; exact leq_raise_of F1 (hrab.1 h)))
    have PL := Lib.hid (fun (W : World) (v0 : Value) (r0 : RC W.heap.size W v0 Zu) => (by rw [← eMl, ← eZl]; exact lower_c r0 (by omega) : Calls Try.prog 23 #[.agg #[.int .i64 Mu, v0]] W (LG W Ml Zl)))
    have PT := Lib.hid (fun (W : World) (v0 : Value) (r0 : RC W.heap.size W v0 ps1) => (by rw [← eMt, ← eZt]; exact raise_c r0 (by omega) : Calls Try.prog 17 #[.agg #[.int .i64 D1, v0]] W (LG W Mt Zt)))
    have PS := Lib.hid (fun (W : World) (v0 : Value) (r0 : RC W.heap.size W v0 ps0) => (by rw [← eMs, ← eZs]; exact rest_c r0 (by omega) : Calls Try.prog 21 #[.agg #[.int .i64 D0, v0]] W (LG W Ms Zs)))
    obtain ⟨n, en⟩ : ∃ n, (Lab.owns ps0).length = n := ⟨_, rfl⟩
    have hn12 : n ≤ 12 := by have := Lab.owns_le ps0; omega
    have PO := Lib.hid (fun (W : World) (v0 : Value) (r0 : RC W.heap.size W v0 ps0) => (owns_c r0 (by omega) : Calls Try.prog 26 #[.agg #[.int .i64 D0, v0]] W (OG W (Lab.owns ps0))))
    have PO2 := Lib.hid (fun (W : World) (v0 : Value) (r0 : RC W.heap.size W v0 ps0) => ((owns_c r0 (by omega)).mono (fun e w' ⟨a, c, h1, h2, h3⟩ => ⟨a, c, by rw [h1, en], h3⟩) : Calls Try.prog 26 #[.agg #[.int .i64 D0, v0]] W (fun e w' => ∃ a c, e = .returned (.slice a n c) ∧ Below W.heap.size W w')))
    have PR := Lib.hid (fun (W : World) (v0 : Value) (r0 : RC W.heap.size W v0 Zu) => ((owns_c r0 (by omega)).mono (fun e w' ⟨a, c, h1, h2, h3⟩ => ⟨a, c, by rw [h1, ← eZu, owns_raised O0.out]; rfl, h3⟩) : Calls Try.prog 26 #[.agg #[.int .i64 Mu, v0]] W (fun e w' => ∃ a c, e = .returned (.slice a 0 c) ∧ Below W.heap.size W w')))
    have HQ5 := Lib.hid (show ∀ k c, (Lab.owns ps0)[k]? = some c → Lab.at' Mu Zu c = 5 ∧ Lab.at' Ms Zs c = 2 from fun k c h => ⟨by rw [← eMu, ← eZu]; exact at_owned O0.out h, by rw [← eMs, ← eZs]; exact at_owned O0.out h⟩)
    have HSR := Lib.hid (show n = 0 → D0 = Mu ∧ ps0 = Zu from fun h => by rw [← eMu, ← eZu]; exact same_raised F0 (en.trans h))
    have EN := Lib.hid en
    obtain ⟨b0, b1⟩ := L0.cells
    have HL := Lib.hid (And.intro L0 L1)
    clear en hrar hrab hrat hras L0 L1 F0 F1 hbx HF HBw eMu eZu eMt eZt eMs eZs eMl eZl
    go_upto_region 4 with fail
    go_wp2_with fail
    refine CU.out.mono ?_
    rintro e Y1 ⟨a2, n2, c2, rfl, hou, hbu⟩
    have hb2 := below_alloc1 Y1 (Obj.cells #[.int .i64 Mu, .slice a2 n2 c2] 24)
    have hk4 := heap_alloc_new Y1 (Obj.cells #[.int .i64 Mu, .slice a2 n2 c2] 24)
    obtain ⟨s0, s1, s2, s3, _⟩ := fresh2 Y1 24 (.int .i64 0) (.slice none 0 0) (.int .i64 Mu) (.slice a2 n2 c2)
    have hru := rc_of_owns hou (by omega)
    go_upto_region 5 with fail
    obtain ⟨X6, e6⟩ : ∃ X6, X6 = Y1.alloc (Obj.cells #[.int .i64 Mu, .slice a2 n2 c2] 24) := ⟨_, rfl⟩
    rw [← e6] at hb2 hk4 ⊢
    clear e6 s0 s1 s2 s3 b0 b1
    obtain ⟨A2, eA2⟩ : ∃ A2, Y1.heap.size = A2 := ⟨_, rfl⟩
    rw [eA2] at hk4 ⊢
    clear eA2
    have hyx : Below X.heap.size X X6 := hbu.trans (hb2.mono hbu.size)
    have U2 : Lbl X6 A2 Mu (.slice a2 n2 c2) Zu := ⟨hk4, (hru.below hb2).mono hb2.size⟩
    obtain ⟨L0, L1⟩ := HL.out
    have hxw := HX.out.trans (hyx.mono HX.out.size)
    have KS := Lib.hid (fun (wx : World) (h : Below X6.heap.size X6 wx) => (⟨(L0.below hyx).below h, (L1.below hyx).below h, (U2).below h, (hxw).trans (h.mono (hxw).size)⟩ : Lbl wx A0 D0 (.slice a0 n0 c0) ps0 ∧ Lbl wx A1 D1 (.slice a1 n1 c1) ps1 ∧ Lbl wx A2 Mu (.slice a2 n2 c2) Zu ∧ Below w.heap.size w wx))
    have SC := Lib.hid (fun (wx : World) (h : Below X6.heap.size X6 wx) => (⟨(KS.out wx h).1.cells.1, (KS.out wx h).1.cells.2, (KS.out wx h).2.1.cells.1, (KS.out wx h).2.1.cells.2, (KS.out wx h).2.2.1.cells.1, (KS.out wx h).2.2.1.cells.2⟩ : wx.cell? ⟨A0, 0, none⟩ = some (.int .i64 D0) ∧ wx.cell? ⟨A0, 1, none⟩ = some ((.slice a0 n0 c0)) ∧ wx.cell? ⟨A1, 0, none⟩ = some (.int .i64 D1) ∧ wx.cell? ⟨A1, 1, none⟩ = some ((.slice a1 n1 c1)) ∧ wx.cell? ⟨A2, 0, none⟩ = some (.int .i64 Mu) ∧ wx.cell? ⟨A2, 1, none⟩ = some ((.slice a2 n2 c2))))
    clear hru hou hbu hb2 hk4 hyx U2 L0 L1 hxw HL CU HX O1 Ot
    go_cut [18, 19, 20, 21, 22, 23, 24, 25, 26, 27, 28, 29, 30, 31, 32, 33, 34, 35, 36, 37, 38, 39, 40] (fun s18 s19 s20 s21 s22 s23 s24 s25 s26 s27 s28 s29 s30 s31 s32 s33 s34 s35 s36 s37 s38 s39 s40 wx => s40 = .bool false ∧ Hid (Below X6.heap.size X6 wx))
    case first =>
      have hcall := Lib.hid ((Below.refl X6.heap.size X6).drew)
      have hab : rab = false ∨ (rab = true ∧ rat = true) := by have h := HT.out; cases rab
                                                               · exact .inl rfl
                                                               · exact .inr ⟨rfl, h rfl⟩
      clear HT PS PO PO2 PR HQ5 HSR Qas
      rcases hab with rfl | ⟨rfl, rfl⟩
      · clear EN
        refine wp_region_held_drew (S := fun w' => w'.cell? ⟨A0, 0, none⟩ = some (.int .i64 D0) ∧ w'.cell? ⟨A0, 1, none⟩ = some ((.slice a0 n0 c0)) ∧ w'.cell? ⟨A1, 0, none⟩ = some (.int .i64 D1) ∧ w'.cell? ⟨A1, 1, none⟩ = some ((.slice a1 n1 c1)) ∧ w'.cell? ⟨A2, 0, none⟩ = some (.int .i64 Mu) ∧ w'.cell? ⟨A2, 1, none⟩ = some ((.slice a2 n2 c2))) (by kernel_rfl) (SC.out _ hcall.out) (fun hHeld => ?_)
        refine wpAnyH_take (i := 0) (oi := { dst := some 18, op := Op.load 24 (Operand.tmp 5), type := 24, pos := "law.go:109", after := #[], guard := none }) (v := ?vv1) rfl (by kernel_rfl) (by kernel_rfl) (by kernel_rfl) (fun _ _ _ h => h) (Or.inl ⟨by rfl, ?hy1⟩) hHeld ?rest1
        case hy1 => (intro wS hSw; (try dsimp only at hSw); go_simp; try with_reducible rfl)
        simp only [Act.put, List.setIfInBounds_toArray, List.set_cons_zero, List.set_cons_succ]
        refine wpAnyH_take (i := 1) (oi := { dst := some 19, op := Op.load 24 (Operand.tmp 7), type := 24, pos := "law.go:109", after := #[], guard := none }) (v := ?vv2) rfl (by kernel_rfl) (by kernel_rfl) (by kernel_rfl) (fun _ _ _ h => h) (Or.inl ⟨by rfl, ?hy2⟩) hHeld ?rest2
        case hy2 => (intro wS hSw; (try dsimp only at hSw); go_simp; try with_reducible rfl)
        simp only [Act.put, List.setIfInBounds_toArray, List.set_cons_zero, List.set_cons_succ]
        refine wpAnyH_ready (rs := [2]) (by kernel_rfl) (by simp) ?_
        refine AllReadyH.cons (o := { dst := some 20, op := Op.call { callee := Callee.value (Operand.func 31), args := #[Operand.tmp 18, Operand.tmp 19], argTypes := #[24, 24] }, type := 4, pos := "law.go:109", after := #[{ on := 0, ground := Ground.data }, { on := 1, ground := Ground.data }], guard := none }) rfl (fun K hK => ?_) AllReadyH.nil
        go_simp
        with_reducible refine (Qar.out _ _ _ (KS.out _ hcall.out).1.rc (KS.out _ hcall.out).2.2.1.rc).mono ?_
        rintro e wq ⟨rfl, hb'⟩
        replace hcall := Lib.hid (hcall.out.trans (hb'.mono hcall.out.size))
        clear hb' hHeld
        try go_wp2_with fail
        refine hK.out _ _ (SC.out _ hcall.out) (fun hHeld => ?_)
        clear hK K
        try simp only [Act.put, List.setIfInBounds_toArray, List.set_cons_zero, List.set_cons_succ]
        refine wpAnyH_take (i := 3) (oi := { dst := some 21, op := Op.unOp UnOp.not 4 (Operand.tmp 20), type := 4, pos := "law.go:109", after := #[{ on := 2, ground := Ground.data }], guard := none }) (v := ?vv3) rfl (by kernel_rfl) (by kernel_rfl) (by kernel_rfl) (fun _ _ _ h => h) (Or.inl ⟨by rfl, ?hy3⟩) hHeld ?rest3
        case hy3 => (intro wS hSw; (try dsimp only at hSw); go_simp; try with_reducible rfl)
        simp only [Act.put, List.setIfInBounds_toArray, List.set_cons_zero, List.set_cons_succ]
        refine wpAnyH_take (i := 4) (oi := { dst := some 22, op := Op.move (Operand.tmp 21), type := 4, pos := "law.go:109", after := #[{ on := 3, ground := Ground.data }, { on := 2, ground := Ground.chain }], guard := none }) (v := ?vv4) rfl (by kernel_rfl) (by kernel_rfl) (by kernel_rfl) (fun _ _ _ h => h) (Or.inl ⟨by rfl, ?hy4⟩) hHeld ?rest4
        case hy4 => (intro wS hSw; (try dsimp only at hSw); go_simp; try with_reducible rfl)
        simp only [Act.put, List.setIfInBounds_toArray, List.set_cons_zero, List.set_cons_succ]
        refine wpAnyH_take (i := 5) (oi := { dst := some 23, op := Op.load 24 (Operand.tmp 7), type := 24, pos := "law.go:109", after := #[{ on := 4, ground := Ground.guard }], guard := some (4, false) }) (v := ?vv5) rfl (by kernel_rfl) (by kernel_rfl) (by kernel_rfl) (fun _ _ _ h => h) (Or.inl ⟨by rfl, ?hy5⟩) hHeld ?rest5
        case hy5 => (intro wS hSw; (try dsimp only at hSw); go_simp; try with_reducible rfl)
        simp only [Act.put, List.setIfInBounds_toArray, List.set_cons_zero, List.set_cons_succ]
        refine wpAnyH_take (i := 7) (oi := { dst := some 25, op := Op.load 24 (Operand.tmp 5), type := 24, pos := "law.go:109", after := #[{ on := 4, ground := Ground.guard }], guard := some (4, false) }) (v := ?vv6) rfl (by kernel_rfl) (by kernel_rfl) (by kernel_rfl) (fun _ _ _ h => h) (Or.inl ⟨by rfl, ?hy6⟩) hHeld ?rest6
        case hy6 => (intro wS hSw; (try dsimp only at hSw); go_simp; try with_reducible rfl)
        simp only [Act.put, List.setIfInBounds_toArray, List.set_cons_zero, List.set_cons_succ]
        refine wpAnyH_ready (rs := [6]) (by kernel_rfl) (by simp) ?_
        refine AllReadyH.cons (o := { dst := some 24, op := Op.call { callee := Callee.value (Operand.func 23), args := #[Operand.tmp 23], argTypes := #[24] }, type := 24, pos := "law.go:109", after := #[{ on := 5, ground := Ground.data }, { on := 4, ground := Ground.chain }, { on := 4, ground := Ground.guard }], guard := some (4, false) }) rfl (fun K hK => ?_) AllReadyH.nil
        go_simp
        with_reducible refine (PL.out _ _ (KS.out _ hcall.out).2.2.1.rc).mono ?_
        rintro e wq ⟨a1, n1, c1, rfl, ho, hb'⟩
        have R1 := Lib.hid (rc_of_owns ho (by omega))
        clear ho
        replace hcall := Lib.hid (hcall.out.trans (hb'.mono hcall.out.size))
        clear hb' hHeld
        try go_wp2_with fail
        refine hK.out _ _ (SC.out _ hcall.out) (fun hHeld => ?_)
        clear hK K
        try simp only [Act.put, List.setIfInBounds_toArray, List.set_cons_zero, List.set_cons_succ]
        refine wpAnyH_ready (rs := [8]) (by kernel_rfl) (by simp) ?_
        refine AllReadyH.cons (o := { dst := some 26, op := Op.call { callee := Callee.value (Operand.func 18), args := #[Operand.tmp 24, Operand.tmp 25], argTypes := #[24, 24] }, type := 4, pos := "law.go:109", after := #[{ on := 6, ground := Ground.data }, { on := 7, ground := Ground.data }, { on := 6, ground := Ground.chain }, { on := 4, ground := Ground.guard }], guard := some (4, false) }) rfl (fun K hK => ?_) AllReadyH.nil
        go_simp
        with_reducible refine (same_yes R1.out (KS.out _ hcall.out).1.rc EL.out).mono ?_
        rintro e wq ⟨rfl, hb'⟩
        replace hcall := Lib.hid (hcall.out.trans (hb'.mono hcall.out.size))
        clear hb' hHeld
        try go_wp2_with fail
        refine hK.out _ _ (SC.out _ hcall.out) (fun hHeld => ?_)
        clear hK K
        try simp only [Act.put, List.setIfInBounds_toArray, List.set_cons_zero, List.set_cons_succ]
        refine wpAnyH_take (i := 9) (oi := { dst := some 27, op := Op.unOp UnOp.not 4 (Operand.tmp 26), type := 4, pos := "law.go:109", after := #[{ on := 8, ground := Ground.data }, { on := 4, ground := Ground.guard }], guard := some (4, false) }) (v := ?vv7) rfl (by kernel_rfl) (by kernel_rfl) (by kernel_rfl) (fun _ _ _ h => h) (Or.inl ⟨by rfl, ?hy7⟩) hHeld ?rest7
        case hy7 => (intro wS hSw; (try dsimp only at hSw); go_simp; try with_reducible rfl)
        simp only [Act.put, List.setIfInBounds_toArray, List.set_cons_zero, List.set_cons_succ]
        refine wpAnyH_take (i := 10) (oi := { dst := some 28, op := Op.pick (Operand.tmp 22) (Operand.const (Value.bool true)) (Operand.tmp 27), type := 4, pos := "law.go:109", after := #[{ on := 4, ground := Ground.data }, { on := 9, ground := Ground.data }], guard := none }) (v := ?vv8) rfl (by kernel_rfl) (by kernel_rfl) (by kernel_rfl) (fun _ _ _ h => h) (Or.inl ⟨by rfl, ?hy8⟩) hHeld ?rest8
        case hy8 => (intro wS hSw; (try dsimp only at hSw); go_simp; try with_reducible rfl)
        simp only [Act.put, List.setIfInBounds_toArray, List.set_cons_zero, List.set_cons_succ]
        refine wpAnyH_take (i := 11) (oi := { dst := some 29, op := Op.move (Operand.tmp 28), type := 4, pos := "law.go:109", after := #[{ on := 10, ground := Ground.data }, { on := 8, ground := Ground.chain }], guard := none }) (v := ?vv9) rfl (by kernel_rfl) (by kernel_rfl) (by kernel_rfl) (fun _ _ _ h => h) (Or.inl ⟨by rfl, ?hy9⟩) hHeld ?rest9
        case hy9 => (intro wS hSw; (try dsimp only at hSw); go_simp; try with_reducible rfl)
        simp only [Act.put, List.setIfInBounds_toArray, List.set_cons_zero, List.set_cons_succ]
        refine wpAnyH_take (i := 12) (oi := { dst := some 30, op := Op.load 24 (Operand.tmp 5), type := 24, pos := "law.go:109", after := #[{ on := 11, ground := Ground.guard }], guard := some (11, false) }) (v := ?vv10) rfl (by kernel_rfl) (by kernel_rfl) (by kernel_rfl) (fun _ _ _ h => h) (Or.inl ⟨by rfl, ?hy10⟩) hHeld ?rest10
        case hy10 => (intro wS hSw; (try dsimp only at hSw); go_simp; try with_reducible rfl)
        simp only [Act.put, List.setIfInBounds_toArray, List.set_cons_zero, List.set_cons_succ]
        refine wpAnyH_take (i := 13) (oi := { dst := some 31, op := Op.load 24 (Operand.tmp 6), type := 24, pos := "law.go:109", after := #[{ on := 11, ground := Ground.guard }], guard := some (11, false) }) (v := ?vv11) rfl (by kernel_rfl) (by kernel_rfl) (by kernel_rfl) (fun _ _ _ h => h) (Or.inl ⟨by rfl, ?hy11⟩) hHeld ?rest11
        case hy11 => (intro wS hSw; (try dsimp only at hSw); go_simp; try with_reducible rfl)
        simp only [Act.put, List.setIfInBounds_toArray, List.set_cons_zero, List.set_cons_succ]
        refine wpAnyH_ready (rs := [14]) (by kernel_rfl) (by simp) ?_
        refine AllReadyH.cons (o := { dst := some 32, op := Op.call { callee := Callee.value (Operand.func 31), args := #[Operand.tmp 30, Operand.tmp 31], argTypes := #[24, 24] }, type := 4, pos := "law.go:109", after := #[{ on := 12, ground := Ground.data }, { on := 13, ground := Ground.data }, { on := 11, ground := Ground.chain }, { on := 11, ground := Ground.guard }], guard := some (11, false) }) rfl (fun K hK => ?_) AllReadyH.nil
        go_simp
        with_reducible refine (Qab.out _ _ _ (KS.out _ hcall.out).1.rc (KS.out _ hcall.out).2.1.rc).mono ?_
        rintro e wq ⟨rfl, hb'⟩
        replace hcall := Lib.hid (hcall.out.trans (hb'.mono hcall.out.size))
        clear hb' hHeld
        try go_wp2_with fail
        refine hK.out _ _ (SC.out _ hcall.out) (fun hHeld => ?_)
        clear hK K
        try simp only [Act.put, List.setIfInBounds_toArray, List.set_cons_zero, List.set_cons_succ]
        refine wpAnyH_take (i := 15) (oi := { dst := some 33, op := Op.move (Operand.tmp 32), type := 4, pos := "law.go:109", after := #[{ on := 14, ground := Ground.data }, { on := 14, ground := Ground.chain }, { on := 11, ground := Ground.guard }], guard := some (11, false) }) (v := ?vv12) rfl (by kernel_rfl) (by kernel_rfl) (by kernel_rfl) (fun _ _ _ h => h) (Or.inl ⟨by rfl, ?hy12⟩) hHeld ?rest12
        case hy12 => (intro wS hSw; (try dsimp only at hSw); go_simp; try with_reducible rfl)
        simp only [Act.put, List.setIfInBounds_toArray, List.set_cons_zero, List.set_cons_succ]
        refine wpAnyH_take (i := 16) (oi := { dst := some 34, op := Op.load 24 (Operand.tmp 5), type := 24, pos := "law.go:109", after := #[{ on := 15, ground := Ground.guard }], guard := some (15, true) }) (v := undef) rfl (by kernel_rfl) (by kernel_rfl) (by kernel_rfl) (fun _ _ _ h => h) (Or.inr ⟨by rfl, rfl⟩) hHeld ?_
        simp only [Act.put, List.setIfInBounds_toArray, List.set_cons_zero, List.set_cons_succ]
        refine wpAnyH_take (i := 17) (oi := { dst := some 35, op := Op.load 24 (Operand.tmp 6), type := 24, pos := "law.go:109", after := #[{ on := 15, ground := Ground.guard }], guard := some (15, true) }) (v := undef) rfl (by kernel_rfl) (by kernel_rfl) (by kernel_rfl) (fun _ _ _ h => h) (Or.inr ⟨by rfl, rfl⟩) hHeld ?_
        simp only [Act.put, List.setIfInBounds_toArray, List.set_cons_zero, List.set_cons_succ]
        refine wpAnyH_take (i := 18) (oi := { dst := some 36, op := Op.call { callee := Callee.value (Operand.func 17), args := #[Operand.tmp 35], argTypes := #[24] }, type := 24, pos := "law.go:109", after := #[{ on := 17, ground := Ground.data }, { on := 15, ground := Ground.chain }, { on := 15, ground := Ground.guard }], guard := some (15, true) }) (v := undef) rfl (by kernel_rfl) (by kernel_rfl) (by kernel_rfl) (fun _ _ _ h => h) (Or.inr ⟨by rfl, rfl⟩) hHeld ?_
        simp only [Act.put, List.setIfInBounds_toArray, List.set_cons_zero, List.set_cons_succ]
        refine wpAnyH_take (i := 19) (oi := { dst := some 37, op := Op.call { callee := Callee.value (Operand.func 31), args := #[Operand.tmp 34, Operand.tmp 36], argTypes := #[24, 24] }, type := 4, pos := "law.go:109", after := #[{ on := 16, ground := Ground.data }, { on := 18, ground := Ground.data }, { on := 18, ground := Ground.chain }, { on := 15, ground := Ground.guard }], guard := some (15, true) }) (v := undef) rfl (by kernel_rfl) (by kernel_rfl) (by kernel_rfl) (fun _ _ _ h => h) (Or.inr ⟨by rfl, rfl⟩) hHeld ?_
        simp only [Act.put, List.setIfInBounds_toArray, List.set_cons_zero, List.set_cons_succ]
        refine wpAnyH_take (i := 20) (oi := { dst := some 38, op := Op.unOp UnOp.not 4 (Operand.tmp 37), type := 4, pos := "law.go:109", after := #[{ on := 19, ground := Ground.data }, { on := 15, ground := Ground.guard }], guard := some (15, true) }) (v := undef) rfl (by kernel_rfl) (by kernel_rfl) (by kernel_rfl) (fun _ _ _ h => h) (Or.inr ⟨by rfl, rfl⟩) hHeld ?_
        simp only [Act.put, List.setIfInBounds_toArray, List.set_cons_zero, List.set_cons_succ]
        refine wpAnyH_take (i := 21) (oi := { dst := some 39, op := Op.pick (Operand.tmp 33) (Operand.tmp 38) (Operand.const (Value.bool false)), type := 4, pos := "law.go:109", after := #[{ on := 15, ground := Ground.data }, { on := 20, ground := Ground.data }, { on := 11, ground := Ground.guard }], guard := some (11, false) }) (v := ?vv13) rfl (by kernel_rfl) (by kernel_rfl) (by kernel_rfl) (fun _ _ _ h => h) (Or.inl ⟨by rfl, ?hy13⟩) hHeld ?rest13
        case hy13 => (intro wS hSw; (try dsimp only at hSw); go_simp; try with_reducible rfl)
        simp only [Act.put, List.setIfInBounds_toArray, List.set_cons_zero, List.set_cons_succ]
        refine wpAnyH_take (i := 22) (oi := { dst := some 40, op := Op.pick (Operand.tmp 29) (Operand.const (Value.bool true)) (Operand.tmp 39), type := 4, pos := "law.go:109", after := #[{ on := 11, ground := Ground.data }, { on := 21, ground := Ground.data }], guard := none }) (v := ?vv14) rfl (by kernel_rfl) (by kernel_rfl) (by kernel_rfl) (fun _ _ _ h => h) (Or.inl ⟨by rfl, ?hy14⟩) hHeld ?rest14
        case hy14 => (intro wS hSw; (try dsimp only at hSw); go_simp; try with_reducible rfl)
        simp only [Act.put, List.setIfInBounds_toArray, List.set_cons_zero, List.set_cons_succ]
        refine wpAnyH_done (by kernel_rfl) ?_ _
        all_goals
          go_wp2_with fail
          go_meet
          exact ⟨by first | rfl | simp, Lib.hid hcall.out⟩
      · clear EN
        refine wp_region_held_drew (S := fun w' => w'.cell? ⟨A0, 0, none⟩ = some (.int .i64 D0) ∧ w'.cell? ⟨A0, 1, none⟩ = some ((.slice a0 n0 c0)) ∧ w'.cell? ⟨A1, 0, none⟩ = some (.int .i64 D1) ∧ w'.cell? ⟨A1, 1, none⟩ = some ((.slice a1 n1 c1)) ∧ w'.cell? ⟨A2, 0, none⟩ = some (.int .i64 Mu) ∧ w'.cell? ⟨A2, 1, none⟩ = some ((.slice a2 n2 c2))) (by kernel_rfl) (SC.out _ hcall.out) (fun hHeld => ?_)
        refine wpAnyH_take (i := 0) (oi := { dst := some 18, op := Op.load 24 (Operand.tmp 5), type := 24, pos := "law.go:109", after := #[], guard := none }) (v := ?vv15) rfl (by kernel_rfl) (by kernel_rfl) (by kernel_rfl) (fun _ _ _ h => h) (Or.inl ⟨by rfl, ?hy15⟩) hHeld ?rest15
        case hy15 => (intro wS hSw; (try dsimp only at hSw); go_simp; try with_reducible rfl)
        simp only [Act.put, List.setIfInBounds_toArray, List.set_cons_zero, List.set_cons_succ]
        refine wpAnyH_take (i := 1) (oi := { dst := some 19, op := Op.load 24 (Operand.tmp 7), type := 24, pos := "law.go:109", after := #[], guard := none }) (v := ?vv16) rfl (by kernel_rfl) (by kernel_rfl) (by kernel_rfl) (fun _ _ _ h => h) (Or.inl ⟨by rfl, ?hy16⟩) hHeld ?rest16
        case hy16 => (intro wS hSw; (try dsimp only at hSw); go_simp; try with_reducible rfl)
        simp only [Act.put, List.setIfInBounds_toArray, List.set_cons_zero, List.set_cons_succ]
        refine wpAnyH_ready (rs := [2]) (by kernel_rfl) (by simp) ?_
        refine AllReadyH.cons (o := { dst := some 20, op := Op.call { callee := Callee.value (Operand.func 31), args := #[Operand.tmp 18, Operand.tmp 19], argTypes := #[24, 24] }, type := 4, pos := "law.go:109", after := #[{ on := 0, ground := Ground.data }, { on := 1, ground := Ground.data }], guard := none }) rfl (fun K hK => ?_) AllReadyH.nil
        go_simp
        with_reducible refine (Qar.out _ _ _ (KS.out _ hcall.out).1.rc (KS.out _ hcall.out).2.2.1.rc).mono ?_
        rintro e wq ⟨rfl, hb'⟩
        replace hcall := Lib.hid (hcall.out.trans (hb'.mono hcall.out.size))
        clear hb' hHeld
        try go_wp2_with fail
        refine hK.out _ _ (SC.out _ hcall.out) (fun hHeld => ?_)
        clear hK K
        try simp only [Act.put, List.setIfInBounds_toArray, List.set_cons_zero, List.set_cons_succ]
        refine wpAnyH_take (i := 3) (oi := { dst := some 21, op := Op.unOp UnOp.not 4 (Operand.tmp 20), type := 4, pos := "law.go:109", after := #[{ on := 2, ground := Ground.data }], guard := none }) (v := ?vv17) rfl (by kernel_rfl) (by kernel_rfl) (by kernel_rfl) (fun _ _ _ h => h) (Or.inl ⟨by rfl, ?hy17⟩) hHeld ?rest17
        case hy17 => (intro wS hSw; (try dsimp only at hSw); go_simp; try with_reducible rfl)
        simp only [Act.put, List.setIfInBounds_toArray, List.set_cons_zero, List.set_cons_succ]
        refine wpAnyH_take (i := 4) (oi := { dst := some 22, op := Op.move (Operand.tmp 21), type := 4, pos := "law.go:109", after := #[{ on := 3, ground := Ground.data }, { on := 2, ground := Ground.chain }], guard := none }) (v := ?vv18) rfl (by kernel_rfl) (by kernel_rfl) (by kernel_rfl) (fun _ _ _ h => h) (Or.inl ⟨by rfl, ?hy18⟩) hHeld ?rest18
        case hy18 => (intro wS hSw; (try dsimp only at hSw); go_simp; try with_reducible rfl)
        simp only [Act.put, List.setIfInBounds_toArray, List.set_cons_zero, List.set_cons_succ]
        refine wpAnyH_take (i := 5) (oi := { dst := some 23, op := Op.load 24 (Operand.tmp 7), type := 24, pos := "law.go:109", after := #[{ on := 4, ground := Ground.guard }], guard := some (4, false) }) (v := ?vv19) rfl (by kernel_rfl) (by kernel_rfl) (by kernel_rfl) (fun _ _ _ h => h) (Or.inl ⟨by rfl, ?hy19⟩) hHeld ?rest19
        case hy19 => (intro wS hSw; (try dsimp only at hSw); go_simp; try with_reducible rfl)
        simp only [Act.put, List.setIfInBounds_toArray, List.set_cons_zero, List.set_cons_succ]
        refine wpAnyH_take (i := 7) (oi := { dst := some 25, op := Op.load 24 (Operand.tmp 5), type := 24, pos := "law.go:109", after := #[{ on := 4, ground := Ground.guard }], guard := some (4, false) }) (v := ?vv20) rfl (by kernel_rfl) (by kernel_rfl) (by kernel_rfl) (fun _ _ _ h => h) (Or.inl ⟨by rfl, ?hy20⟩) hHeld ?rest20
        case hy20 => (intro wS hSw; (try dsimp only at hSw); go_simp; try with_reducible rfl)
        simp only [Act.put, List.setIfInBounds_toArray, List.set_cons_zero, List.set_cons_succ]
        refine wpAnyH_ready (rs := [6]) (by kernel_rfl) (by simp) ?_
        refine AllReadyH.cons (o := { dst := some 24, op := Op.call { callee := Callee.value (Operand.func 23), args := #[Operand.tmp 23], argTypes := #[24] }, type := 24, pos := "law.go:109", after := #[{ on := 5, ground := Ground.data }, { on := 4, ground := Ground.chain }, { on := 4, ground := Ground.guard }], guard := some (4, false) }) rfl (fun K hK => ?_) AllReadyH.nil
        go_simp
        with_reducible refine (PL.out _ _ (KS.out _ hcall.out).2.2.1.rc).mono ?_
        rintro e wq ⟨a1, n1, c1, rfl, ho, hb'⟩
        have R1 := Lib.hid (rc_of_owns ho (by omega))
        clear ho
        replace hcall := Lib.hid (hcall.out.trans (hb'.mono hcall.out.size))
        clear hb' hHeld
        try go_wp2_with fail
        refine hK.out _ _ (SC.out _ hcall.out) (fun hHeld => ?_)
        clear hK K
        try simp only [Act.put, List.setIfInBounds_toArray, List.set_cons_zero, List.set_cons_succ]
        refine wpAnyH_ready (rs := [8]) (by kernel_rfl) (by simp) ?_
        refine AllReadyH.cons (o := { dst := some 26, op := Op.call { callee := Callee.value (Operand.func 18), args := #[Operand.tmp 24, Operand.tmp 25], argTypes := #[24, 24] }, type := 4, pos := "law.go:109", after := #[{ on := 6, ground := Ground.data }, { on := 7, ground := Ground.data }, { on := 6, ground := Ground.chain }, { on := 4, ground := Ground.guard }], guard := some (4, false) }) rfl (fun K hK => ?_) AllReadyH.nil
        go_simp
        with_reducible refine (same_yes R1.out (KS.out _ hcall.out).1.rc EL.out).mono ?_
        rintro e wq ⟨rfl, hb'⟩
        replace hcall := Lib.hid (hcall.out.trans (hb'.mono hcall.out.size))
        clear hb' hHeld
        try go_wp2_with fail
        refine hK.out _ _ (SC.out _ hcall.out) (fun hHeld => ?_)
        clear hK K
        try simp only [Act.put, List.setIfInBounds_toArray, List.set_cons_zero, List.set_cons_succ]
        refine wpAnyH_take (i := 9) (oi := { dst := some 27, op := Op.unOp UnOp.not 4 (Operand.tmp 26), type := 4, pos := "law.go:109", after := #[{ on := 8, ground := Ground.data }, { on := 4, ground := Ground.guard }], guard := some (4, false) }) (v := ?vv21) rfl (by kernel_rfl) (by kernel_rfl) (by kernel_rfl) (fun _ _ _ h => h) (Or.inl ⟨by rfl, ?hy21⟩) hHeld ?rest21
        case hy21 => (intro wS hSw; (try dsimp only at hSw); go_simp; try with_reducible rfl)
        simp only [Act.put, List.setIfInBounds_toArray, List.set_cons_zero, List.set_cons_succ]
        refine wpAnyH_take (i := 10) (oi := { dst := some 28, op := Op.pick (Operand.tmp 22) (Operand.const (Value.bool true)) (Operand.tmp 27), type := 4, pos := "law.go:109", after := #[{ on := 4, ground := Ground.data }, { on := 9, ground := Ground.data }], guard := none }) (v := ?vv22) rfl (by kernel_rfl) (by kernel_rfl) (by kernel_rfl) (fun _ _ _ h => h) (Or.inl ⟨by rfl, ?hy22⟩) hHeld ?rest22
        case hy22 => (intro wS hSw; (try dsimp only at hSw); go_simp; try with_reducible rfl)
        simp only [Act.put, List.setIfInBounds_toArray, List.set_cons_zero, List.set_cons_succ]
        refine wpAnyH_take (i := 11) (oi := { dst := some 29, op := Op.move (Operand.tmp 28), type := 4, pos := "law.go:109", after := #[{ on := 10, ground := Ground.data }, { on := 8, ground := Ground.chain }], guard := none }) (v := ?vv23) rfl (by kernel_rfl) (by kernel_rfl) (by kernel_rfl) (fun _ _ _ h => h) (Or.inl ⟨by rfl, ?hy23⟩) hHeld ?rest23
        case hy23 => (intro wS hSw; (try dsimp only at hSw); go_simp; try with_reducible rfl)
        simp only [Act.put, List.setIfInBounds_toArray, List.set_cons_zero, List.set_cons_succ]
        refine wpAnyH_take (i := 12) (oi := { dst := some 30, op := Op.load 24 (Operand.tmp 5), type := 24, pos := "law.go:109", after := #[{ on := 11, ground := Ground.guard }], guard := some (11, false) }) (v := ?vv24) rfl (by kernel_rfl) (by kernel_rfl) (by kernel_rfl) (fun _ _ _ h => h) (Or.inl ⟨by rfl, ?hy24⟩) hHeld ?rest24
        case hy24 => (intro wS hSw; (try dsimp only at hSw); go_simp; try with_reducible rfl)
        simp only [Act.put, List.setIfInBounds_toArray, List.set_cons_zero, List.set_cons_succ]
        refine wpAnyH_take (i := 13) (oi := { dst := some 31, op := Op.load 24 (Operand.tmp 6), type := 24, pos := "law.go:109", after := #[{ on := 11, ground := Ground.guard }], guard := some (11, false) }) (v := ?vv25) rfl (by kernel_rfl) (by kernel_rfl) (by kernel_rfl) (fun _ _ _ h => h) (Or.inl ⟨by rfl, ?hy25⟩) hHeld ?rest25
        case hy25 => (intro wS hSw; (try dsimp only at hSw); go_simp; try with_reducible rfl)
        simp only [Act.put, List.setIfInBounds_toArray, List.set_cons_zero, List.set_cons_succ]
        refine wpAnyH_ready (rs := [14]) (by kernel_rfl) (by simp) ?_
        refine AllReadyH.cons (o := { dst := some 32, op := Op.call { callee := Callee.value (Operand.func 31), args := #[Operand.tmp 30, Operand.tmp 31], argTypes := #[24, 24] }, type := 4, pos := "law.go:109", after := #[{ on := 12, ground := Ground.data }, { on := 13, ground := Ground.data }, { on := 11, ground := Ground.chain }, { on := 11, ground := Ground.guard }], guard := some (11, false) }) rfl (fun K hK => ?_) AllReadyH.nil
        go_simp
        with_reducible refine (Qab.out _ _ _ (KS.out _ hcall.out).1.rc (KS.out _ hcall.out).2.1.rc).mono ?_
        rintro e wq ⟨rfl, hb'⟩
        replace hcall := Lib.hid (hcall.out.trans (hb'.mono hcall.out.size))
        clear hb' hHeld
        try go_wp2_with fail
        refine hK.out _ _ (SC.out _ hcall.out) (fun hHeld => ?_)
        clear hK K
        try simp only [Act.put, List.setIfInBounds_toArray, List.set_cons_zero, List.set_cons_succ]
        refine wpAnyH_take (i := 15) (oi := { dst := some 33, op := Op.move (Operand.tmp 32), type := 4, pos := "law.go:109", after := #[{ on := 14, ground := Ground.data }, { on := 14, ground := Ground.chain }, { on := 11, ground := Ground.guard }], guard := some (11, false) }) (v := ?vv26) rfl (by kernel_rfl) (by kernel_rfl) (by kernel_rfl) (fun _ _ _ h => h) (Or.inl ⟨by rfl, ?hy26⟩) hHeld ?rest26
        case hy26 => (intro wS hSw; (try dsimp only at hSw); go_simp; try with_reducible rfl)
        simp only [Act.put, List.setIfInBounds_toArray, List.set_cons_zero, List.set_cons_succ]
        refine wpAnyH_take (i := 16) (oi := { dst := some 34, op := Op.load 24 (Operand.tmp 5), type := 24, pos := "law.go:109", after := #[{ on := 15, ground := Ground.guard }], guard := some (15, true) }) (v := ?vv27) rfl (by kernel_rfl) (by kernel_rfl) (by kernel_rfl) (fun _ _ _ h => h) (Or.inl ⟨by rfl, ?hy27⟩) hHeld ?rest27
        case hy27 => (intro wS hSw; (try dsimp only at hSw); go_simp; try with_reducible rfl)
        simp only [Act.put, List.setIfInBounds_toArray, List.set_cons_zero, List.set_cons_succ]
        refine wpAnyH_take (i := 17) (oi := { dst := some 35, op := Op.load 24 (Operand.tmp 6), type := 24, pos := "law.go:109", after := #[{ on := 15, ground := Ground.guard }], guard := some (15, true) }) (v := ?vv28) rfl (by kernel_rfl) (by kernel_rfl) (by kernel_rfl) (fun _ _ _ h => h) (Or.inl ⟨by rfl, ?hy28⟩) hHeld ?rest28
        case hy28 => (intro wS hSw; (try dsimp only at hSw); go_simp; try with_reducible rfl)
        simp only [Act.put, List.setIfInBounds_toArray, List.set_cons_zero, List.set_cons_succ]
        refine wpAnyH_ready (rs := [18]) (by kernel_rfl) (by simp) ?_
        refine AllReadyH.cons (o := { dst := some 36, op := Op.call { callee := Callee.value (Operand.func 17), args := #[Operand.tmp 35], argTypes := #[24] }, type := 24, pos := "law.go:109", after := #[{ on := 17, ground := Ground.data }, { on := 15, ground := Ground.chain }, { on := 15, ground := Ground.guard }], guard := some (15, true) }) rfl (fun K hK => ?_) AllReadyH.nil
        go_simp
        with_reducible refine (PT.out _ _ (KS.out _ hcall.out).2.1.rc).mono ?_
        rintro e wq ⟨a2, n2, c2, rfl, ho, hb'⟩
        have R2 := Lib.hid (rc_of_owns ho (by omega))
        clear ho
        replace hcall := Lib.hid (hcall.out.trans (hb'.mono hcall.out.size))
        clear hb' hHeld
        try go_wp2_with fail
        refine hK.out _ _ (SC.out _ hcall.out) (fun hHeld => ?_)
        clear hK K
        try simp only [Act.put, List.setIfInBounds_toArray, List.set_cons_zero, List.set_cons_succ]
        refine wpAnyH_ready (rs := [19]) (by kernel_rfl) (by simp) ?_
        refine AllReadyH.cons (o := { dst := some 37, op := Op.call { callee := Callee.value (Operand.func 31), args := #[Operand.tmp 34, Operand.tmp 36], argTypes := #[24, 24] }, type := 4, pos := "law.go:109", after := #[{ on := 16, ground := Ground.data }, { on := 18, ground := Ground.data }, { on := 18, ground := Ground.chain }, { on := 15, ground := Ground.guard }], guard := some (15, true) }) rfl (fun K hK => ?_) AllReadyH.nil
        go_simp
        with_reducible refine (Qat.out _ _ _ (KS.out _ hcall.out).1.rc R2.out).mono ?_
        rintro e wq ⟨rfl, hb'⟩
        replace hcall := Lib.hid (hcall.out.trans (hb'.mono hcall.out.size))
        clear hb' hHeld
        try go_wp2_with fail
        refine hK.out _ _ (SC.out _ hcall.out) (fun hHeld => ?_)
        clear hK K
        try simp only [Act.put, List.setIfInBounds_toArray, List.set_cons_zero, List.set_cons_succ]
        refine wpAnyH_take (i := 20) (oi := { dst := some 38, op := Op.unOp UnOp.not 4 (Operand.tmp 37), type := 4, pos := "law.go:109", after := #[{ on := 19, ground := Ground.data }, { on := 15, ground := Ground.guard }], guard := some (15, true) }) (v := ?vv29) rfl (by kernel_rfl) (by kernel_rfl) (by kernel_rfl) (fun _ _ _ h => h) (Or.inl ⟨by rfl, ?hy29⟩) hHeld ?rest29
        case hy29 => (intro wS hSw; (try dsimp only at hSw); go_simp; try with_reducible rfl)
        simp only [Act.put, List.setIfInBounds_toArray, List.set_cons_zero, List.set_cons_succ]
        refine wpAnyH_take (i := 21) (oi := { dst := some 39, op := Op.pick (Operand.tmp 33) (Operand.tmp 38) (Operand.const (Value.bool false)), type := 4, pos := "law.go:109", after := #[{ on := 15, ground := Ground.data }, { on := 20, ground := Ground.data }, { on := 11, ground := Ground.guard }], guard := some (11, false) }) (v := ?vv30) rfl (by kernel_rfl) (by kernel_rfl) (by kernel_rfl) (fun _ _ _ h => h) (Or.inl ⟨by rfl, ?hy30⟩) hHeld ?rest30
        case hy30 => (intro wS hSw; (try dsimp only at hSw); go_simp; try with_reducible rfl)
        simp only [Act.put, List.setIfInBounds_toArray, List.set_cons_zero, List.set_cons_succ]
        refine wpAnyH_take (i := 22) (oi := { dst := some 40, op := Op.pick (Operand.tmp 29) (Operand.const (Value.bool true)) (Operand.tmp 39), type := 4, pos := "law.go:109", after := #[{ on := 11, ground := Ground.data }, { on := 21, ground := Ground.data }], guard := none }) (v := ?vv31) rfl (by kernel_rfl) (by kernel_rfl) (by kernel_rfl) (fun _ _ _ h => h) (Or.inl ⟨by rfl, ?hy31⟩) hHeld ?rest31
        case hy31 => (intro wS hSw; (try dsimp only at hSw); go_simp; try with_reducible rfl)
        simp only [Act.put, List.setIfInBounds_toArray, List.set_cons_zero, List.set_cons_succ]
        refine wpAnyH_done (by kernel_rfl) ?_ _
        all_goals
          go_wp2_with fail
          go_meet
          exact ⟨by first | rfl | simp, Lib.hid hcall.out⟩
    case rest =>
      obtain ⟨rfl, HF3⟩ := hcut
      have hcall := Lib.hid HF3.out
      clear HF3 HT Qar Qab Qat PL PT EL
      obtain ⟨q0a, q0b, q1a, q1b, q2a, q2b⟩ := SC.out _ hcall.out
      go_wp2_with fail
      refine (PO.out _ _ (KS.out _ hcall.out).1.rc).mono ?_
      rintro e X7 ⟨a7, c7, rfl, hcs, hb'⟩
      have H7 := Lib.hid (hcall.out.trans (hb'.mono hcall.out.size))
      have HCS := Lib.hid hcs
      clear hcs hb' hcall PO q0a q0b q1a q1b q2a q2b
      rw [EN.out]
      go_wp2_with fail
      go_loopg [44] n (fun g i wr => ∃ k : Nat, k ≤ n ∧ Hid (g = n - k) ∧ i = .int .i64 k ∧ Hid (Below X7.heap.size X7 wr))
      case atStart => exact ⟨0, by omega, Lib.hid (by omega), rfl, Lib.hid (Below.refl _ _)⟩
      case round =>
        obtain ⟨k, hk, hg, rfl, hr⟩ := hrel
        have hcall := Lib.hid (H7.out.trans (hr.out.mono H7.out.size))
        by_cases hlt : k < n
        · obtain ⟨c, hc⟩ : ∃ c, (Lab.owns ps0)[k]? = some c := ⟨_, List.getElem?_eq_getElem (by rw [EN.out]; exact hlt)⟩
          obtain ⟨bc, oc, rfl, hbc, hce⟩ := HCS.out k c hc
          have s5 : wr.cell? ⟨bc, oc + k, none⟩ = some (.int .u32 (c : Nat)) := by rw [hr.out.cell (p := ⟨bc, _, none⟩) hbc]; exact hce
          obtain ⟨h5, h2⟩ := HQ5.out k c hc
          have QA := Lib.hid (fun (W : World) (v0 : Value) (r0 : RC W.heap.size W v0 Zu) => (at_c Ou.out r0 h5 : Calls Try.prog 28 #[.agg #[.int .i64 Mu, v0], .int .u32 c] W fun e w' => e = .returned (.int .i64 5) ∧ Below W.heap.size W w'))
          have QB := Lib.hid (fun (W : World) (v0 : Value) (r0 : RC W.heap.size W v0 Zs) => (at_c Os.out r0 h2 : Calls Try.prog 28 #[.agg #[.int .i64 Ms, v0], .int .u32 c] W fun e w' => e = .returned (.int .i64 2) ∧ Below W.heap.size W w'))
          have HR := Lib.hid (Below.refl wr.heap.size wr)
          have H8 := hcall
          clear h5 h2 hc hce
          obtain ⟨q0a, q0b, q1a, q1b, q2a, q2b⟩ := SC.out _ hcall.out
          go_wp2_with fail
          refine (QA.out _ _ (KS.out _ hcall.out).2.2.1.rc).mono ?_
          rintro e wq ⟨rfl, hb'⟩
          have hw := Lib.hid (hcall.out.trans (hb'.mono hcall.out.size))
          replace HR := Lib.hid (HR.out.trans (hb'.mono HR.out.size))
          clear hcall q0a q0b q1a q1b q2a q2b
          have hcall := hw
          clear hw hb'
          obtain ⟨q0a, q0b, q1a, q1b, q2a, q2b⟩ := SC.out _ hcall.out
          go_wp2_with fail
          refine (PS.out _ _ (KS.out _ hcall.out).1.rc).mono ?_
          rintro e wq2 ⟨a4, n4, c4, rfl, ho, hb'⟩
          have R4 := rc_of_owns ho (by omega)
          clear ho
          have hw := Lib.hid (hcall.out.trans (hb'.mono hcall.out.size))
          replace HR := Lib.hid (HR.out.trans (hb'.mono HR.out.size))
          clear hcall q0a q0b q1a q1b q2a q2b
          have hcall := hw
          clear hw hb'
          obtain ⟨q0a, q0b, q1a, q1b, q2a, q2b⟩ := SC.out _ hcall.out
          go_wp2_with fail
          refine (QB.out _ _ R4).mono ?_
          rintro e wq3 ⟨rfl, hb'⟩
          clear R4
          have hw := Lib.hid (hcall.out.trans (hb'.mono hcall.out.size))
          replace HR := Lib.hid (HR.out.trans (hb'.mono HR.out.size))
          clear hcall q0a q0b q1a q1b q2a q2b
          have hcall := hw
          clear hw hb'
          obtain ⟨q0a, q0b, q1a, q1b, q2a, q2b⟩ := SC.out _ hcall.out
          go_wp2_with fail
          go_roundg (n - (k + 1))
          case measure => rw [hg.out]; omega
          case rel => exact ⟨k + 1, by omega, Lib.hid rfl, by go_num, Lib.hid (hr.out.trans (HR.out.mono hr.out.size))⟩
        · replace hcall := Lib.hid hcall.out.drew
          clear HCS HQ5 EN hg hr H7
          go_upto_region 13 with fail
          by_cases hn0 : n = 0
          · have HE := Lib.hid (HSR.out hn0)
            clear HSR
            subst hn0
            have st0 := Lib.hid (show 0 = 0 from rfl)
            refine wp_region_held_drew (S := fun w' => w'.cell? ⟨A0, 0, none⟩ = some (.int .i64 D0) ∧ w'.cell? ⟨A0, 1, none⟩ = some ((.slice a0 n0 c0)) ∧ w'.cell? ⟨A1, 0, none⟩ = some (.int .i64 D1) ∧ w'.cell? ⟨A1, 1, none⟩ = some ((.slice a1 n1 c1)) ∧ w'.cell? ⟨A2, 0, none⟩ = some (.int .i64 Mu) ∧ w'.cell? ⟨A2, 1, none⟩ = some ((.slice a2 n2 c2))) (by kernel_rfl) (SC.out _ hcall.out) (fun hHeld => ?_)
            refine wpAnyH_take (i := 0) (oi := { dst := some 60, op := Op.load 24 (Operand.tmp 7), type := 24, pos := "law.go:117", after := #[], guard := none }) (v := ?vv32) rfl (by kernel_rfl) (by kernel_rfl) (by kernel_rfl) (fun _ _ _ h => h) (Or.inl ⟨by rfl, ?hy32⟩) hHeld ?rest32
            case hy32 => (intro wS hSw; (try dsimp only at hSw); go_simp; try with_reducible rfl)
            simp only [Act.put, List.setIfInBounds_toArray, List.set_cons_zero, List.set_cons_succ]
            refine wpAnyH_ready (rs := [1]) (by kernel_rfl) (by simp) ?_
            refine AllReadyH.cons (o := { dst := some 61, op := Op.call { callee := Callee.value (Operand.func 26), args := #[Operand.tmp 60], argTypes := #[24] }, type := 39, pos := "law.go:117", after := #[{ on := 0, ground := Ground.data }], guard := none }) rfl (fun K hK => ?_) AllReadyH.nil
            go_simp
            with_reducible refine (PR.out _ _ (KS.out _ hcall.out).2.2.1.rc).mono ?_
            rintro e wq ⟨a7, c7, rfl, hb'⟩
            replace hcall := Lib.hid (hcall.out.trans (hb'.mono hcall.out.size))
            clear hb' hHeld
            try go_wp2_with fail
            refine hK.out _ _ (SC.out _ hcall.out) (fun hHeld => ?_)
            clear hK K
            try simp only [Act.put, List.setIfInBounds_toArray, List.set_cons_zero, List.set_cons_succ]
            refine wpAnyH_take (i := 2) (oi := { dst := some 62, op := Op.call { callee := Callee.builtin Builtin.len, args := #[Operand.tmp 61], argTypes := #[39] }, type := 3, pos := "law.go:117", after := #[{ on := 1, ground := Ground.data }], guard := none }) (v := ?vv33) rfl (by kernel_rfl) (by kernel_rfl) (by kernel_rfl) (fun _ _ _ h => h) (Or.inl ⟨by rfl, ?hy33⟩) hHeld ?rest33
            case hy33 => (intro wS hSw; (try dsimp only at hSw); go_simp; try with_reducible rfl)
            simp only [Act.put, List.setIfInBounds_toArray, List.set_cons_zero, List.set_cons_succ]
            refine wpAnyH_take (i := 3) (oi := { dst := some 63, op := Op.binOp BinOp.eql 3 (Operand.tmp 62) (Operand.const (Value.int IntKind.i64 0)) 3, type := 4, pos := "law.go:117", after := #[{ on := 2, ground := Ground.data }], guard := none }) (v := ?vv34) rfl (by kernel_rfl) (by kernel_rfl) (by kernel_rfl) (fun _ _ _ h => h) (Or.inl ⟨by rfl, ?hy34⟩) hHeld ?rest34
            case hy34 => (intro wS hSw; (try dsimp only at hSw); go_simp; try with_reducible rfl)
            simp only [Act.put, List.setIfInBounds_toArray, List.set_cons_zero, List.set_cons_succ]
            refine wpAnyH_take (i := 4) (oi := { dst := some 64, op := Op.move (Operand.tmp 63), type := 4, pos := "law.go:117", after := #[{ on := 3, ground := Ground.data }, { on := 1, ground := Ground.chain }], guard := none }) (v := ?vv35) rfl (by kernel_rfl) (by kernel_rfl) (by kernel_rfl) (fun _ _ _ h => h) (Or.inl ⟨by rfl, ?hy35⟩) hHeld ?rest35
            case hy35 => (intro wS hSw; (try dsimp only at hSw); go_simp; try with_reducible rfl)
            simp only [Act.put, List.setIfInBounds_toArray, List.set_cons_zero, List.set_cons_succ]
            refine wpAnyH_take (i := 5) (oi := { dst := some 65, op := Op.load 24 (Operand.tmp 5), type := 24, pos := "law.go:117", after := #[{ on := 4, ground := Ground.guard }], guard := some (4, true) }) (v := ?vv36) rfl (by kernel_rfl) (by kernel_rfl) (by kernel_rfl) (fun _ _ _ h => h) (Or.inl ⟨by rfl, ?hy36⟩) hHeld ?rest36
            case hy36 => (intro wS hSw; (try dsimp only at hSw); go_simp; try with_reducible rfl)
            simp only [Act.put, List.setIfInBounds_toArray, List.set_cons_zero, List.set_cons_succ]
            refine wpAnyH_ready (rs := [6]) (by kernel_rfl) (by simp) ?_
            refine AllReadyH.cons (o := { dst := some 66, op := Op.call { callee := Callee.value (Operand.func 26), args := #[Operand.tmp 65], argTypes := #[24] }, type := 39, pos := "law.go:117", after := #[{ on := 5, ground := Ground.data }, { on := 4, ground := Ground.chain }, { on := 4, ground := Ground.guard }], guard := some (4, true) }) rfl (fun K hK => ?_) AllReadyH.nil
            go_simp
            with_reducible refine (PO2.out _ _ (KS.out _ hcall.out).1.rc).mono ?_
            rintro e wq ⟨a8, c8, rfl, hb'⟩
            replace hcall := Lib.hid (hcall.out.trans (hb'.mono hcall.out.size))
            clear hb' hHeld
            try go_wp2_with fail
            refine hK.out _ _ (SC.out _ hcall.out) (fun hHeld => ?_)
            clear hK K
            try simp only [Act.put, List.setIfInBounds_toArray, List.set_cons_zero, List.set_cons_succ]
            refine wpAnyH_take (i := 7) (oi := { dst := some 67, op := Op.call { callee := Callee.builtin Builtin.len, args := #[Operand.tmp 66], argTypes := #[39] }, type := 3, pos := "law.go:117", after := #[{ on := 6, ground := Ground.data }, { on := 4, ground := Ground.guard }], guard := some (4, true) }) (v := ?vv37) rfl (by kernel_rfl) (by kernel_rfl) (by kernel_rfl) (fun _ _ _ h => h) (Or.inl ⟨by rfl, ?hy37⟩) hHeld ?rest37
            case hy37 => (intro wS hSw; (try dsimp only at hSw); go_simp; try with_reducible rfl)
            simp only [Act.put, List.setIfInBounds_toArray, List.set_cons_zero, List.set_cons_succ]
            refine wpAnyH_take (i := 8) (oi := { dst := some 68, op := Op.binOp BinOp.gtr 3 (Operand.tmp 67) (Operand.const (Value.int IntKind.i64 0)) 3, type := 4, pos := "law.go:117", after := #[{ on := 7, ground := Ground.data }, { on := 4, ground := Ground.guard }], guard := some (4, true) }) (v := ?vv38) rfl (by kernel_rfl) (by kernel_rfl) (by kernel_rfl) (fun _ _ _ h => h) (Or.inl ⟨by rfl, ?hy38⟩) hHeld ?rest38
            case hy38 => (intro wS hSw; (try dsimp only at hSw); go_simp; try with_reducible rfl)
            simp only [Act.put, List.setIfInBounds_toArray, List.set_cons_zero, List.set_cons_succ]
            refine wpAnyH_take (i := 9) (oi := { dst := some 69, op := Op.move (Operand.tmp 68), type := 4, pos := "law.go:117", after := #[{ on := 8, ground := Ground.data }, { on := 6, ground := Ground.chain }, { on := 4, ground := Ground.guard }], guard := some (4, true) }) (v := ?vv39) rfl (by kernel_rfl) (by kernel_rfl) (by kernel_rfl) (fun _ _ _ h => h) (Or.inl ⟨by rfl, ?hy39⟩) hHeld ?rest39
            case hy39 => (intro wS hSw; (try dsimp only at hSw); go_simp; try with_reducible rfl)
            simp only [Act.put, List.setIfInBounds_toArray, List.set_cons_zero, List.set_cons_succ]
            refine wpAnyH_take (i := 10) (oi := { dst := some 70, op := Op.load 24 (Operand.tmp 5), type := 24, pos := "law.go:117", after := #[{ on := 9, ground := Ground.guard }], guard := some (9, false) }) (v := ?vv40) rfl (by kernel_rfl) (by kernel_rfl) (by kernel_rfl) (fun _ _ _ h => h) (Or.inl ⟨by rfl, ?hy40⟩) hHeld ?rest40
            case hy40 => (intro wS hSw; (try dsimp only at hSw); go_simp; try with_reducible rfl)
            simp only [Act.put, List.setIfInBounds_toArray, List.set_cons_zero, List.set_cons_succ]
            refine wpAnyH_take (i := 11) (oi := { dst := some 71, op := Op.load 24 (Operand.tmp 7), type := 24, pos := "law.go:117", after := #[{ on := 9, ground := Ground.guard }], guard := some (9, false) }) (v := ?vv41) rfl (by kernel_rfl) (by kernel_rfl) (by kernel_rfl) (fun _ _ _ h => h) (Or.inl ⟨by rfl, ?hy41⟩) hHeld ?rest41
            case hy41 => (intro wS hSw; (try dsimp only at hSw); go_simp; try with_reducible rfl)
            simp only [Act.put, List.setIfInBounds_toArray, List.set_cons_zero, List.set_cons_succ]
            refine wpAnyH_ready (rs := [12]) (by kernel_rfl) (by simp) ?_
            refine AllReadyH.cons (o := { dst := some 72, op := Op.call { callee := Callee.value (Operand.func 18), args := #[Operand.tmp 70, Operand.tmp 71], argTypes := #[24, 24] }, type := 4, pos := "law.go:117", after := #[{ on := 10, ground := Ground.data }, { on := 11, ground := Ground.data }, { on := 9, ground := Ground.chain }, { on := 9, ground := Ground.guard }], guard := some (9, false) }) rfl (fun K hK => ?_) AllReadyH.nil
            go_simp
            with_reducible refine (same_yes (KS.out _ hcall.out).1.rc (KS.out _ hcall.out).2.2.1.rc HE.out).mono ?_
            rintro e wq ⟨rfl, hb'⟩
            replace hcall := Lib.hid (hcall.out.trans (hb'.mono hcall.out.size))
            clear hb' hHeld
            try go_wp2_with fail
            refine hK.out _ _ (SC.out _ hcall.out) (fun hHeld => ?_)
            clear hK K
            try simp only [Act.put, List.setIfInBounds_toArray, List.set_cons_zero, List.set_cons_succ]
            refine wpAnyH_take (i := 13) (oi := { dst := some 73, op := Op.pick (Operand.tmp 69) (Operand.const (Value.bool true)) (Operand.tmp 72), type := 4, pos := "law.go:117", after := #[{ on := 9, ground := Ground.data }, { on := 12, ground := Ground.data }, { on := 4, ground := Ground.guard }], guard := some (4, true) }) (v := ?vv42) rfl (by kernel_rfl) (by kernel_rfl) (by kernel_rfl) (fun _ _ _ h => h) (Or.inl ⟨by rfl, ?hy42⟩) hHeld ?rest42
            case hy42 => (intro wS hSw; (try dsimp only at hSw); go_simp; try with_reducible rfl)
            simp only [Act.put, List.setIfInBounds_toArray, List.set_cons_zero, List.set_cons_succ]
            refine wpAnyH_take (i := 14) (oi := { dst := some 74, op := Op.pick (Operand.tmp 64) (Operand.tmp 73) (Operand.const (Value.bool false)), type := 4, pos := "law.go:117", after := #[{ on := 4, ground := Ground.data }, { on := 13, ground := Ground.data }], guard := none }) (v := ?vv43) rfl (by kernel_rfl) (by kernel_rfl) (by kernel_rfl) (fun _ _ _ h => h) (Or.inl ⟨by rfl, ?hy43⟩) hHeld ?rest43
            case hy43 => (intro wS hSw; (try dsimp only at hSw); go_simp; try with_reducible rfl)
            simp only [Act.put, List.setIfInBounds_toArray, List.set_cons_zero, List.set_cons_succ]
            refine wpAnyH_take (i := 15) (oi := { dst := some 75, op := Op.move (Operand.tmp 74), type := 4, pos := "law.go:117", after := #[{ on := 14, ground := Ground.data }, { on := 12, ground := Ground.chain }], guard := none }) (v := ?vv44) rfl (by kernel_rfl) (by kernel_rfl) (by kernel_rfl) (fun _ _ _ h => h) (Or.inl ⟨by rfl, ?hy44⟩) hHeld ?rest44
            case hy44 => (intro wS hSw; (try dsimp only at hSw); go_simp; try with_reducible rfl)
            simp only [Act.put, List.setIfInBounds_toArray, List.set_cons_zero, List.set_cons_succ]
            refine wpAnyH_take (i := 16) (oi := { dst := some 76, op := Op.load 24 (Operand.tmp 5), type := 24, pos := "law.go:117", after := #[{ on := 15, ground := Ground.guard }], guard := some (15, true) }) (v := ?vv45) rfl (by kernel_rfl) (by kernel_rfl) (by kernel_rfl) (fun _ _ _ h => h) (Or.inl ⟨by rfl, ?hy45⟩) hHeld ?rest45
            case hy45 => (intro wS hSw; (try dsimp only at hSw); go_simp; try with_reducible rfl)
            simp only [Act.put, List.setIfInBounds_toArray, List.set_cons_zero, List.set_cons_succ]
            refine wpAnyH_take (i := 17) (oi := { dst := some 77, op := Op.load 24 (Operand.tmp 5), type := 24, pos := "law.go:117", after := #[{ on := 15, ground := Ground.guard }], guard := some (15, true) }) (v := ?vv46) rfl (by kernel_rfl) (by kernel_rfl) (by kernel_rfl) (fun _ _ _ h => h) (Or.inl ⟨by rfl, ?hy46⟩) hHeld ?rest46
            case hy46 => (intro wS hSw; (try dsimp only at hSw); go_simp; try with_reducible rfl)
            simp only [Act.put, List.setIfInBounds_toArray, List.set_cons_zero, List.set_cons_succ]
            refine wpAnyH_ready (rs := [18]) (by kernel_rfl) (by simp) ?_
            refine AllReadyH.cons (o := { dst := some 78, op := Op.call { callee := Callee.value (Operand.func 21), args := #[Operand.tmp 77], argTypes := #[24] }, type := 24, pos := "law.go:117", after := #[{ on := 17, ground := Ground.data }, { on := 15, ground := Ground.chain }, { on := 15, ground := Ground.guard }], guard := some (15, true) }) rfl (fun K hK => ?_) AllReadyH.nil
            go_simp
            with_reducible refine (PS.out _ _ (KS.out _ hcall.out).1.rc).mono ?_
            rintro e wq ⟨a9, n9, c9, rfl, ho, hb'⟩
            have R9 := Lib.hid (rc_of_owns ho (by omega))
            clear ho
            replace hcall := Lib.hid (hcall.out.trans (hb'.mono hcall.out.size))
            clear hb' hHeld
            try go_wp2_with fail
            refine hK.out _ _ (SC.out _ hcall.out) (fun hHeld => ?_)
            clear hK K
            try simp only [Act.put, List.setIfInBounds_toArray, List.set_cons_zero, List.set_cons_succ]
            refine wpAnyH_ready (rs := [19]) (by kernel_rfl) (by simp) ?_
            refine AllReadyH.cons (o := { dst := some 79, op := Op.call { callee := Callee.value (Operand.func 31), args := #[Operand.tmp 76, Operand.tmp 78], argTypes := #[24, 24] }, type := 4, pos := "law.go:117", after := #[{ on := 16, ground := Ground.data }, { on := 18, ground := Ground.data }, { on := 18, ground := Ground.chain }, { on := 15, ground := Ground.guard }], guard := some (15, true) }) rfl (fun K hK => ?_) AllReadyH.nil
            go_simp
            with_reducible refine (Qas.out _ _ _ (KS.out _ hcall.out).1.rc R9.out).mono ?_
            rintro e wq ⟨rfl, hb'⟩
            replace hcall := Lib.hid (hcall.out.trans (hb'.mono hcall.out.size))
            clear hb' hHeld
            try go_wp2_with fail
            refine hK.out _ _ (SC.out _ hcall.out) (fun hHeld => ?_)
            clear hK K
            try simp only [Act.put, List.setIfInBounds_toArray, List.set_cons_zero, List.set_cons_succ]
            refine wpAnyH_take (i := 20) (oi := { dst := some 80, op := Op.pick (Operand.tmp 75) (Operand.tmp 79) (Operand.const (Value.bool false)), type := 4, pos := "law.go:117", after := #[{ on := 15, ground := Ground.data }, { on := 19, ground := Ground.data }], guard := none }) (v := ?vv47) rfl (by kernel_rfl) (by kernel_rfl) (by kernel_rfl) (fun _ _ _ h => h) (Or.inl ⟨by rfl, ?hy47⟩) hHeld ?rest47
            case hy47 => (intro wS hSw; (try dsimp only at hSw); go_simp; try with_reducible rfl)
            simp only [Act.put, List.setIfInBounds_toArray, List.set_cons_zero, List.set_cons_succ]
            refine wpAnyH_take (i := 21) (oi := { dst := some 4, op := Op.assign (Operand.tmp 80), type := 4, pos := "law.go:117", after := #[{ on := 20, ground := Ground.data }, { on := 19, ground := Ground.chain }, { on := 0, ground := Ground.phase }, { on := 1, ground := Ground.phase }, { on := 2, ground := Ground.phase }, { on := 3, ground := Ground.phase }, { on := 4, ground := Ground.phase }, { on := 5, ground := Ground.phase }, { on := 6, ground := Ground.phase }, { on := 7, ground := Ground.phase }, { on := 8, ground := Ground.phase }, { on := 9, ground := Ground.phase }, { on := 10, ground := Ground.phase }, { on := 11, ground := Ground.phase }, { on := 12, ground := Ground.phase }, { on := 13, ground := Ground.phase }, { on := 14, ground := Ground.phase }, { on := 15, ground := Ground.phase }, { on := 16, ground := Ground.phase }, { on := 17, ground := Ground.phase }, { on := 18, ground := Ground.phase }, { on := 19, ground := Ground.phase }, { on := 20, ground := Ground.phase }], guard := none }) (v := ?vv48) rfl (by kernel_rfl) (by kernel_rfl) (by kernel_rfl) (fun _ _ _ h => h) (Or.inl ⟨by rfl, ?hy48⟩) hHeld ?rest48
            case hy48 => (intro wS hSw; (try dsimp only at hSw); go_simp; try with_reducible rfl)
            simp only [Act.put, List.setIfInBounds_toArray, List.set_cons_zero, List.set_cons_succ]
            refine wpAnyH_done (by kernel_rfl) ?_ _
            all_goals
              go_wp2_with fail
              go_ret
              exact ⟨by first | rfl | simp, (KS.out _ hcall.out).2.2.2⟩
          · have hn1 : (0 : Int) < (n : Int) := by omega
            have hnb : decide ((0 : Int) < (n : Int)) = true := decide_eq_true hn1
            have hnp : 0 < n := by omega
            have hnb2 : decide (0 < n) = true := decide_eq_true hnp
            have hnc : decide (n = 0) = false := decide_eq_false (by omega)
            have hnd : (n == 0) = false := by simp; omega
            clear HSR hn0
            have st0 := Lib.hid (show 0 = 0 from rfl)
            refine wp_region_held_drew (S := fun w' => w'.cell? ⟨A0, 0, none⟩ = some (.int .i64 D0) ∧ w'.cell? ⟨A0, 1, none⟩ = some ((.slice a0 n0 c0)) ∧ w'.cell? ⟨A1, 0, none⟩ = some (.int .i64 D1) ∧ w'.cell? ⟨A1, 1, none⟩ = some ((.slice a1 n1 c1)) ∧ w'.cell? ⟨A2, 0, none⟩ = some (.int .i64 Mu) ∧ w'.cell? ⟨A2, 1, none⟩ = some ((.slice a2 n2 c2))) (by kernel_rfl) (SC.out _ hcall.out) (fun hHeld => ?_)
            refine wpAnyH_take (i := 0) (oi := { dst := some 60, op := Op.load 24 (Operand.tmp 7), type := 24, pos := "law.go:117", after := #[], guard := none }) (v := ?vv49) rfl (by kernel_rfl) (by kernel_rfl) (by kernel_rfl) (fun _ _ _ h => h) (Or.inl ⟨by rfl, ?hy49⟩) hHeld ?rest49
            case hy49 => (intro wS hSw; (try dsimp only at hSw); go_simp; (try simp only [hnb, hnb2, hnc, hnd, hnp, decide_true, Bool.not_false]); try with_reducible rfl)
            simp only [Act.put, List.setIfInBounds_toArray, List.set_cons_zero, List.set_cons_succ]
            refine wpAnyH_ready (rs := [1]) (by kernel_rfl) (by simp) ?_
            refine AllReadyH.cons (o := { dst := some 61, op := Op.call { callee := Callee.value (Operand.func 26), args := #[Operand.tmp 60], argTypes := #[24] }, type := 39, pos := "law.go:117", after := #[{ on := 0, ground := Ground.data }], guard := none }) rfl (fun K hK => ?_) AllReadyH.nil
            go_simp
            with_reducible refine (PR.out _ _ (KS.out _ hcall.out).2.2.1.rc).mono ?_
            rintro e wq ⟨a7, c7, rfl, hb'⟩
            replace hcall := Lib.hid (hcall.out.trans (hb'.mono hcall.out.size))
            clear hb' hHeld
            try go_wp2_with fail
            refine hK.out _ _ (SC.out _ hcall.out) (fun hHeld => ?_)
            clear hK K
            try simp only [Act.put, List.setIfInBounds_toArray, List.set_cons_zero, List.set_cons_succ]
            refine wpAnyH_take (i := 2) (oi := { dst := some 62, op := Op.call { callee := Callee.builtin Builtin.len, args := #[Operand.tmp 61], argTypes := #[39] }, type := 3, pos := "law.go:117", after := #[{ on := 1, ground := Ground.data }], guard := none }) (v := ?vv50) rfl (by kernel_rfl) (by kernel_rfl) (by kernel_rfl) (fun _ _ _ h => h) (Or.inl ⟨by rfl, ?hy50⟩) hHeld ?rest50
            case hy50 => (intro wS hSw; (try dsimp only at hSw); go_simp; (try simp only [hnb, hnb2, hnc, hnd, hnp, decide_true, Bool.not_false]); try with_reducible rfl)
            simp only [Act.put, List.setIfInBounds_toArray, List.set_cons_zero, List.set_cons_succ]
            refine wpAnyH_take (i := 3) (oi := { dst := some 63, op := Op.binOp BinOp.eql 3 (Operand.tmp 62) (Operand.const (Value.int IntKind.i64 0)) 3, type := 4, pos := "law.go:117", after := #[{ on := 2, ground := Ground.data }], guard := none }) (v := ?vv51) rfl (by kernel_rfl) (by kernel_rfl) (by kernel_rfl) (fun _ _ _ h => h) (Or.inl ⟨by rfl, ?hy51⟩) hHeld ?rest51
            case hy51 => (intro wS hSw; (try dsimp only at hSw); go_simp; (try simp only [hnb, hnb2, hnc, hnd, hnp, decide_true, Bool.not_false]); try with_reducible rfl)
            simp only [Act.put, List.setIfInBounds_toArray, List.set_cons_zero, List.set_cons_succ]
            refine wpAnyH_take (i := 4) (oi := { dst := some 64, op := Op.move (Operand.tmp 63), type := 4, pos := "law.go:117", after := #[{ on := 3, ground := Ground.data }, { on := 1, ground := Ground.chain }], guard := none }) (v := ?vv52) rfl (by kernel_rfl) (by kernel_rfl) (by kernel_rfl) (fun _ _ _ h => h) (Or.inl ⟨by rfl, ?hy52⟩) hHeld ?rest52
            case hy52 => (intro wS hSw; (try dsimp only at hSw); go_simp; (try simp only [hnb, hnb2, hnc, hnd, hnp, decide_true, Bool.not_false]); try with_reducible rfl)
            simp only [Act.put, List.setIfInBounds_toArray, List.set_cons_zero, List.set_cons_succ]
            refine wpAnyH_take (i := 5) (oi := { dst := some 65, op := Op.load 24 (Operand.tmp 5), type := 24, pos := "law.go:117", after := #[{ on := 4, ground := Ground.guard }], guard := some (4, true) }) (v := ?vv53) rfl (by kernel_rfl) (by kernel_rfl) (by kernel_rfl) (fun _ _ _ h => h) (Or.inl ⟨by rfl, ?hy53⟩) hHeld ?rest53
            case hy53 => (intro wS hSw; (try dsimp only at hSw); go_simp; (try simp only [hnb, hnb2, hnc, hnd, hnp, decide_true, Bool.not_false]); try with_reducible rfl)
            simp only [Act.put, List.setIfInBounds_toArray, List.set_cons_zero, List.set_cons_succ]
            refine wpAnyH_ready (rs := [6]) (by kernel_rfl) (by simp) ?_
            refine AllReadyH.cons (o := { dst := some 66, op := Op.call { callee := Callee.value (Operand.func 26), args := #[Operand.tmp 65], argTypes := #[24] }, type := 39, pos := "law.go:117", after := #[{ on := 5, ground := Ground.data }, { on := 4, ground := Ground.chain }, { on := 4, ground := Ground.guard }], guard := some (4, true) }) rfl (fun K hK => ?_) AllReadyH.nil
            go_simp
            with_reducible refine (PO2.out _ _ (KS.out _ hcall.out).1.rc).mono ?_
            rintro e wq ⟨a8, c8, rfl, hb'⟩
            replace hcall := Lib.hid (hcall.out.trans (hb'.mono hcall.out.size))
            clear hb' hHeld
            try go_wp2_with fail
            refine hK.out _ _ (SC.out _ hcall.out) (fun hHeld => ?_)
            clear hK K
            try simp only [Act.put, List.setIfInBounds_toArray, List.set_cons_zero, List.set_cons_succ]
            refine wpAnyH_take (i := 7) (oi := { dst := some 67, op := Op.call { callee := Callee.builtin Builtin.len, args := #[Operand.tmp 66], argTypes := #[39] }, type := 3, pos := "law.go:117", after := #[{ on := 6, ground := Ground.data }, { on := 4, ground := Ground.guard }], guard := some (4, true) }) (v := ?vv54) rfl (by kernel_rfl) (by kernel_rfl) (by kernel_rfl) (fun _ _ _ h => h) (Or.inl ⟨by rfl, ?hy54⟩) hHeld ?rest54
            case hy54 => (intro wS hSw; (try dsimp only at hSw); go_simp; (try simp only [hnb, hnb2, hnc, hnd, hnp, decide_true, Bool.not_false]); try with_reducible rfl)
            simp only [Act.put, List.setIfInBounds_toArray, List.set_cons_zero, List.set_cons_succ]
            refine wpAnyH_take (i := 8) (oi := { dst := some 68, op := Op.binOp BinOp.gtr 3 (Operand.tmp 67) (Operand.const (Value.int IntKind.i64 0)) 3, type := 4, pos := "law.go:117", after := #[{ on := 7, ground := Ground.data }, { on := 4, ground := Ground.guard }], guard := some (4, true) }) (v := ?vv55) rfl (by kernel_rfl) (by kernel_rfl) (by kernel_rfl) (fun _ _ _ h => h) (Or.inl ⟨by rfl, ?hy55⟩) hHeld ?rest55
            case hy55 => (intro wS hSw; (try dsimp only at hSw); go_simp; (try simp only [hnb, hnb2, hnc, hnd, hnp, decide_true, Bool.not_false]); try with_reducible rfl)
            simp only [Act.put, List.setIfInBounds_toArray, List.set_cons_zero, List.set_cons_succ]
            refine wpAnyH_take (i := 9) (oi := { dst := some 69, op := Op.move (Operand.tmp 68), type := 4, pos := "law.go:117", after := #[{ on := 8, ground := Ground.data }, { on := 6, ground := Ground.chain }, { on := 4, ground := Ground.guard }], guard := some (4, true) }) (v := ?vv56) rfl (by kernel_rfl) (by kernel_rfl) (by kernel_rfl) (fun _ _ _ h => h) (Or.inl ⟨by rfl, ?hy56⟩) hHeld ?rest56
            case hy56 => (intro wS hSw; (try dsimp only at hSw); go_simp; (try simp only [hnb, hnb2, hnc, hnd, hnp, decide_true, Bool.not_false]); try with_reducible rfl)
            simp only [Act.put, List.setIfInBounds_toArray, List.set_cons_zero, List.set_cons_succ]
            refine wpAnyH_take (i := 10) (oi := { dst := some 70, op := Op.load 24 (Operand.tmp 5), type := 24, pos := "law.go:117", after := #[{ on := 9, ground := Ground.guard }], guard := some (9, false) }) (v := undef) rfl (by kernel_rfl) (by kernel_rfl) (by kernel_rfl) (fun _ _ _ h => h) (Or.inr ⟨by rfl, rfl⟩) hHeld ?_
            simp only [Act.put, List.setIfInBounds_toArray, List.set_cons_zero, List.set_cons_succ]
            refine wpAnyH_take (i := 11) (oi := { dst := some 71, op := Op.load 24 (Operand.tmp 7), type := 24, pos := "law.go:117", after := #[{ on := 9, ground := Ground.guard }], guard := some (9, false) }) (v := undef) rfl (by kernel_rfl) (by kernel_rfl) (by kernel_rfl) (fun _ _ _ h => h) (Or.inr ⟨by rfl, rfl⟩) hHeld ?_
            simp only [Act.put, List.setIfInBounds_toArray, List.set_cons_zero, List.set_cons_succ]
            refine wpAnyH_take (i := 12) (oi := { dst := some 72, op := Op.call { callee := Callee.value (Operand.func 18), args := #[Operand.tmp 70, Operand.tmp 71], argTypes := #[24, 24] }, type := 4, pos := "law.go:117", after := #[{ on := 10, ground := Ground.data }, { on := 11, ground := Ground.data }, { on := 9, ground := Ground.chain }, { on := 9, ground := Ground.guard }], guard := some (9, false) }) (v := undef) rfl (by kernel_rfl) (by kernel_rfl) (by kernel_rfl) (fun _ _ _ h => h) (Or.inr ⟨by rfl, rfl⟩) hHeld ?_
            simp only [Act.put, List.setIfInBounds_toArray, List.set_cons_zero, List.set_cons_succ]
            refine wpAnyH_take (i := 13) (oi := { dst := some 73, op := Op.pick (Operand.tmp 69) (Operand.const (Value.bool true)) (Operand.tmp 72), type := 4, pos := "law.go:117", after := #[{ on := 9, ground := Ground.data }, { on := 12, ground := Ground.data }, { on := 4, ground := Ground.guard }], guard := some (4, true) }) (v := ?vv57) rfl (by kernel_rfl) (by kernel_rfl) (by kernel_rfl) (fun _ _ _ h => h) (Or.inl ⟨by rfl, ?hy57⟩) hHeld ?rest57
            case hy57 => (intro wS hSw; (try dsimp only at hSw); go_simp; (try simp only [hnb, hnb2, hnc, hnd, hnp, decide_true, Bool.not_false]); try with_reducible rfl)
            simp only [Act.put, List.setIfInBounds_toArray, List.set_cons_zero, List.set_cons_succ]
            refine wpAnyH_take (i := 14) (oi := { dst := some 74, op := Op.pick (Operand.tmp 64) (Operand.tmp 73) (Operand.const (Value.bool false)), type := 4, pos := "law.go:117", after := #[{ on := 4, ground := Ground.data }, { on := 13, ground := Ground.data }], guard := none }) (v := ?vv58) rfl (by kernel_rfl) (by kernel_rfl) (by kernel_rfl) (fun _ _ _ h => h) (Or.inl ⟨by rfl, ?hy58⟩) hHeld ?rest58
            case hy58 => (intro wS hSw; (try dsimp only at hSw); go_simp; (try simp only [hnb, hnb2, hnc, hnd, hnp, decide_true, Bool.not_false]); try with_reducible rfl)
            simp only [Act.put, List.setIfInBounds_toArray, List.set_cons_zero, List.set_cons_succ]
            refine wpAnyH_take (i := 15) (oi := { dst := some 75, op := Op.move (Operand.tmp 74), type := 4, pos := "law.go:117", after := #[{ on := 14, ground := Ground.data }, { on := 12, ground := Ground.chain }], guard := none }) (v := ?vv59) rfl (by kernel_rfl) (by kernel_rfl) (by kernel_rfl) (fun _ _ _ h => h) (Or.inl ⟨by rfl, ?hy59⟩) hHeld ?rest59
            case hy59 => (intro wS hSw; (try dsimp only at hSw); go_simp; (try simp only [hnb, hnb2, hnc, hnd, hnp, decide_true, Bool.not_false]); try with_reducible rfl)
            simp only [Act.put, List.setIfInBounds_toArray, List.set_cons_zero, List.set_cons_succ]
            refine wpAnyH_take (i := 16) (oi := { dst := some 76, op := Op.load 24 (Operand.tmp 5), type := 24, pos := "law.go:117", after := #[{ on := 15, ground := Ground.guard }], guard := some (15, true) }) (v := ?vv60) rfl (by kernel_rfl) (by kernel_rfl) (by kernel_rfl) (fun _ _ _ h => h) (Or.inl ⟨by rfl, ?hy60⟩) hHeld ?rest60
            case hy60 => (intro wS hSw; (try dsimp only at hSw); go_simp; (try simp only [hnb, hnb2, hnc, hnd, hnp, decide_true, Bool.not_false]); try with_reducible rfl)
            simp only [Act.put, List.setIfInBounds_toArray, List.set_cons_zero, List.set_cons_succ]
            refine wpAnyH_take (i := 17) (oi := { dst := some 77, op := Op.load 24 (Operand.tmp 5), type := 24, pos := "law.go:117", after := #[{ on := 15, ground := Ground.guard }], guard := some (15, true) }) (v := ?vv61) rfl (by kernel_rfl) (by kernel_rfl) (by kernel_rfl) (fun _ _ _ h => h) (Or.inl ⟨by rfl, ?hy61⟩) hHeld ?rest61
            case hy61 => (intro wS hSw; (try dsimp only at hSw); go_simp; (try simp only [hnb, hnb2, hnc, hnd, hnp, decide_true, Bool.not_false]); try with_reducible rfl)
            simp only [Act.put, List.setIfInBounds_toArray, List.set_cons_zero, List.set_cons_succ]
            refine wpAnyH_ready (rs := [18]) (by kernel_rfl) (by simp) ?_
            refine AllReadyH.cons (o := { dst := some 78, op := Op.call { callee := Callee.value (Operand.func 21), args := #[Operand.tmp 77], argTypes := #[24] }, type := 24, pos := "law.go:117", after := #[{ on := 17, ground := Ground.data }, { on := 15, ground := Ground.chain }, { on := 15, ground := Ground.guard }], guard := some (15, true) }) rfl (fun K hK => ?_) AllReadyH.nil
            go_simp
            with_reducible refine (PS.out _ _ (KS.out _ hcall.out).1.rc).mono ?_
            rintro e wq ⟨a9, n9, c9, rfl, ho, hb'⟩
            have R9 := Lib.hid (rc_of_owns ho (by omega))
            clear ho
            replace hcall := Lib.hid (hcall.out.trans (hb'.mono hcall.out.size))
            clear hb' hHeld
            try go_wp2_with fail
            refine hK.out _ _ (SC.out _ hcall.out) (fun hHeld => ?_)
            clear hK K
            try simp only [Act.put, List.setIfInBounds_toArray, List.set_cons_zero, List.set_cons_succ]
            refine wpAnyH_ready (rs := [19]) (by kernel_rfl) (by simp) ?_
            refine AllReadyH.cons (o := { dst := some 79, op := Op.call { callee := Callee.value (Operand.func 31), args := #[Operand.tmp 76, Operand.tmp 78], argTypes := #[24, 24] }, type := 4, pos := "law.go:117", after := #[{ on := 16, ground := Ground.data }, { on := 18, ground := Ground.data }, { on := 18, ground := Ground.chain }, { on := 15, ground := Ground.guard }], guard := some (15, true) }) rfl (fun K hK => ?_) AllReadyH.nil
            go_simp
            with_reducible refine (Qas.out _ _ _ (KS.out _ hcall.out).1.rc R9.out).mono ?_
            rintro e wq ⟨rfl, hb'⟩
            replace hcall := Lib.hid (hcall.out.trans (hb'.mono hcall.out.size))
            clear hb' hHeld
            try go_wp2_with fail
            refine hK.out _ _ (SC.out _ hcall.out) (fun hHeld => ?_)
            clear hK K
            try simp only [Act.put, List.setIfInBounds_toArray, List.set_cons_zero, List.set_cons_succ]
            refine wpAnyH_take (i := 20) (oi := { dst := some 80, op := Op.pick (Operand.tmp 75) (Operand.tmp 79) (Operand.const (Value.bool false)), type := 4, pos := "law.go:117", after := #[{ on := 15, ground := Ground.data }, { on := 19, ground := Ground.data }], guard := none }) (v := ?vv62) rfl (by kernel_rfl) (by kernel_rfl) (by kernel_rfl) (fun _ _ _ h => h) (Or.inl ⟨by rfl, ?hy62⟩) hHeld ?rest62
            case hy62 => (intro wS hSw; (try dsimp only at hSw); go_simp; (try simp only [hnb, hnb2, hnc, hnd, hnp, decide_true, Bool.not_false]); try with_reducible rfl)
            simp only [Act.put, List.setIfInBounds_toArray, List.set_cons_zero, List.set_cons_succ]
            refine wpAnyH_take (i := 21) (oi := { dst := some 4, op := Op.assign (Operand.tmp 80), type := 4, pos := "law.go:117", after := #[{ on := 20, ground := Ground.data }, { on := 19, ground := Ground.chain }, { on := 0, ground := Ground.phase }, { on := 1, ground := Ground.phase }, { on := 2, ground := Ground.phase }, { on := 3, ground := Ground.phase }, { on := 4, ground := Ground.phase }, { on := 5, ground := Ground.phase }, { on := 6, ground := Ground.phase }, { on := 7, ground := Ground.phase }, { on := 8, ground := Ground.phase }, { on := 9, ground := Ground.phase }, { on := 10, ground := Ground.phase }, { on := 11, ground := Ground.phase }, { on := 12, ground := Ground.phase }, { on := 13, ground := Ground.phase }, { on := 14, ground := Ground.phase }, { on := 15, ground := Ground.phase }, { on := 16, ground := Ground.phase }, { on := 17, ground := Ground.phase }, { on := 18, ground := Ground.phase }, { on := 19, ground := Ground.phase }, { on := 20, ground := Ground.phase }], guard := none }) (v := ?vv63) rfl (by kernel_rfl) (by kernel_rfl) (by kernel_rfl) (fun _ _ _ h => h) (Or.inl ⟨by rfl, ?hy63⟩) hHeld ?rest63
            case hy63 => (intro wS hSw; (try dsimp only at hSw); go_simp; (try simp only [hnb, hnb2, hnc, hnd, hnp, decide_true, Bool.not_false]); try with_reducible rfl)
            simp only [Act.put, List.setIfInBounds_toArray, List.set_cons_zero, List.set_cons_succ]
            refine wpAnyH_done (by kernel_rfl) ?_ _
            all_goals
              go_wp2_with fail
              go_ret
              exact ⟨by first | rfl | simp, (KS.out _ hcall.out).2.2.2⟩
end Go.Proofs.Ytlkhbbdigljpjaa
