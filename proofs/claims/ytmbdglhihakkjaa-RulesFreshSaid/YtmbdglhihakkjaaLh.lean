/- RulesFresh. -/
import Derived.Test.YtmbdglhihakkjaaQo
import Derived.Test.YtmbdglhihakkjaaQj
set_option linter.unusedVariables false
set_option linter.unusedSimpArgs false
namespace Go.Proofs.Ytmbdglhihakkjaa
open Go.RowKit
set_option linter.unusedVariables false
set_option linter.unusedSimpArgs false
set_option maxHeartbeats 40000000 in
set_option maxRecDepth 100000 in
theorem fresh_all {w : World} (S0 : Int) {sa0 : Option Addr} {sn0 sc0 : Nat} {ls0 : List Int} (S1 : Int) {sa1 : Option Addr} {sn1 sc1 : Nat} {ls1 : List Int} (x1 : Int) (x2 : Int) (hx : 0 ≤ x1 ∧ x1 ≤ 4294967295) (hy : -9223372036854775808 ≤ x2 ∧ x2 ≤ 9223372036854775807) (h0 : IntsL w (.slice sa0 sn0 sc0) ls0) (h1 : IntsL w (.slice sa1 sn1 sc1) ls1) : Calls Try.prog 9 #[.agg #[.int .i64 S0, .slice sa0 sn0 sc0, .int .i64 S1, .slice sa1 sn1 sc1], .int .u32 x1, .int .i64 x2] w (BB w true) := by
  obtain ⟨D0, eD0⟩ : ∃ D, Lab.seedD S0 = D := ⟨_, rfl⟩
  obtain ⟨P0, eP0⟩ : ∃ P, Lab.seedP S0 ls0 = P := ⟨_, rfl⟩
  have hfs0 := Lab.fine_seed S0 ls0
  rw [eD0, eP0] at hfs0
  have FS0 := Lib.hid hfs0
  have CS0 := Lib.hid (fun (W : World) (h : IntsL W (.slice sa0 sn0 sc0) ls0) => (by have := seed_m S0 sa0 sn0 sc0 ls0 W h; rwa [eD0, eP0] at this : Calls Try.prog 12 #[.agg #[.int .i64 S0, .slice sa0 sn0 sc0]] W (LM 12 W D0 P0)))
  clear hfs0 eD0 eP0
  obtain ⟨D1, eD1⟩ : ∃ D, Lab.seedD S1 = D := ⟨_, rfl⟩
  obtain ⟨P1, eP1⟩ : ∃ P, Lab.seedP S1 ls1 = P := ⟨_, rfl⟩
  have hfs1 := Lab.fine_seed S1 ls1
  rw [eD1, eP1] at hfs1
  have FS1 := Lib.hid hfs1
  have CS1 := Lib.hid (fun (W : World) (h : IntsL W (.slice sa1 sn1 sc1) ls1) => (by have := seed_m S1 sa1 sn1 sc1 ls1 W h; rwa [eD1, eP1] at this : Calls Try.prog 12 #[.agg #[.int .i64 S1, .slice sa1 sn1 sc1]] W (LM 12 W D1 P1)))
  clear hfs1 eD1 eP1
  obtain ⟨W0, e0⟩ : ∃ W0, W0 = (w.alloc (Obj.cells #[.int .i64 S0, .slice sa0 sn0 sc0, .int .i64 S1, .slice sa1 sn1 sc1] 58)) := ⟨_, rfl⟩
  have hB : Below w.heap.size w W0 := by rw [e0]; exact ((Below.refl w.heap.size w).alloc (by omega) _)
  have hk0 : W0.heap[w.heap.size]? = some (Obj.cells #[.int .i64 S0, .slice sa0 sn0 sc0, .int .i64 S1, .slice sa1 sn1 sc1] 58) := by
    rw [e0]
    have := heap_alloc_new w (Obj.cells #[.int .i64 S0, .slice sa0 sn0 sc0, .int .i64 S1, .slice sa1 sn1 sc1] 58); simpa using this
  have HS := Lib.hid (fun (wx : World) (hx : Below W0.heap.size W0 wx) => (by
      have hw : Below w.heap.size w wx := hB.trans (hx.mono hB.size)
      have r0 := block_below hk0 hx
      exact ⟨hw, by rw [cell_of_row _ _ 0 _ 58 (0, 0) r0]; rfl, by rw [cell_of_row _ _ 1 _ 58 (0, 0) r0]; rfl, by rw [cell_of_row _ _ 2 _ 58 (0, 0) r0]; rfl, by rw [cell_of_row _ _ 3 _ 58 (0, 0) r0]; rfl, h0.below hw, h1.below hw⟩ : Below w.heap.size w wx ∧ wx.cell? ⟨w.heap.size, 0, none⟩ = some (.int .i64 S0) ∧ wx.cell? ⟨w.heap.size, 1, none⟩ = some (.slice sa0 sn0 sc0) ∧ wx.cell? ⟨w.heap.size, 2, none⟩ = some (.int .i64 S1) ∧ wx.cell? ⟨w.heap.size, 3, none⟩ = some (.slice sa1 sn1 sc1) ∧ IntsL wx (.slice sa0 sn0 sc0) ls0 ∧ IntsL wx (.slice sa1 sn1 sc1) ls1))
  clear h0 h1 hB hk0
  go_enter Try.func9, Try.ntmps9
  go_wp2_with fail
  rw [← e0]
  clear e0
  refine (fit_m _).mono ?_
  rintro e w1 ⟨rfl, hb1⟩
  have HB1 := Lib.hid hb1
  have HS1 := Lib.hid (fun (wx : World) (hx : Below w1.heap.size w1 wx) => HS.out wx (HB1.out.trans (hx.mono HB1.out.size)))
  clear HS
  have HS := HS1
  clear HS1 HB1 hb1
  obtain ⟨c, hc1, hc2, ec⟩ : ∃ c : Nat, 100 ≤ c ∧ c ≤ 2000 ∧ (bits .and .u32 x1 1023 + 100) % 4294967296 = (c : Int) := ⟨((bits .and .u32 x1 1023 + 100) % 4294967296).toNat, by rw [and1023]; omega, by rw [and1023]; omega, by rw [and1023]; omega⟩
  have HC := Lib.hid (And.intro hc1 hc2)
  have EC := Lib.hid ec
  obtain ⟨lv, hl1, hl4, elv⟩ := lvl_of x2
  have HLV := Lib.hid (And.intro hl1 hl4)
  have ELV := Lib.hid elv
  clear hc1 hc2 ec hx hl1 hl4 elv hy
  go_upto_region 4 with fail
  rw [EC.out]
  go_cut [7, 17, 18, 19, 20, 21, 22, 23, 24, 25, 26, 27] (fun s7 s17 s18 s19 s20 s21 s22 s23 s24 s25 s26 s27 wx => ∃ V7 a20 n20 c20 a21 n21 c21, s7 = .pointer (some ⟨V7, 0, none⟩) ∧ Hid (wx.heap[V7]? = some (Obj.cells #[.int .i64 D0, .slice a20 n20 c20, .int .i64 (max D0 D1), .slice a21 n21 c21] 32) ∧ LA 12 wx D0 a20 n20 c20 P0 ∧ LA 24 wx (max D0 D1) a21 n21 c21 (Lab.jn D0 P0 D1 P1) ∧ Below w1.heap.size w1 wx))
  case first =>
    have hHeld := Below.refl w1.heap.size w1
    refine region_AU (Z := fun j => false) (S := fun w' => Below w1.heap.size w1 w') (by kernel_rfl) (hHeld.drew) (fun hHeld => ?_)
    obtain ⟨wd4, ewd⟩ : ∃ wd, wd = w1.drew := ⟨_, rfl⟩
    rw [← ewd] at hHeld ⊢
    clear ewd
    refine AUS_take (by kernel_rfl) rfl (i := 0) (oi := _) (v := ?vw1) rfl (by kernel_rfl) (by kernel_rfl) (by kernel_rfl) (fun _ _ _ h => h) (Or.inl ⟨by rfl, ?hz1⟩) hHeld ?rst1
    case hz1 => (intro wS hSw; obtain ⟨_, f0, f1, f2, f3, _, _⟩ := HS.out wS hSw; clear hSw; go_simp; try with_reducible rfl)
    simp only [Act.put, List.getElem_toArray, List.getElem_cons_zero, List.getElem_cons_succ, List.setIfInBounds_toArray, List.set_cons_zero, List.set_cons_succ]
    refine AUS_take (by kernel_rfl) rfl (i := 1) (oi := _) (v := ?vw2) rfl (by kernel_rfl) (by kernel_rfl) (by kernel_rfl) (fun _ _ _ h => h) (Or.inl ⟨by rfl, ?hz2⟩) hHeld ?rst2
    case hz2 => (intro wS hSw; obtain ⟨_, f0, f1, f2, f3, _, _⟩ := HS.out wS hSw; clear hSw; go_simp; try with_reducible rfl)
    simp only [Act.put, List.getElem_toArray, List.getElem_cons_zero, List.getElem_cons_succ, List.setIfInBounds_toArray, List.set_cons_zero, List.set_cons_succ]
    refine AUS_take (by kernel_rfl) rfl (i := 3) (oi := _) (v := ?vw3) rfl (by kernel_rfl) (by kernel_rfl) (by kernel_rfl) (fun _ _ _ h => h) (Or.inl ⟨by rfl, ?hz3⟩) hHeld ?rst3
    case hz3 => (intro wS hSw; obtain ⟨_, f0, f1, f2, f3, _, _⟩ := HS.out wS hSw; clear hSw; go_simp; try with_reducible rfl)
    simp only [Act.put, List.getElem_toArray, List.getElem_cons_zero, List.getElem_cons_succ, List.setIfInBounds_toArray, List.set_cons_zero, List.set_cons_succ]
    refine AUS_take (by kernel_rfl) rfl (i := 4) (oi := _) (v := ?vw4) rfl (by kernel_rfl) (by kernel_rfl) (by kernel_rfl) (fun _ _ _ h => h) (Or.inl ⟨by rfl, ?hz4⟩) hHeld ?rst4
    case hz4 => (intro wS hSw; obtain ⟨_, f0, f1, f2, f3, _, _⟩ := HS.out wS hSw; clear hSw; go_simp; try with_reducible rfl)
    simp only [Act.put, List.getElem_toArray, List.getElem_cons_zero, List.getElem_cons_succ, List.setIfInBounds_toArray, List.set_cons_zero, List.set_cons_succ]
    refine AUS_take (by kernel_rfl) rfl (i := 6) (oi := _) (v := ?vw5) rfl (by kernel_rfl) (by kernel_rfl) (by kernel_rfl) (fun _ _ _ h => h) (Or.inl ⟨by rfl, ?hz5⟩) hHeld ?rst5
    case hz5 => (intro wS hSw; obtain ⟨_, f0, f1, f2, f3, _, _⟩ := HS.out wS hSw; clear hSw; go_simp; try with_reducible rfl)
    simp only [Act.put, List.getElem_toArray, List.getElem_cons_zero, List.getElem_cons_succ, List.setIfInBounds_toArray, List.set_cons_zero, List.set_cons_succ]
    refine AUS_take (by kernel_rfl) rfl (i := 7) (oi := _) (v := ?vw6) rfl (by kernel_rfl) (by kernel_rfl) (by kernel_rfl) (fun _ _ _ h => h) (Or.inl ⟨by rfl, ?hz6⟩) hHeld ?rst6
    case hz6 => (intro wS hSw; obtain ⟨_, f0, f1, f2, f3, _, _⟩ := HS.out wS hSw; clear hSw; go_simp; try with_reducible rfl)
    simp only [Act.put, List.getElem_toArray, List.getElem_cons_zero, List.getElem_cons_succ, List.setIfInBounds_toArray, List.set_cons_zero, List.set_cons_succ]
    refine AU_two (i := 2) (j := 11) (oi := _) (oj := _) (by kernel_rfl) rfl rfl (fun K hK => ?_) (fun K hK => ?_)
    · skip
      have HH := Lib.hid hHeld
      obtain ⟨_, f0, f1, f2, f3, gs0, gs1⟩ := HS.out _ hHeld
      have CC := Lib.hid (CS0.out _ gs0)
      clear hHeld gs0 gs1 f0 f1 f2 f3
      go_simp
      refine CC.out.mono ?_
      clear CC
      rintro e wz1 ⟨a50, n50, c50, rfl, l50, hb⟩
      have hHeld := HH.out.trans (hb.mono HH.out.size)
      clear HH hb
      refine hK.out _ _ (fun _ => hHeld) ?_
      clear hK K
      try simp only [Act.put, List.getElem_toArray, List.getElem_cons_zero, List.getElem_cons_succ, List.setIfInBounds_toArray, List.set_cons_zero, List.set_cons_succ]
      refine AU_two (i := 5) (j := 11) (oi := _) (oj := _) (by kernel_rfl) rfl rfl (fun K hK => ?_) (fun K hK => ?_)
      · skip
        have HH := Lib.hid hHeld
        obtain ⟨_, f0, f1, f2, f3, gs0, gs1⟩ := HS.out _ hHeld
        have CC := Lib.hid (CS0.out _ gs0)
        clear hHeld gs0 gs1 f0 f1 f2 f3
        go_simp
        refine CC.out.mono ?_
        clear CC
        rintro e wz2 ⟨a51, n51, c51, rfl, l51, hb⟩
        have hHeld := HH.out.trans (hb.mono HH.out.size)
        replace l50 := l50.below hb
        clear HH hb
        refine hK.out _ _ (fun _ => hHeld) ?_
        clear hK K
        try simp only [Act.put, List.getElem_toArray, List.getElem_cons_zero, List.getElem_cons_succ, List.setIfInBounds_toArray, List.set_cons_zero, List.set_cons_succ]
        refine AU_two (i := 8) (j := 11) (oi := _) (oj := _) (by kernel_rfl) rfl rfl (fun K hK => ?_) (fun K hK => ?_)
        · skip
          have HH := Lib.hid hHeld
          obtain ⟨_, f0, f1, f2, f3, gs0, gs1⟩ := HS.out _ hHeld
          have CC := Lib.hid (CS1.out _ gs1)
          clear hHeld gs0 gs1 f0 f1 f2 f3
          go_simp
          refine CC.out.mono ?_
          clear CC
          rintro e wz3 ⟨a52, n52, c52, rfl, l52, hb⟩
          have hHeld := HH.out.trans (hb.mono HH.out.size)
          replace l50 := l50.below hb
          replace l51 := l51.below hb
          clear HH hb
          refine hK.out _ _ (fun _ => hHeld) ?_
          clear hK K
          try simp only [Act.put, List.getElem_toArray, List.getElem_cons_zero, List.getElem_cons_succ, List.setIfInBounds_toArray, List.set_cons_zero, List.set_cons_succ]
          refine AU_two (i := 9) (j := 11) (oi := _) (oj := _) (by kernel_rfl) rfl rfl (fun K hK => ?_) (fun K hK => ?_)
          · skip
            have HH := Lib.hid hHeld
            obtain ⟨hbw, _, _, _, _, gs0, gs1⟩ := HS.out _ hHeld
            have CC := Lib.hid (join_m l51.la l52.la (by omega) (by omega))
            clear hHeld hbw gs0 gs1
            go_simp
            refine CC.out.mono ?_
            clear CC
            rintro e wz4 ⟨a53, n53, c53, rfl, l53, hb⟩
            have hHeld := HH.out.trans (hb.mono HH.out.size)
            replace l50 := l50.below hb
            replace l51 := l51.below hb
            replace l52 := l52.below hb
            clear HH hb
            refine hK.out _ _ (fun _ => hHeld) ?_
            clear hK K
            try simp only [Act.put, List.getElem_toArray, List.getElem_cons_zero, List.getElem_cons_succ, List.setIfInBounds_toArray, List.set_cons_zero, List.set_cons_succ]
            refine AUS_take (by kernel_rfl) rfl (i := 10) (oi := _) (v := ?vw7) rfl (by kernel_rfl) (by kernel_rfl) (by kernel_rfl) (fun _ _ _ h => h) (Or.inl ⟨by rfl, ?hz7⟩) hHeld ?rst7
            case hz7 => (intro wS hSw; obtain ⟨_, f0, f1, f2, f3, _, _⟩ := HS.out wS hSw; clear hSw; go_simp; try with_reducible rfl)
            simp only [Act.put, List.getElem_toArray, List.getElem_cons_zero, List.getElem_cons_succ, List.setIfInBounds_toArray, List.set_cons_zero, List.set_cons_succ]
            have HH := Lib.hid hHeld
            have hn5 := heap_alloc_new wz4 (Obj.cells #[.int .i64 0, .slice none 0 0, .int .i64 0, .slice none 0 0] 32)
            have hb := below_alloc1 wz4 (Obj.cells #[.int .i64 0, .slice none 0 0, .int .i64 0, .slice none 0 0] 32)
            refine AU_one (i := 11) (o := _) (by kernel_rfl) rfl (fun K hK => ?_)
            clear hHeld
            go_simp
            have hHeld := HH.out.trans (hb.mono HH.out.size)
            replace l50 := l50.below hb
            replace l51 := l51.below hb
            replace l52 := l52.below hb
            replace l53 := l53.below hb
            have hge5 := HH.out.size
            clear hb HH
            obtain ⟨wa5, ewa⟩ : ∃ wa, wa = wz4.alloc (Obj.cells #[.int .i64 0, .slice none 0 0, .int .i64 0, .slice none 0 0] 32) := ⟨_, rfl⟩
            rw [← ewa] at hn5 hHeld l50 l51 l52 l53 ⊢
            obtain ⟨A5, eA⟩ : ∃ A, A = wz4.heap.size := ⟨_, rfl⟩
            rw [← eA] at hn5 hge5 ⊢
            clear ewa eA
            refine hK.out _ _ (fun _ => hHeld) ?_
            clear hK K
            try simp only [Act.put, List.getElem_toArray, List.getElem_cons_zero, List.getElem_cons_succ, List.setIfInBounds_toArray, List.set_cons_zero, List.set_cons_succ]
            have HH := Lib.hid hHeld
            obtain ⟨⟨s0, s1, s2, s3⟩, ⟨s5, s6, s7, s8⟩, s4⟩ := old4 wa5 A5 32 _ _ _ _ (.int .i64 (D0)) (.slice a50 n50 c50) (.int .i64 (max D0 D1)) (.slice a53 n53 c53) hn5
            replace l50 := l50.set4 hn5 (by decide) (.int .i64 (D0)) (.slice a50 n50 c50) (.int .i64 (max D0 D1)) (.slice a53 n53 c53)
            replace l51 := l51.set4 hn5 (by decide) (.int .i64 (D0)) (.slice a50 n50 c50) (.int .i64 (max D0 D1)) (.slice a53 n53 c53)
            replace l52 := l52.set4 hn5 (by decide) (.int .i64 (D0)) (.slice a50 n50 c50) (.int .i64 (max D0 D1)) (.slice a53 n53 c53)
            replace l53 := l53.set4 hn5 (by decide) (.int .i64 (D0)) (.slice a50 n50 c50) (.int .i64 (max D0 D1)) (.slice a53 n53 c53)
            have hHeld2 := below_set4 HH.out hge5 (.int .i64 (D0)) (.slice a50 n50 c50) (.int .i64 (max D0 D1)) (.slice a53 n53 c53)
            have S4 := Lib.hid s4
            refine AU_one (i := 12) (o := _) (by kernel_rfl) rfl (fun K hK => ?_)
            clear hHeld s4 hn5
            go_simp
            obtain ⟨ws5, ews⟩ : ∃ ws, set4 wa5 A5 (.int .i64 (D0)) (.slice a50 n50 c50) (.int .i64 (max D0 D1)) (.slice a53 n53 c53) = ws := ⟨_, rfl⟩
            have ews2 : ((((wa5.setCell ⟨A5, 0, none⟩ (.int .i64 (D0))).setCell ⟨A5, 1, none⟩ (.slice a50 n50 c50)).setCell ⟨A5, 2, none⟩ (.int .i64 (max D0 D1))).setCell ⟨A5, 3, none⟩ (.slice a53 n53 c53)) = ws5 := ews
            have hn5 : (set4 wa5 A5 (.int .i64 (D0)) (.slice a50 n50 c50) (.int .i64 (max D0 D1)) (.slice a53 n53 c53)).heap[A5]? = some (Obj.cells #[.int .i64 (D0), .slice a50 n50 c50, .int .i64 (max D0 D1), .slice a53 n53 c53] 32) := S4.out
            rw [ews] at hHeld2 hn5 l50 l51 l52 l53
            rw [ews2]
            have hHeld := hHeld2
            clear hHeld2 S4 HH ews ews2 s0 s1 s2 s3 s5 s6 s7 s8
            refine hK.out _ _ (fun _ => hHeld) ?_
            clear hK K
            try simp only [Act.put, List.getElem_toArray, List.getElem_cons_zero, List.getElem_cons_succ, List.setIfInBounds_toArray, List.set_cons_zero, List.set_cons_succ]
            have HE := Lib.hid hHeld
            clear hHeld
            refine AU_done (by kernel_rfl) ?_ _
            simp only [OnlyN]
            have hHeld := HE.out
            clear HE
            have HF := Lib.hid (And.intro hn5 (And.intro (l50.la.mono (k2 := 12) (by omega)) (And.intro (l53.la.mono (k2 := 24) (by omega)) hHeld)))
            clear hHeld hn5 l50 l51 l52 l53
            go_wp2_with fail
            go_meet
            exact ⟨_, _, _, _, _, _, _, rfl, HF⟩
          · skip
            have HH := Lib.hid hHeld
            have hn6 := heap_alloc_new wz3 (Obj.cells #[.int .i64 0, .slice none 0 0, .int .i64 0, .slice none 0 0] 32)
            have hb := below_alloc1 wz3 (Obj.cells #[.int .i64 0, .slice none 0 0, .int .i64 0, .slice none 0 0] 32)
            clear hHeld
            go_simp
            have hHeld := HH.out.trans (hb.mono HH.out.size)
            replace l50 := l50.below hb
            replace l51 := l51.below hb
            replace l52 := l52.below hb
            have hge6 := HH.out.size
            clear hb HH
            obtain ⟨wa6, ewa⟩ : ∃ wa, wa = wz3.alloc (Obj.cells #[.int .i64 0, .slice none 0 0, .int .i64 0, .slice none 0 0] 32) := ⟨_, rfl⟩
            rw [← ewa] at hn6 hHeld l50 l51 l52 ⊢
            obtain ⟨A6, eA⟩ : ∃ A, A = wz3.heap.size := ⟨_, rfl⟩
            rw [← eA] at hn6 hge6 ⊢
            clear ewa eA
            refine hK.out _ _ (fun _ => hHeld) ?_
            clear hK K
            try simp only [Act.put, List.getElem_toArray, List.getElem_cons_zero, List.getElem_cons_succ, List.setIfInBounds_toArray, List.set_cons_zero, List.set_cons_succ]
            have HH := Lib.hid hHeld
            obtain ⟨hbw, _, _, _, _, gs0, gs1⟩ := HS.out _ hHeld
            refine AU_one (i := 9) (o := _) (by kernel_rfl) rfl (fun K hK => ?_)
            have CC := Lib.hid (join_m l51.la l52.la (by omega) (by omega))
            clear hHeld hbw gs0 gs1
            go_simp
            refine CC.out.mono ?_
            clear CC
            rintro e wz7 ⟨a54, n54, c54, rfl, l54, hb⟩
            have hHeld := HH.out.trans (hb.mono HH.out.size)
            replace l50 := l50.below hb
            replace l51 := l51.below hb
            replace l52 := l52.below hb
            replace hn6 := block_below hn6 hb
            clear HH hb
            refine hK.out _ _ (fun _ => hHeld) ?_
            clear hK K
            try simp only [Act.put, List.getElem_toArray, List.getElem_cons_zero, List.getElem_cons_succ, List.setIfInBounds_toArray, List.set_cons_zero, List.set_cons_succ]
            refine AUS_take (by kernel_rfl) rfl (i := 10) (oi := _) (v := ?vw8) rfl (by kernel_rfl) (by kernel_rfl) (by kernel_rfl) (fun _ _ _ h => h) (Or.inl ⟨by rfl, ?hz8⟩) hHeld ?rst8
            case hz8 => (intro wS hSw; obtain ⟨_, f0, f1, f2, f3, _, _⟩ := HS.out wS hSw; clear hSw; go_simp; try with_reducible rfl)
            simp only [Act.put, List.getElem_toArray, List.getElem_cons_zero, List.getElem_cons_succ, List.setIfInBounds_toArray, List.set_cons_zero, List.set_cons_succ]
            have HH := Lib.hid hHeld
            obtain ⟨⟨s0, s1, s2, s3⟩, ⟨s5, s6, s7, s8⟩, s4⟩ := old4 wz7 A6 32 _ _ _ _ (.int .i64 (D0)) (.slice a50 n50 c50) (.int .i64 (max D0 D1)) (.slice a54 n54 c54) hn6
            replace l50 := l50.set4 hn6 (by decide) (.int .i64 (D0)) (.slice a50 n50 c50) (.int .i64 (max D0 D1)) (.slice a54 n54 c54)
            replace l51 := l51.set4 hn6 (by decide) (.int .i64 (D0)) (.slice a50 n50 c50) (.int .i64 (max D0 D1)) (.slice a54 n54 c54)
            replace l52 := l52.set4 hn6 (by decide) (.int .i64 (D0)) (.slice a50 n50 c50) (.int .i64 (max D0 D1)) (.slice a54 n54 c54)
            replace l54 := l54.set4 hn6 (by decide) (.int .i64 (D0)) (.slice a50 n50 c50) (.int .i64 (max D0 D1)) (.slice a54 n54 c54)
            have hHeld2 := below_set4 HH.out hge6 (.int .i64 (D0)) (.slice a50 n50 c50) (.int .i64 (max D0 D1)) (.slice a54 n54 c54)
            have S4 := Lib.hid s4
            refine AU_one (i := 12) (o := _) (by kernel_rfl) rfl (fun K hK => ?_)
            clear hHeld s4 hn6
            go_simp
            obtain ⟨ws6, ews⟩ : ∃ ws, set4 wz7 A6 (.int .i64 (D0)) (.slice a50 n50 c50) (.int .i64 (max D0 D1)) (.slice a54 n54 c54) = ws := ⟨_, rfl⟩
            have ews2 : ((((wz7.setCell ⟨A6, 0, none⟩ (.int .i64 (D0))).setCell ⟨A6, 1, none⟩ (.slice a50 n50 c50)).setCell ⟨A6, 2, none⟩ (.int .i64 (max D0 D1))).setCell ⟨A6, 3, none⟩ (.slice a54 n54 c54)) = ws6 := ews
            have hn6 : (set4 wz7 A6 (.int .i64 (D0)) (.slice a50 n50 c50) (.int .i64 (max D0 D1)) (.slice a54 n54 c54)).heap[A6]? = some (Obj.cells #[.int .i64 (D0), .slice a50 n50 c50, .int .i64 (max D0 D1), .slice a54 n54 c54] 32) := S4.out
            rw [ews] at hHeld2 hn6 l50 l51 l52 l54
            rw [ews2]
            have hHeld := hHeld2
            clear hHeld2 S4 HH ews ews2 s0 s1 s2 s3 s5 s6 s7 s8
            refine hK.out _ _ (fun _ => hHeld) ?_
            clear hK K
            try simp only [Act.put, List.getElem_toArray, List.getElem_cons_zero, List.getElem_cons_succ, List.setIfInBounds_toArray, List.set_cons_zero, List.set_cons_succ]
            have HE := Lib.hid hHeld
            clear hHeld
            refine AU_done (by kernel_rfl) ?_ _
            simp only [OnlyN]
            have hHeld := HE.out
            clear HE
            have HF := Lib.hid (And.intro hn6 (And.intro (l50.la.mono (k2 := 12) (by omega)) (And.intro (l54.la.mono (k2 := 24) (by omega)) hHeld)))
            clear hHeld hn6 l50 l51 l52 l54
            go_wp2_with fail
            go_meet
            exact ⟨_, _, _, _, _, _, _, rfl, HF⟩
        · skip
          have HH := Lib.hid hHeld
          have hn8 := heap_alloc_new wz2 (Obj.cells #[.int .i64 0, .slice none 0 0, .int .i64 0, .slice none 0 0] 32)
          have hb := below_alloc1 wz2 (Obj.cells #[.int .i64 0, .slice none 0 0, .int .i64 0, .slice none 0 0] 32)
          clear hHeld
          go_simp
          have hHeld := HH.out.trans (hb.mono HH.out.size)
          replace l50 := l50.below hb
          replace l51 := l51.below hb
          have hge8 := HH.out.size
          clear hb HH
          obtain ⟨wa8, ewa⟩ : ∃ wa, wa = wz2.alloc (Obj.cells #[.int .i64 0, .slice none 0 0, .int .i64 0, .slice none 0 0] 32) := ⟨_, rfl⟩
          rw [← ewa] at hn8 hHeld l50 l51 ⊢
          obtain ⟨A8, eA⟩ : ∃ A, A = wz2.heap.size := ⟨_, rfl⟩
          rw [← eA] at hn8 hge8 ⊢
          clear ewa eA
          refine hK.out _ _ (fun _ => hHeld) ?_
          clear hK K
          try simp only [Act.put, List.getElem_toArray, List.getElem_cons_zero, List.getElem_cons_succ, List.setIfInBounds_toArray, List.set_cons_zero, List.set_cons_succ]
          have HH := Lib.hid hHeld
          obtain ⟨_, f0, f1, f2, f3, gs0, gs1⟩ := HS.out _ hHeld
          refine AU_one (i := 8) (o := _) (by kernel_rfl) rfl (fun K hK => ?_)
          have CC := Lib.hid (CS1.out _ gs1)
          clear hHeld gs0 gs1 f0 f1 f2 f3
          go_simp
          refine CC.out.mono ?_
          clear CC
          rintro e wz9 ⟨a55, n55, c55, rfl, l55, hb⟩
          have hHeld := HH.out.trans (hb.mono HH.out.size)
          replace l50 := l50.below hb
          replace l51 := l51.below hb
          replace hn8 := block_below hn8 hb
          clear HH hb
          refine hK.out _ _ (fun _ => hHeld) ?_
          clear hK K
          try simp only [Act.put, List.getElem_toArray, List.getElem_cons_zero, List.getElem_cons_succ, List.setIfInBounds_toArray, List.set_cons_zero, List.set_cons_succ]
          have HH := Lib.hid hHeld
          obtain ⟨hbw, _, _, _, _, gs0, gs1⟩ := HS.out _ hHeld
          refine AU_one (i := 9) (o := _) (by kernel_rfl) rfl (fun K hK => ?_)
          have CC := Lib.hid (join_m l51.la l55.la (by omega) (by omega))
          clear hHeld hbw gs0 gs1
          go_simp
          refine CC.out.mono ?_
          clear CC
          rintro e wz10 ⟨a56, n56, c56, rfl, l56, hb⟩
          have hHeld := HH.out.trans (hb.mono HH.out.size)
          replace l50 := l50.below hb
          replace l51 := l51.below hb
          replace l55 := l55.below hb
          replace hn8 := block_below hn8 hb
          clear HH hb
          refine hK.out _ _ (fun _ => hHeld) ?_
          clear hK K
          try simp only [Act.put, List.getElem_toArray, List.getElem_cons_zero, List.getElem_cons_succ, List.setIfInBounds_toArray, List.set_cons_zero, List.set_cons_succ]
          refine AUS_take (by kernel_rfl) rfl (i := 10) (oi := _) (v := ?vw9) rfl (by kernel_rfl) (by kernel_rfl) (by kernel_rfl) (fun _ _ _ h => h) (Or.inl ⟨by rfl, ?hz9⟩) hHeld ?rst9
          case hz9 => (intro wS hSw; obtain ⟨_, f0, f1, f2, f3, _, _⟩ := HS.out wS hSw; clear hSw; go_simp; try with_reducible rfl)
          simp only [Act.put, List.getElem_toArray, List.getElem_cons_zero, List.getElem_cons_succ, List.setIfInBounds_toArray, List.set_cons_zero, List.set_cons_succ]
          have HH := Lib.hid hHeld
          obtain ⟨⟨s0, s1, s2, s3⟩, ⟨s5, s6, s7, s8⟩, s4⟩ := old4 wz10 A8 32 _ _ _ _ (.int .i64 (D0)) (.slice a50 n50 c50) (.int .i64 (max D0 D1)) (.slice a56 n56 c56) hn8
          replace l50 := l50.set4 hn8 (by decide) (.int .i64 (D0)) (.slice a50 n50 c50) (.int .i64 (max D0 D1)) (.slice a56 n56 c56)
          replace l51 := l51.set4 hn8 (by decide) (.int .i64 (D0)) (.slice a50 n50 c50) (.int .i64 (max D0 D1)) (.slice a56 n56 c56)
          replace l55 := l55.set4 hn8 (by decide) (.int .i64 (D0)) (.slice a50 n50 c50) (.int .i64 (max D0 D1)) (.slice a56 n56 c56)
          replace l56 := l56.set4 hn8 (by decide) (.int .i64 (D0)) (.slice a50 n50 c50) (.int .i64 (max D0 D1)) (.slice a56 n56 c56)
          have hHeld2 := below_set4 HH.out hge8 (.int .i64 (D0)) (.slice a50 n50 c50) (.int .i64 (max D0 D1)) (.slice a56 n56 c56)
          have S4 := Lib.hid s4
          refine AU_one (i := 12) (o := _) (by kernel_rfl) rfl (fun K hK => ?_)
          clear hHeld s4 hn8
          go_simp
          obtain ⟨ws8, ews⟩ : ∃ ws, set4 wz10 A8 (.int .i64 (D0)) (.slice a50 n50 c50) (.int .i64 (max D0 D1)) (.slice a56 n56 c56) = ws := ⟨_, rfl⟩
          have ews2 : ((((wz10.setCell ⟨A8, 0, none⟩ (.int .i64 (D0))).setCell ⟨A8, 1, none⟩ (.slice a50 n50 c50)).setCell ⟨A8, 2, none⟩ (.int .i64 (max D0 D1))).setCell ⟨A8, 3, none⟩ (.slice a56 n56 c56)) = ws8 := ews
          have hn8 : (set4 wz10 A8 (.int .i64 (D0)) (.slice a50 n50 c50) (.int .i64 (max D0 D1)) (.slice a56 n56 c56)).heap[A8]? = some (Obj.cells #[.int .i64 (D0), .slice a50 n50 c50, .int .i64 (max D0 D1), .slice a56 n56 c56] 32) := S4.out
          rw [ews] at hHeld2 hn8 l50 l51 l55 l56
          rw [ews2]
          have hHeld := hHeld2
          clear hHeld2 S4 HH ews ews2 s0 s1 s2 s3 s5 s6 s7 s8
          refine hK.out _ _ (fun _ => hHeld) ?_
          clear hK K
          try simp only [Act.put, List.getElem_toArray, List.getElem_cons_zero, List.getElem_cons_succ, List.setIfInBounds_toArray, List.set_cons_zero, List.set_cons_succ]
          have HE := Lib.hid hHeld
          clear hHeld
          refine AU_done (by kernel_rfl) ?_ _
          simp only [OnlyN]
          have hHeld := HE.out
          clear HE
          have HF := Lib.hid (And.intro hn8 (And.intro (l50.la.mono (k2 := 12) (by omega)) (And.intro (l56.la.mono (k2 := 24) (by omega)) hHeld)))
          clear hHeld hn8 l50 l51 l55 l56
          go_wp2_with fail
          go_meet
          exact ⟨_, _, _, _, _, _, _, rfl, HF⟩
      · skip
        have HH := Lib.hid hHeld
        have hn11 := heap_alloc_new wz1 (Obj.cells #[.int .i64 0, .slice none 0 0, .int .i64 0, .slice none 0 0] 32)
        have hb := below_alloc1 wz1 (Obj.cells #[.int .i64 0, .slice none 0 0, .int .i64 0, .slice none 0 0] 32)
        clear hHeld
        go_simp
        have hHeld := HH.out.trans (hb.mono HH.out.size)
        replace l50 := l50.below hb
        have hge11 := HH.out.size
        clear hb HH
        obtain ⟨wa11, ewa⟩ : ∃ wa, wa = wz1.alloc (Obj.cells #[.int .i64 0, .slice none 0 0, .int .i64 0, .slice none 0 0] 32) := ⟨_, rfl⟩
        rw [← ewa] at hn11 hHeld l50 ⊢
        obtain ⟨A11, eA⟩ : ∃ A, A = wz1.heap.size := ⟨_, rfl⟩
        rw [← eA] at hn11 hge11 ⊢
        clear ewa eA
        refine hK.out _ _ (fun _ => hHeld) ?_
        clear hK K
        try simp only [Act.put, List.getElem_toArray, List.getElem_cons_zero, List.getElem_cons_succ, List.setIfInBounds_toArray, List.set_cons_zero, List.set_cons_succ]
        have HH := Lib.hid hHeld
        obtain ⟨_, f0, f1, f2, f3, gs0, gs1⟩ := HS.out _ hHeld
        refine AU_one (i := 5) (o := _) (by kernel_rfl) rfl (fun K hK => ?_)
        have CC := Lib.hid (CS0.out _ gs0)
        clear hHeld gs0 gs1 f0 f1 f2 f3
        go_simp
        refine CC.out.mono ?_
        clear CC
        rintro e wz12 ⟨a57, n57, c57, rfl, l57, hb⟩
        have hHeld := HH.out.trans (hb.mono HH.out.size)
        replace l50 := l50.below hb
        replace hn11 := block_below hn11 hb
        clear HH hb
        refine hK.out _ _ (fun _ => hHeld) ?_
        clear hK K
        try simp only [Act.put, List.getElem_toArray, List.getElem_cons_zero, List.getElem_cons_succ, List.setIfInBounds_toArray, List.set_cons_zero, List.set_cons_succ]
        have HH := Lib.hid hHeld
        obtain ⟨_, f0, f1, f2, f3, gs0, gs1⟩ := HS.out _ hHeld
        refine AU_one (i := 8) (o := _) (by kernel_rfl) rfl (fun K hK => ?_)
        have CC := Lib.hid (CS1.out _ gs1)
        clear hHeld gs0 gs1 f0 f1 f2 f3
        go_simp
        refine CC.out.mono ?_
        clear CC
        rintro e wz13 ⟨a58, n58, c58, rfl, l58, hb⟩
        have hHeld := HH.out.trans (hb.mono HH.out.size)
        replace l50 := l50.below hb
        replace l57 := l57.below hb
        replace hn11 := block_below hn11 hb
        clear HH hb
        refine hK.out _ _ (fun _ => hHeld) ?_
        clear hK K
        try simp only [Act.put, List.getElem_toArray, List.getElem_cons_zero, List.getElem_cons_succ, List.setIfInBounds_toArray, List.set_cons_zero, List.set_cons_succ]
        have HH := Lib.hid hHeld
        obtain ⟨hbw, _, _, _, _, gs0, gs1⟩ := HS.out _ hHeld
        refine AU_one (i := 9) (o := _) (by kernel_rfl) rfl (fun K hK => ?_)
        have CC := Lib.hid (join_m l57.la l58.la (by omega) (by omega))
        clear hHeld hbw gs0 gs1
        go_simp
        refine CC.out.mono ?_
        clear CC
        rintro e wz14 ⟨a59, n59, c59, rfl, l59, hb⟩
        have hHeld := HH.out.trans (hb.mono HH.out.size)
        replace l50 := l50.below hb
        replace l57 := l57.below hb
        replace l58 := l58.below hb
        replace hn11 := block_below hn11 hb
        clear HH hb
        refine hK.out _ _ (fun _ => hHeld) ?_
        clear hK K
        try simp only [Act.put, List.getElem_toArray, List.getElem_cons_zero, List.getElem_cons_succ, List.setIfInBounds_toArray, List.set_cons_zero, List.set_cons_succ]
        refine AUS_take (by kernel_rfl) rfl (i := 10) (oi := _) (v := ?vw10) rfl (by kernel_rfl) (by kernel_rfl) (by kernel_rfl) (fun _ _ _ h => h) (Or.inl ⟨by rfl, ?hz10⟩) hHeld ?rst10
        case hz10 => (intro wS hSw; obtain ⟨_, f0, f1, f2, f3, _, _⟩ := HS.out wS hSw; clear hSw; go_simp; try with_reducible rfl)
        simp only [Act.put, List.getElem_toArray, List.getElem_cons_zero, List.getElem_cons_succ, List.setIfInBounds_toArray, List.set_cons_zero, List.set_cons_succ]
        have HH := Lib.hid hHeld
        obtain ⟨⟨s0, s1, s2, s3⟩, ⟨s5, s6, s7, s8⟩, s4⟩ := old4 wz14 A11 32 _ _ _ _ (.int .i64 (D0)) (.slice a50 n50 c50) (.int .i64 (max D0 D1)) (.slice a59 n59 c59) hn11
        replace l50 := l50.set4 hn11 (by decide) (.int .i64 (D0)) (.slice a50 n50 c50) (.int .i64 (max D0 D1)) (.slice a59 n59 c59)
        replace l57 := l57.set4 hn11 (by decide) (.int .i64 (D0)) (.slice a50 n50 c50) (.int .i64 (max D0 D1)) (.slice a59 n59 c59)
        replace l58 := l58.set4 hn11 (by decide) (.int .i64 (D0)) (.slice a50 n50 c50) (.int .i64 (max D0 D1)) (.slice a59 n59 c59)
        replace l59 := l59.set4 hn11 (by decide) (.int .i64 (D0)) (.slice a50 n50 c50) (.int .i64 (max D0 D1)) (.slice a59 n59 c59)
        have hHeld2 := below_set4 HH.out hge11 (.int .i64 (D0)) (.slice a50 n50 c50) (.int .i64 (max D0 D1)) (.slice a59 n59 c59)
        have S4 := Lib.hid s4
        refine AU_one (i := 12) (o := _) (by kernel_rfl) rfl (fun K hK => ?_)
        clear hHeld s4 hn11
        go_simp
        obtain ⟨ws11, ews⟩ : ∃ ws, set4 wz14 A11 (.int .i64 (D0)) (.slice a50 n50 c50) (.int .i64 (max D0 D1)) (.slice a59 n59 c59) = ws := ⟨_, rfl⟩
        have ews2 : ((((wz14.setCell ⟨A11, 0, none⟩ (.int .i64 (D0))).setCell ⟨A11, 1, none⟩ (.slice a50 n50 c50)).setCell ⟨A11, 2, none⟩ (.int .i64 (max D0 D1))).setCell ⟨A11, 3, none⟩ (.slice a59 n59 c59)) = ws11 := ews
        have hn11 : (set4 wz14 A11 (.int .i64 (D0)) (.slice a50 n50 c50) (.int .i64 (max D0 D1)) (.slice a59 n59 c59)).heap[A11]? = some (Obj.cells #[.int .i64 (D0), .slice a50 n50 c50, .int .i64 (max D0 D1), .slice a59 n59 c59] 32) := S4.out
        rw [ews] at hHeld2 hn11 l50 l57 l58 l59
        rw [ews2]
        have hHeld := hHeld2
        clear hHeld2 S4 HH ews ews2 s0 s1 s2 s3 s5 s6 s7 s8
        refine hK.out _ _ (fun _ => hHeld) ?_
        clear hK K
        try simp only [Act.put, List.getElem_toArray, List.getElem_cons_zero, List.getElem_cons_succ, List.setIfInBounds_toArray, List.set_cons_zero, List.set_cons_succ]
        have HE := Lib.hid hHeld
        clear hHeld
        refine AU_done (by kernel_rfl) ?_ _
        simp only [OnlyN]
        have hHeld := HE.out
        clear HE
        have HF := Lib.hid (And.intro hn11 (And.intro (l50.la.mono (k2 := 12) (by omega)) (And.intro (l59.la.mono (k2 := 24) (by omega)) hHeld)))
        clear hHeld hn11 l50 l57 l58 l59
        go_wp2_with fail
        go_meet
        exact ⟨_, _, _, _, _, _, _, rfl, HF⟩
    · skip
      have HH := Lib.hid hHeld
      have hn15 := heap_alloc_new wd4 (Obj.cells #[.int .i64 0, .slice none 0 0, .int .i64 0, .slice none 0 0] 32)
      have hb := below_alloc1 wd4 (Obj.cells #[.int .i64 0, .slice none 0 0, .int .i64 0, .slice none 0 0] 32)
      clear hHeld
      go_simp
      have hHeld := HH.out.trans (hb.mono HH.out.size)
      have hge15 := HH.out.size
      clear hb HH
      obtain ⟨wa15, ewa⟩ : ∃ wa, wa = wd4.alloc (Obj.cells #[.int .i64 0, .slice none 0 0, .int .i64 0, .slice none 0 0] 32) := ⟨_, rfl⟩
      rw [← ewa] at hn15 hHeld ⊢
      obtain ⟨A15, eA⟩ : ∃ A, A = wd4.heap.size := ⟨_, rfl⟩
      rw [← eA] at hn15 hge15 ⊢
      clear ewa eA
      refine hK.out _ _ (fun _ => hHeld) ?_
      clear hK K
      try simp only [Act.put, List.getElem_toArray, List.getElem_cons_zero, List.getElem_cons_succ, List.setIfInBounds_toArray, List.set_cons_zero, List.set_cons_succ]
      have HH := Lib.hid hHeld
      obtain ⟨_, f0, f1, f2, f3, gs0, gs1⟩ := HS.out _ hHeld
      refine AU_one (i := 2) (o := _) (by kernel_rfl) rfl (fun K hK => ?_)
      have CC := Lib.hid (CS0.out _ gs0)
      clear hHeld gs0 gs1 f0 f1 f2 f3
      go_simp
      refine CC.out.mono ?_
      clear CC
      rintro e wz16 ⟨a60, n60, c60, rfl, l60, hb⟩
      have hHeld := HH.out.trans (hb.mono HH.out.size)
      replace hn15 := block_below hn15 hb
      clear HH hb
      refine hK.out _ _ (fun _ => hHeld) ?_
      clear hK K
      try simp only [Act.put, List.getElem_toArray, List.getElem_cons_zero, List.getElem_cons_succ, List.setIfInBounds_toArray, List.set_cons_zero, List.set_cons_succ]
      have HH := Lib.hid hHeld
      obtain ⟨_, f0, f1, f2, f3, gs0, gs1⟩ := HS.out _ hHeld
      refine AU_one (i := 5) (o := _) (by kernel_rfl) rfl (fun K hK => ?_)
      have CC := Lib.hid (CS0.out _ gs0)
      clear hHeld gs0 gs1 f0 f1 f2 f3
      go_simp
      refine CC.out.mono ?_
      clear CC
      rintro e wz17 ⟨a61, n61, c61, rfl, l61, hb⟩
      have hHeld := HH.out.trans (hb.mono HH.out.size)
      replace l60 := l60.below hb
      replace hn15 := block_below hn15 hb
      clear HH hb
      refine hK.out _ _ (fun _ => hHeld) ?_
      clear hK K
      try simp only [Act.put, List.getElem_toArray, List.getElem_cons_zero, List.getElem_cons_succ, List.setIfInBounds_toArray, List.set_cons_zero, List.set_cons_succ]
      have HH := Lib.hid hHeld
      obtain ⟨_, f0, f1, f2, f3, gs0, gs1⟩ := HS.out _ hHeld
      refine AU_one (i := 8) (o := _) (by kernel_rfl) rfl (fun K hK => ?_)
      have CC := Lib.hid (CS1.out _ gs1)
      clear hHeld gs0 gs1 f0 f1 f2 f3
      go_simp
      refine CC.out.mono ?_
      clear CC
      rintro e wz18 ⟨a62, n62, c62, rfl, l62, hb⟩
      have hHeld := HH.out.trans (hb.mono HH.out.size)
      replace l60 := l60.below hb
      replace l61 := l61.below hb
      replace hn15 := block_below hn15 hb
      clear HH hb
      refine hK.out _ _ (fun _ => hHeld) ?_
      clear hK K
      try simp only [Act.put, List.getElem_toArray, List.getElem_cons_zero, List.getElem_cons_succ, List.setIfInBounds_toArray, List.set_cons_zero, List.set_cons_succ]
      have HH := Lib.hid hHeld
      obtain ⟨hbw, _, _, _, _, gs0, gs1⟩ := HS.out _ hHeld
      refine AU_one (i := 9) (o := _) (by kernel_rfl) rfl (fun K hK => ?_)
      have CC := Lib.hid (join_m l61.la l62.la (by omega) (by omega))
      clear hHeld hbw gs0 gs1
      go_simp
      refine CC.out.mono ?_
      clear CC
      rintro e wz19 ⟨a63, n63, c63, rfl, l63, hb⟩
      have hHeld := HH.out.trans (hb.mono HH.out.size)
      replace l60 := l60.below hb
      replace l61 := l61.below hb
      replace l62 := l62.below hb
      replace hn15 := block_below hn15 hb
      clear HH hb
      refine hK.out _ _ (fun _ => hHeld) ?_
      clear hK K
      try simp only [Act.put, List.getElem_toArray, List.getElem_cons_zero, List.getElem_cons_succ, List.setIfInBounds_toArray, List.set_cons_zero, List.set_cons_succ]
      refine AUS_take (by kernel_rfl) rfl (i := 10) (oi := _) (v := ?vw11) rfl (by kernel_rfl) (by kernel_rfl) (by kernel_rfl) (fun _ _ _ h => h) (Or.inl ⟨by rfl, ?hz11⟩) hHeld ?rst11
      case hz11 => (intro wS hSw; obtain ⟨_, f0, f1, f2, f3, _, _⟩ := HS.out wS hSw; clear hSw; go_simp; try with_reducible rfl)
      simp only [Act.put, List.getElem_toArray, List.getElem_cons_zero, List.getElem_cons_succ, List.setIfInBounds_toArray, List.set_cons_zero, List.set_cons_succ]
      have HH := Lib.hid hHeld
      obtain ⟨⟨s0, s1, s2, s3⟩, ⟨s5, s6, s7, s8⟩, s4⟩ := old4 wz19 A15 32 _ _ _ _ (.int .i64 (D0)) (.slice a60 n60 c60) (.int .i64 (max D0 D1)) (.slice a63 n63 c63) hn15
      replace l60 := l60.set4 hn15 (by decide) (.int .i64 (D0)) (.slice a60 n60 c60) (.int .i64 (max D0 D1)) (.slice a63 n63 c63)
      replace l61 := l61.set4 hn15 (by decide) (.int .i64 (D0)) (.slice a60 n60 c60) (.int .i64 (max D0 D1)) (.slice a63 n63 c63)
      replace l62 := l62.set4 hn15 (by decide) (.int .i64 (D0)) (.slice a60 n60 c60) (.int .i64 (max D0 D1)) (.slice a63 n63 c63)
      replace l63 := l63.set4 hn15 (by decide) (.int .i64 (D0)) (.slice a60 n60 c60) (.int .i64 (max D0 D1)) (.slice a63 n63 c63)
      have hHeld2 := below_set4 HH.out hge15 (.int .i64 (D0)) (.slice a60 n60 c60) (.int .i64 (max D0 D1)) (.slice a63 n63 c63)
      have S4 := Lib.hid s4
      refine AU_one (i := 12) (o := _) (by kernel_rfl) rfl (fun K hK => ?_)
      clear hHeld s4 hn15
      go_simp
      obtain ⟨ws15, ews⟩ : ∃ ws, set4 wz19 A15 (.int .i64 (D0)) (.slice a60 n60 c60) (.int .i64 (max D0 D1)) (.slice a63 n63 c63) = ws := ⟨_, rfl⟩
      have ews2 : ((((wz19.setCell ⟨A15, 0, none⟩ (.int .i64 (D0))).setCell ⟨A15, 1, none⟩ (.slice a60 n60 c60)).setCell ⟨A15, 2, none⟩ (.int .i64 (max D0 D1))).setCell ⟨A15, 3, none⟩ (.slice a63 n63 c63)) = ws15 := ews
      have hn15 : (set4 wz19 A15 (.int .i64 (D0)) (.slice a60 n60 c60) (.int .i64 (max D0 D1)) (.slice a63 n63 c63)).heap[A15]? = some (Obj.cells #[.int .i64 (D0), .slice a60 n60 c60, .int .i64 (max D0 D1), .slice a63 n63 c63] 32) := S4.out
      rw [ews] at hHeld2 hn15 l60 l61 l62 l63
      rw [ews2]
      have hHeld := hHeld2
      clear hHeld2 S4 HH ews ews2 s0 s1 s2 s3 s5 s6 s7 s8
      refine hK.out _ _ (fun _ => hHeld) ?_
      clear hK K
      try simp only [Act.put, List.getElem_toArray, List.getElem_cons_zero, List.getElem_cons_succ, List.setIfInBounds_toArray, List.set_cons_zero, List.set_cons_succ]
      have HE := Lib.hid hHeld
      clear hHeld
      refine AU_done (by kernel_rfl) ?_ _
      simp only [OnlyN]
      have hHeld := HE.out
      clear HE
      have HF := Lib.hid (And.intro hn15 (And.intro (l60.la.mono (k2 := 12) (by omega)) (And.intro (l63.la.mono (k2 := 24) (by omega)) hHeld)))
      clear hHeld hn15 l60 l61 l62 l63
      go_wp2_with fail
      go_meet
      exact ⟨_, _, _, _, _, _, _, rfl, HF⟩
  case rest =>
    obtain ⟨V7, a20, n20, c20, a21, n21, c21, rfl, HF⟩ := hcut
    obtain ⟨Y, rfl⟩ : ∃ X, X = wc := ⟨_, rfl⟩
    obtain ⟨hk0, h20, h21, hX⟩ := HF.out
    have HX := Lib.hid hX
    have hB := (HS.out Y hX).1
    have HN := Lib.hid (And.intro h20.len h21.len)
    have HS := Lib.hid (fun (wx : World) (hx : Below Y.heap.size Y wx) => (by
        have hw : Below w.heap.size w wx := hB.trans (hx.mono hB.size)
        have hold := HS.out wx (HX.out.trans (hx.mono HX.out.size))
        have r0 := block_below hk0 hx
        exact ⟨hw, hold.2.1, hold.2.2.1, hold.2.2.2.1, hold.2.2.2.2.1, by rw [cell_of_row _ _ 0 _ 32 (0, 0) r0]; rfl, by rw [cell_of_row _ _ 1 _ 32 (0, 0) r0]; rfl, by rw [cell_of_row _ _ 2 _ 32 (0, 0) r0]; rfl, by rw [cell_of_row _ _ 3 _ 32 (0, 0) r0]; rfl, hold.2.2.2.2.2.1, hold.2.2.2.2.2.2, h20.below hx, h21.below hx⟩ : Below w.heap.size w wx ∧ wx.cell? ⟨w.heap.size, 0, none⟩ = some (.int .i64 S0) ∧ wx.cell? ⟨w.heap.size, 1, none⟩ = some (.slice sa0 sn0 sc0) ∧ wx.cell? ⟨w.heap.size, 2, none⟩ = some (.int .i64 S1) ∧ wx.cell? ⟨w.heap.size, 3, none⟩ = some (.slice sa1 sn1 sc1) ∧ wx.cell? ⟨V7, 0, none⟩ = some (.int .i64 D0) ∧ wx.cell? ⟨V7, 1, none⟩ = some (.slice a20 n20 c20) ∧ wx.cell? ⟨V7, 2, none⟩ = some (.int .i64 (max D0 D1)) ∧ wx.cell? ⟨V7, 3, none⟩ = some (.slice a21 n21 c21) ∧ IntsL wx (.slice sa0 sn0 sc0) ls0 ∧ IntsL wx (.slice sa1 sn1 sc1) ls1 ∧ LA 12 wx D0 a20 n20 c20 P0 ∧ LA 24 wx (max D0 D1) a21 n21 c21 (Lab.jn D0 P0 D1 P1)))
    clear hk0 h20 h21 hX hB HF
    clear HX
    go_upto_region 5 with fail
    have hHeld := Below.refl Y.heap.size Y
    obtain ⟨bf, EBF⟩ : ∃ b, Hid (fr D0 P0 (max D0 D1) (Lab.jn D0 P0 D1 P1) c = b) := ⟨_, Lib.hid rfl⟩
    have HH := Lib.hid hHeld
    obtain ⟨_, f0, f1, f2, f3, f4, f5, f6, f7, gs0, gs1, g20, g21⟩ := HS.out _ hHeld
    have CC := fresh_m (x := c) (g20.mono (by omega)) (g21.mono (by omega)) (by have := HC.out; omega) (by have := HC.out; omega)
    rw [EBF.out] at CC
    have CC := Lib.hid CC
    clear hHeld gs0 gs1 g20 g21
    go_wp2_with fail
    refine CC.out.mono ?_
    clear CC f0 f1 f2 f3 f4 f5 f6 f7
    rintro e wf ⟨a22, n22, c22, a23, n23, c23, rfl, hl22, hl23, hb⟩
    have hHeld := HH.out.trans (hb.mono HH.out.size)
    clear HH hb
    have hl22 := hl22.put (m := 12) FS0.out.1.2.2.2.2
    have hl23 := hl23.put (m := 12) (Lab.few_len (Lab.jn_ok FS0.out.1.1 FS1.out.1.1).1 (Lab.few_jn FS0.out.1.1 FS1.out.1.1 FS0.out.2 FS1.out.2))
    have hb3 := below_alloc1 wf (Obj.cells #[.int .i64 D0, .slice a22 n22 c22, .int .i64 (max D0 D1), .slice a23 n23 c23] 32)
    obtain ⟨Xf, eX⟩ : ∃ X, X = wf.alloc (Obj.cells #[.int .i64 D0, .slice a22 n22 c22, .int .i64 (max D0 D1), .slice a23 n23 c23] 32) := ⟨_, rfl⟩
    have HK := Lib.hid (show Xf.heap[wf.heap.size]? = some (Obj.cells #[.int .i64 D0, .slice a22 n22 c22, .int .i64 (max D0 D1), .slice a23 n23 c23] 32) from by rw [eX]; exact heap_alloc_new _ _)
    have HXf := Lib.hid (show Below Y.heap.size Y Xf from by rw [eX]; exact hHeld.trans (hb3.mono hHeld.size))
    have HL22 := Lib.hid (show LA 13 Xf D0 a22 n22 c22 (Lab.put D0 P0 c 0) from by rw [eX]; exact (hl22.below hb3).mono (by omega))
    have HL23 := Lib.hid (show LA 13 Xf (max D0 D1) a23 n23 c23 (Lab.put (max D0 D1) (Lab.jn D0 P0 D1 P1) c 4) from by rw [eX]; exact (hl23.below hb3).mono (by omega))
    clear hb3 hHeld
    go_upto_region 6 with fail
    rw [← eX]
    obtain ⟨Vf, eA⟩ : ∃ A, A = wf.heap.size := ⟨_, rfl⟩
    rw [← eA] at HK ⊢
    clear eX eA
    have hk0 := HK.out
    have hB := (HS.out Xf HXf.out).1
    have HS := Lib.hid (fun (wx : World) (hx : Below Xf.heap.size Xf wx) => (by
        have hw : Below w.heap.size w wx := hB.trans (hx.mono hB.size)
        have hold := HS.out wx (HXf.out.trans (hx.mono HXf.out.size))
        have r0 := block_below hk0 hx
        exact ⟨hw, hold.2.1, hold.2.2.1, hold.2.2.2.1, hold.2.2.2.2.1, hold.2.2.2.2.2.1, hold.2.2.2.2.2.2.1, hold.2.2.2.2.2.2.2.1, hold.2.2.2.2.2.2.2.2.1, by rw [cell_of_row _ _ 0 _ 32 (0, 0) r0]; rfl, by rw [cell_of_row _ _ 1 _ 32 (0, 0) r0]; rfl, by rw [cell_of_row _ _ 2 _ 32 (0, 0) r0]; rfl, by rw [cell_of_row _ _ 3 _ 32 (0, 0) r0]; rfl, hold.2.2.2.2.2.2.2.2.2.1, hold.2.2.2.2.2.2.2.2.2.2.1, hold.2.2.2.2.2.2.2.2.2.2.2.1, hold.2.2.2.2.2.2.2.2.2.2.2.2, HL22.out.below hx, HL23.out.below hx⟩ : Below w.heap.size w wx ∧ wx.cell? ⟨w.heap.size, 0, none⟩ = some (.int .i64 S0) ∧ wx.cell? ⟨w.heap.size, 1, none⟩ = some (.slice sa0 sn0 sc0) ∧ wx.cell? ⟨w.heap.size, 2, none⟩ = some (.int .i64 S1) ∧ wx.cell? ⟨w.heap.size, 3, none⟩ = some (.slice sa1 sn1 sc1) ∧ wx.cell? ⟨V7, 0, none⟩ = some (.int .i64 D0) ∧ wx.cell? ⟨V7, 1, none⟩ = some (.slice a20 n20 c20) ∧ wx.cell? ⟨V7, 2, none⟩ = some (.int .i64 (max D0 D1)) ∧ wx.cell? ⟨V7, 3, none⟩ = some (.slice a21 n21 c21) ∧ wx.cell? ⟨Vf, 0, none⟩ = some (.int .i64 D0) ∧ wx.cell? ⟨Vf, 1, none⟩ = some (.slice a22 n22 c22) ∧ wx.cell? ⟨Vf, 2, none⟩ = some (.int .i64 (max D0 D1)) ∧ wx.cell? ⟨Vf, 3, none⟩ = some (.slice a23 n23 c23) ∧ IntsL wx (.slice sa0 sn0 sc0) ls0 ∧ IntsL wx (.slice sa1 sn1 sc1) ls1 ∧ LA 12 wx D0 a20 n20 c20 P0 ∧ LA 24 wx (max D0 D1) a21 n21 c21 (Lab.jn D0 P0 D1 P1) ∧ LA 13 wx D0 a22 n22 c22 (Lab.put D0 P0 c 0) ∧ LA 13 wx (max D0 D1) a23 n23 c23 (Lab.put (max D0 D1) (Lab.jn D0 P0 D1 P1) c 4)))
    clear hk0 hB HK
    have hHeld := Below.refl Xf.heap.size Xf
    cases bf
    · skip
      have hfull := fresh_full FS0.out.1 FS1.out.1 FS0.out.2 FS1.out.2 HC.out.1 HC.out.2 EBF.out
      rw [← HN.out.1, ← HN.out.2] at hfull
      have HE := Lib.hid (HS.out _ hHeld).1
      obtain ⟨_, f0, f1, f2, f3, f4, f5, f6, f7, f8, f9, f10, f11, _, _, _, _, _, _⟩ := HS.out _ hHeld
      clear hHeld
      have d20 : ((n20 : Nat) : Int) = 12 ∨ ((n20 : Nat) : Int) ≠ 12 := by omega
      by_cases e20 : n20 = 12
      · skip
        have t1 : (((n20 : Nat) : Int) == 12) = true := by rw [e20]; rfl
        clear hfull d20
        subst e20
        go_wp2_with fail
        go_ret
        exact ⟨rfl, HE.out⟩
      · skip
        obtain rfl : n21 = 12 := by omega
        have t1 : (((n20 : Nat) : Int) == 12) = false := by simp; omega
        clear hfull d20
        go_wp2_with fail
        go_ret
        exact ⟨rfl, HE.out⟩
    · skip
      go_upto_region 9 with fail
      rw [ELV.out]
      have HH := Lib.hid hHeld
      obtain ⟨_, f0, f1, f2, f3, f4, f5, f6, f7, f8, f9, f10, f11, gs0, gs1, g20, g21, g22, g23⟩ := HS.out _ hHeld
      have CC := Lib.hid (with_m c lv g22 (by have := HC.out; omega) (by have := HC.out; omega) (by omega))
      clear hHeld gs0 gs1 g20 g21 g22 g23
      go_wp2_with fail
      refine CC.out.mono ?_
      clear CC f0 f1 f2 f3 f4 f5 f6 f7 f8 f9 f10 f11
      rintro e ww24 ⟨a24, n24, c24, rfl, l24, hb⟩
      have hHeld := HH.out.trans (hb.mono HH.out.size)
      clear HH hb
      have l24 := l24.la.put (m := 13) (by have := put_le D0 P0 c 0; have := FS0.out.1.2.2.2.2; omega)
      have hb3 := below_alloc1 ww24 (Obj.cells #[.int .i64 D0, .slice a24 n24 c24] 29)
      obtain ⟨Xo, eX⟩ : ∃ X, X = ww24.alloc (Obj.cells #[.int .i64 D0, .slice a24 n24 c24] 29) := ⟨_, rfl⟩
      have HK := Lib.hid (show Xo.heap[ww24.heap.size]? = some (Obj.cells #[.int .i64 D0, .slice a24 n24 c24] 29) from by rw [eX]; exact heap_alloc_new _ _)
      have HXo := Lib.hid (show Below Xf.heap.size Xf Xo from by rw [eX]; exact hHeld.trans (hb3.mono hHeld.size))
      have HL24 := Lib.hid (show LA 14 Xo D0 a24 n24 c24 (Lab.put D0 (Lab.put D0 P0 c 0) c lv) from by rw [eX]; exact (l24.below hb3).mono (by omega))
      clear hb3 hHeld
      go_upto_region 10 with fail
      rw [← eX]
      obtain ⟨Vo, eA⟩ : ∃ A, A = ww24.heap.size := ⟨_, rfl⟩
      rw [← eA] at HK ⊢
      clear eX eA
      have hk0 := HK.out
      have hB := (HS.out Xo HXo.out).1
      have HS := Lib.hid (fun (wx : World) (hx : Below Xo.heap.size Xo wx) => (by
          have hw : Below w.heap.size w wx := hB.trans (hx.mono hB.size)
          have hold := HS.out wx (HXo.out.trans (hx.mono HXo.out.size))
          have r0 := block_below hk0 hx
          exact ⟨hw, hold.2.1, hold.2.2.1, hold.2.2.2.1, hold.2.2.2.2.1, hold.2.2.2.2.2.1, hold.2.2.2.2.2.2.1, hold.2.2.2.2.2.2.2.1, hold.2.2.2.2.2.2.2.2.1, hold.2.2.2.2.2.2.2.2.2.1, hold.2.2.2.2.2.2.2.2.2.2.1, hold.2.2.2.2.2.2.2.2.2.2.2.1, hold.2.2.2.2.2.2.2.2.2.2.2.2.1, by rw [cell_of_row _ _ 0 _ 29 (0, 0) r0]; rfl, by rw [cell_of_row _ _ 1 _ 29 (0, 0) r0]; rfl, hold.2.2.2.2.2.2.2.2.2.2.2.2.2.1, hold.2.2.2.2.2.2.2.2.2.2.2.2.2.2.1, hold.2.2.2.2.2.2.2.2.2.2.2.2.2.2.2.1, hold.2.2.2.2.2.2.2.2.2.2.2.2.2.2.2.2.1, hold.2.2.2.2.2.2.2.2.2.2.2.2.2.2.2.2.2.1, hold.2.2.2.2.2.2.2.2.2.2.2.2.2.2.2.2.2.2, HL24.out.below hx⟩ : Below w.heap.size w wx ∧ wx.cell? ⟨w.heap.size, 0, none⟩ = some (.int .i64 S0) ∧ wx.cell? ⟨w.heap.size, 1, none⟩ = some (.slice sa0 sn0 sc0) ∧ wx.cell? ⟨w.heap.size, 2, none⟩ = some (.int .i64 S1) ∧ wx.cell? ⟨w.heap.size, 3, none⟩ = some (.slice sa1 sn1 sc1) ∧ wx.cell? ⟨V7, 0, none⟩ = some (.int .i64 D0) ∧ wx.cell? ⟨V7, 1, none⟩ = some (.slice a20 n20 c20) ∧ wx.cell? ⟨V7, 2, none⟩ = some (.int .i64 (max D0 D1)) ∧ wx.cell? ⟨V7, 3, none⟩ = some (.slice a21 n21 c21) ∧ wx.cell? ⟨Vf, 0, none⟩ = some (.int .i64 D0) ∧ wx.cell? ⟨Vf, 1, none⟩ = some (.slice a22 n22 c22) ∧ wx.cell? ⟨Vf, 2, none⟩ = some (.int .i64 (max D0 D1)) ∧ wx.cell? ⟨Vf, 3, none⟩ = some (.slice a23 n23 c23) ∧ wx.cell? ⟨Vo, 0, none⟩ = some (.int .i64 D0) ∧ wx.cell? ⟨Vo, 1, none⟩ = some (.slice a24 n24 c24) ∧ IntsL wx (.slice sa0 sn0 sc0) ls0 ∧ IntsL wx (.slice sa1 sn1 sc1) ls1 ∧ LA 12 wx D0 a20 n20 c20 P0 ∧ LA 24 wx (max D0 D1) a21 n21 c21 (Lab.jn D0 P0 D1 P1) ∧ LA 13 wx D0 a22 n22 c22 (Lab.put D0 P0 c 0) ∧ LA 13 wx (max D0 D1) a23 n23 c23 (Lab.put (max D0 D1) (Lab.jn D0 P0 D1 P1) c 4) ∧ LA 14 wx D0 a24 n24 c24 (Lab.put D0 (Lab.put D0 P0 c 0) c lv)))
      clear hk0 hB HK
      have hHeld := Below.refl Xo.heap.size Xo
      have HH := Lib.hid hHeld
      obtain ⟨_, f0, f1, f2, f3, f4, f5, f6, f7, f8, f9, f10, f11, f12, f13, gs0, gs1, g20, g21, g22, g23, g24⟩ := HS.out _ hHeld
      have CC := Lib.hid (with_m c lv g20 (by have := HC.out; omega) (by have := HC.out; omega) (by omega))
      clear hHeld gs0 gs1 g20 g21 g22 g23 g24
      go_wp2_with fail
      refine CC.out.mono ?_
      clear CC f0 f1 f2 f3 f4 f5 f6 f7 f8 f9 f10 f11 f12 f13
      rintro e ww25 ⟨a25, n25, c25, rfl, l25, hb⟩
      have hHeld := HH.out.trans (hb.mono HH.out.size)
      clear HH hb
      have l25 := l25.la.put (m := 13) (by have := FS0.out.1.2.2.2.2; omega)
      have hb3 := below_alloc1 ww25 (Obj.cells #[.int .i64 D0, .slice a25 n25 c25] 29)
      obtain ⟨Xp, eX⟩ : ∃ X, X = ww25.alloc (Obj.cells #[.int .i64 D0, .slice a25 n25 c25] 29) := ⟨_, rfl⟩
      have HK := Lib.hid (show Xp.heap[ww25.heap.size]? = some (Obj.cells #[.int .i64 D0, .slice a25 n25 c25] 29) from by rw [eX]; exact heap_alloc_new _ _)
      have HXp := Lib.hid (show Below Xo.heap.size Xo Xp from by rw [eX]; exact hHeld.trans (hb3.mono hHeld.size))
      have HL25 := Lib.hid (show LA 14 Xp D0 a25 n25 c25 (Lab.put D0 P0 c lv) from by rw [eX]; exact (l25.below hb3).mono (by omega))
      clear hb3 hHeld
      go_upto_region 11 with fail
      rw [← eX]
      obtain ⟨Vp, eA⟩ : ∃ A, A = ww25.heap.size := ⟨_, rfl⟩
      rw [← eA] at HK ⊢
      clear eX eA
      have hk0 := HK.out
      have hB := (HS.out Xp HXp.out).1
      have HS := Lib.hid (fun (wx : World) (hx : Below Xp.heap.size Xp wx) => (by
          have hw : Below w.heap.size w wx := hB.trans (hx.mono hB.size)
          have hold := HS.out wx (HXp.out.trans (hx.mono HXp.out.size))
          have r0 := block_below hk0 hx
          exact ⟨hw, hold.2.1, hold.2.2.1, hold.2.2.2.1, hold.2.2.2.2.1, hold.2.2.2.2.2.1, hold.2.2.2.2.2.2.1, hold.2.2.2.2.2.2.2.1, hold.2.2.2.2.2.2.2.2.1, hold.2.2.2.2.2.2.2.2.2.1, hold.2.2.2.2.2.2.2.2.2.2.1, hold.2.2.2.2.2.2.2.2.2.2.2.1, hold.2.2.2.2.2.2.2.2.2.2.2.2.1, hold.2.2.2.2.2.2.2.2.2.2.2.2.2.1, hold.2.2.2.2.2.2.2.2.2.2.2.2.2.2.1, by rw [cell_of_row _ _ 0 _ 29 (0, 0) r0]; rfl, by rw [cell_of_row _ _ 1 _ 29 (0, 0) r0]; rfl, hold.2.2.2.2.2.2.2.2.2.2.2.2.2.2.2.1, hold.2.2.2.2.2.2.2.2.2.2.2.2.2.2.2.2.1, hold.2.2.2.2.2.2.2.2.2.2.2.2.2.2.2.2.2.1, hold.2.2.2.2.2.2.2.2.2.2.2.2.2.2.2.2.2.2.1, hold.2.2.2.2.2.2.2.2.2.2.2.2.2.2.2.2.2.2.2.1, hold.2.2.2.2.2.2.2.2.2.2.2.2.2.2.2.2.2.2.2.2.1, hold.2.2.2.2.2.2.2.2.2.2.2.2.2.2.2.2.2.2.2.2.2, HL25.out.below hx⟩ : Below w.heap.size w wx ∧ wx.cell? ⟨w.heap.size, 0, none⟩ = some (.int .i64 S0) ∧ wx.cell? ⟨w.heap.size, 1, none⟩ = some (.slice sa0 sn0 sc0) ∧ wx.cell? ⟨w.heap.size, 2, none⟩ = some (.int .i64 S1) ∧ wx.cell? ⟨w.heap.size, 3, none⟩ = some (.slice sa1 sn1 sc1) ∧ wx.cell? ⟨V7, 0, none⟩ = some (.int .i64 D0) ∧ wx.cell? ⟨V7, 1, none⟩ = some (.slice a20 n20 c20) ∧ wx.cell? ⟨V7, 2, none⟩ = some (.int .i64 (max D0 D1)) ∧ wx.cell? ⟨V7, 3, none⟩ = some (.slice a21 n21 c21) ∧ wx.cell? ⟨Vf, 0, none⟩ = some (.int .i64 D0) ∧ wx.cell? ⟨Vf, 1, none⟩ = some (.slice a22 n22 c22) ∧ wx.cell? ⟨Vf, 2, none⟩ = some (.int .i64 (max D0 D1)) ∧ wx.cell? ⟨Vf, 3, none⟩ = some (.slice a23 n23 c23) ∧ wx.cell? ⟨Vo, 0, none⟩ = some (.int .i64 D0) ∧ wx.cell? ⟨Vo, 1, none⟩ = some (.slice a24 n24 c24) ∧ wx.cell? ⟨Vp, 0, none⟩ = some (.int .i64 D0) ∧ wx.cell? ⟨Vp, 1, none⟩ = some (.slice a25 n25 c25) ∧ IntsL wx (.slice sa0 sn0 sc0) ls0 ∧ IntsL wx (.slice sa1 sn1 sc1) ls1 ∧ LA 12 wx D0 a20 n20 c20 P0 ∧ LA 24 wx (max D0 D1) a21 n21 c21 (Lab.jn D0 P0 D1 P1) ∧ LA 13 wx D0 a22 n22 c22 (Lab.put D0 P0 c 0) ∧ LA 13 wx (max D0 D1) a23 n23 c23 (Lab.put (max D0 D1) (Lab.jn D0 P0 D1 P1) c 4) ∧ LA 14 wx D0 a24 n24 c24 (Lab.put D0 (Lab.put D0 P0 c 0) c lv) ∧ LA 14 wx D0 a25 n25 c25 (Lab.put D0 P0 c lv)))
      clear hk0 hB HK
      have hHeld := Below.refl Xp.heap.size Xp
      clear hHeld
      have EA1 := Lib.hid (show Lab.at' D0 (Lab.put D0 P0 c 0) c = 0 from by rw [Lab.put_at, if_pos rfl])
      have EA2 := Lib.hid (show Lab.at' (max D0 D1) (Lab.put (max D0 D1) (Lab.jn D0 P0 D1 P1) c 4) c = 4 from by rw [Lab.put_at, if_pos rfl])
      have EA3 := Lib.hid (show Lab.at' D0 P0 c = D0 from Lab.at_above (Lab.few_lt FS0.out.2 HC.out.1))
      have EC1 := Lib.hid (show ch D0 (Lab.put D0 P0 c 0) D0 (Lab.put D0 (Lab.put D0 P0 c 0) c lv) = true from fresh_change FS0.out.1 (by have := HC.out; omega) (by have := HC.out; omega) HLV.out.1 HLV.out.2)
      have EO := Lib.hid (show (Lab.owns (Lab.put D0 P0 c 0)).length = (Lab.owns P0).length + 1 from Lab.owns_above FS0.out.2 HC.out.1 FS0.out.1.2.1)
      have EOL := Lib.hid (show (Lab.owns P0).length ≤ 12 by have := Lab.owns_le P0; have := FS0.out.1.2.2.2.2; omega)
      rcases Int.lt_trichotomy D0 lv with hc | hc | hc
      · skip
        have ER := Lib.hid (fresh_read FS0.out.1 FS0.out.2 HC.out.1 hc)
        have t1 : (D0 == lv) = false := by simp; omega
        have t2 : ¬ D0 = lv := by omega
        have t3 : ¬ lv < D0 := by omega
        have t4 : decide (lv < D0) = false := by simp; omega
        have t5 : ¬ D0 > lv := t3
        clear hc
        refine region_AU (Z := fun j => false) (S := fun w' => Below Xp.heap.size Xp w') (by kernel_rfl) ((Below.refl _ _).drew) (fun hHeld => ?_)
        refine AUS_take (by kernel_rfl) rfl (i := 0) (oi := _) (v := ?vw12) rfl (by kernel_rfl) (by kernel_rfl) (by kernel_rfl) (fun _ _ _ h => h) (Or.inl ⟨by rfl, ?hz12⟩) hHeld ?rst12
        case hz12 => (intro wS hSw; obtain ⟨_, f0, f1, f2, f3, f4, f5, f6, f7, f8, f9, f10, f11, f12, f13, f14, f15, _, _, _, _, _, _, _, _⟩ := HS.out wS hSw; clear hSw; go_simp; try with_reducible rfl)
        simp only [Act.put, List.getElem_toArray, List.getElem_cons_zero, List.getElem_cons_succ, List.setIfInBounds_toArray, List.set_cons_zero, List.set_cons_succ]
        refine AUS_take (by kernel_rfl) rfl (i := 1) (oi := _) (v := ?vw13) rfl (by kernel_rfl) (by kernel_rfl) (by kernel_rfl) (fun _ _ _ h => h) (Or.inl ⟨by rfl, ?hz13⟩) hHeld ?rst13
        case hz13 => (intro wS hSw; obtain ⟨_, f0, f1, f2, f3, f4, f5, f6, f7, f8, f9, f10, f11, f12, f13, f14, f15, _, _, _, _, _, _, _, _⟩ := HS.out wS hSw; clear hSw; go_simp; try with_reducible rfl)
        simp only [Act.put, List.getElem_toArray, List.getElem_cons_zero, List.getElem_cons_succ, List.setIfInBounds_toArray, List.set_cons_zero, List.set_cons_succ]
        refine AUS_take (by kernel_rfl) rfl (i := 2) (oi := _) (v := ?vw14) rfl (by kernel_rfl) (by kernel_rfl) (by kernel_rfl) (fun _ _ _ h => h) (Or.inl ⟨by rfl, ?hz14⟩) hHeld ?rst14
        case hz14 => (intro wS hSw; obtain ⟨_, f0, f1, f2, f3, f4, f5, f6, f7, f8, f9, f10, f11, f12, f13, f14, f15, _, _, _, _, _, _, _, _⟩ := HS.out wS hSw; clear hSw; go_simp; try with_reducible rfl)
        simp only [Act.put, List.getElem_toArray, List.getElem_cons_zero, List.getElem_cons_succ, List.setIfInBounds_toArray, List.set_cons_zero, List.set_cons_succ]
        have HH := Lib.hid hHeld
        obtain ⟨hbw, _, _, _, _, _, _, _, _, _, _, _, _, _, _, _, _, gs0, gs1, g20, g21, g22, g23, g24, g25⟩ := HS.out _ hHeld
        refine AU_one (i := 3) (o := _) (by kernel_rfl) rfl (fun K hK => ?_)
        have CC := at_m c g22
        rw [EA1.out] at CC
        have CC := Lib.hid CC
        clear hHeld hbw gs0 gs1 g20 g21 g22 g23 g24 g25
        go_simp
        refine CC.out.mono ?_
        clear CC
        rintro e wz20 ⟨rfl, hb⟩
        have hHeld := HH.out.trans (hb.mono HH.out.size)
        clear HH hb
        refine hK.out _ _ (fun _ => hHeld) ?_
        clear hK K
        try simp only [Act.put, List.getElem_toArray, List.getElem_cons_zero, List.getElem_cons_succ, List.setIfInBounds_toArray, List.set_cons_zero, List.set_cons_succ]
        refine AUS_take (by kernel_rfl) rfl (i := 4) (oi := _) (v := ?vw15) rfl (by kernel_rfl) (by kernel_rfl) (by kernel_rfl) (fun _ _ _ h => h) (Or.inl ⟨by rfl, ?hz15⟩) hHeld ?rst15
        case hz15 => (intro wS hSw; obtain ⟨_, f0, f1, f2, f3, f4, f5, f6, f7, f8, f9, f10, f11, f12, f13, f14, f15, _, _, _, _, _, _, _, _⟩ := HS.out wS hSw; clear hSw; go_simp; try with_reducible rfl)
        simp only [Act.put, List.getElem_toArray, List.getElem_cons_zero, List.getElem_cons_succ, List.setIfInBounds_toArray, List.set_cons_zero, List.set_cons_succ]
        refine AUS_take (by kernel_rfl) rfl (i := 5) (oi := _) (v := ?vw16) rfl (by kernel_rfl) (by kernel_rfl) (by kernel_rfl) (fun _ _ _ h => h) (Or.inl ⟨by rfl, ?hz16⟩) hHeld ?rst16
        case hz16 => (intro wS hSw; obtain ⟨_, f0, f1, f2, f3, f4, f5, f6, f7, f8, f9, f10, f11, f12, f13, f14, f15, _, _, _, _, _, _, _, _⟩ := HS.out wS hSw; clear hSw; go_simp; try with_reducible rfl)
        simp only [Act.put, List.getElem_toArray, List.getElem_cons_zero, List.getElem_cons_succ, List.setIfInBounds_toArray, List.set_cons_zero, List.set_cons_succ]
        refine AUS_take (by kernel_rfl) rfl (i := 6) (oi := _) (v := ?vw17) rfl (by kernel_rfl) (by kernel_rfl) (by kernel_rfl) (fun _ _ _ h => h) (Or.inl ⟨by rfl, ?hz17⟩) hHeld ?rst17
        case hz17 => (intro wS hSw; obtain ⟨_, f0, f1, f2, f3, f4, f5, f6, f7, f8, f9, f10, f11, f12, f13, f14, f15, _, _, _, _, _, _, _, _⟩ := HS.out wS hSw; clear hSw; go_simp; try with_reducible rfl)
        simp only [Act.put, List.getElem_toArray, List.getElem_cons_zero, List.getElem_cons_succ, List.setIfInBounds_toArray, List.set_cons_zero, List.set_cons_succ]
        refine AUS_take (by kernel_rfl) rfl (i := 7) (oi := _) (v := ?vw18) rfl (by kernel_rfl) (by kernel_rfl) (by kernel_rfl) (fun _ _ _ h => h) (Or.inl ⟨by rfl, ?hz18⟩) hHeld ?rst18
        case hz18 => (intro wS hSw; obtain ⟨_, f0, f1, f2, f3, f4, f5, f6, f7, f8, f9, f10, f11, f12, f13, f14, f15, _, _, _, _, _, _, _, _⟩ := HS.out wS hSw; clear hSw; go_simp; try with_reducible rfl)
        simp only [Act.put, List.getElem_toArray, List.getElem_cons_zero, List.getElem_cons_succ, List.setIfInBounds_toArray, List.set_cons_zero, List.set_cons_succ]
        refine AUS_take (by kernel_rfl) rfl (i := 8) (oi := _) (v := ?vw19) rfl (by kernel_rfl) (by kernel_rfl) (by kernel_rfl) (fun _ _ _ h => h) (Or.inl ⟨by rfl, ?hz19⟩) hHeld ?rst19
        case hz19 => (intro wS hSw; obtain ⟨_, f0, f1, f2, f3, f4, f5, f6, f7, f8, f9, f10, f11, f12, f13, f14, f15, _, _, _, _, _, _, _, _⟩ := HS.out wS hSw; clear hSw; go_simp; try with_reducible rfl)
        simp only [Act.put, List.getElem_toArray, List.getElem_cons_zero, List.getElem_cons_succ, List.setIfInBounds_toArray, List.set_cons_zero, List.set_cons_succ]
        have HH := Lib.hid hHeld
        obtain ⟨hbw, _, _, _, _, _, _, _, _, _, _, _, _, _, _, _, _, gs0, gs1, g20, g21, g22, g23, g24, g25⟩ := HS.out _ hHeld
        refine AU_one (i := 9) (o := _) (by kernel_rfl) rfl (fun K hK => ?_)
        have CC := at_m c g23
        rw [EA2.out] at CC
        have CC := Lib.hid CC
        clear hHeld hbw gs0 gs1 g20 g21 g22 g23 g24 g25
        go_simp
        refine CC.out.mono ?_
        clear CC
        rintro e wz21 ⟨rfl, hb⟩
        have hHeld := HH.out.trans (hb.mono HH.out.size)
        clear HH hb
        refine hK.out _ _ (fun _ => hHeld) ?_
        clear hK K
        try simp only [Act.put, List.getElem_toArray, List.getElem_cons_zero, List.getElem_cons_succ, List.setIfInBounds_toArray, List.set_cons_zero, List.set_cons_succ]
        refine AUS_take (by kernel_rfl) rfl (i := 10) (oi := _) (v := ?vw20) rfl (by kernel_rfl) (by kernel_rfl) (by kernel_rfl) (fun _ _ _ h => h) (Or.inl ⟨by rfl, ?hz20⟩) hHeld ?rst20
        case hz20 => (intro wS hSw; obtain ⟨_, f0, f1, f2, f3, f4, f5, f6, f7, f8, f9, f10, f11, f12, f13, f14, f15, _, _, _, _, _, _, _, _⟩ := HS.out wS hSw; clear hSw; go_simp; try with_reducible rfl)
        simp only [Act.put, List.getElem_toArray, List.getElem_cons_zero, List.getElem_cons_succ, List.setIfInBounds_toArray, List.set_cons_zero, List.set_cons_succ]
        refine AUS_take (by kernel_rfl) rfl (i := 11) (oi := _) (v := ?vw21) rfl (by kernel_rfl) (by kernel_rfl) (by kernel_rfl) (fun _ _ _ h => h) (Or.inl ⟨by rfl, ?hz21⟩) hHeld ?rst21
        case hz21 => (intro wS hSw; obtain ⟨_, f0, f1, f2, f3, f4, f5, f6, f7, f8, f9, f10, f11, f12, f13, f14, f15, _, _, _, _, _, _, _, _⟩ := HS.out wS hSw; clear hSw; go_simp; try with_reducible rfl)
        simp only [Act.put, List.getElem_toArray, List.getElem_cons_zero, List.getElem_cons_succ, List.setIfInBounds_toArray, List.set_cons_zero, List.set_cons_succ]
        refine AUS_take (by kernel_rfl) rfl (i := 12) (oi := _) (v := ?vw22) rfl (by kernel_rfl) (by kernel_rfl) (by kernel_rfl) (fun _ _ _ h => h) (Or.inl ⟨by rfl, ?hz22⟩) hHeld ?rst22
        case hz22 => (intro wS hSw; obtain ⟨_, f0, f1, f2, f3, f4, f5, f6, f7, f8, f9, f10, f11, f12, f13, f14, f15, _, _, _, _, _, _, _, _⟩ := HS.out wS hSw; clear hSw; go_simp; try with_reducible rfl)
        simp only [Act.put, List.getElem_toArray, List.getElem_cons_zero, List.getElem_cons_succ, List.setIfInBounds_toArray, List.set_cons_zero, List.set_cons_succ]
        refine AUS_take (by kernel_rfl) rfl (i := 13) (oi := _) (v := ?vw23) rfl (by kernel_rfl) (by kernel_rfl) (by kernel_rfl) (fun _ _ _ h => h) (Or.inl ⟨by rfl, ?hz23⟩) hHeld ?rst23
        case hz23 => (intro wS hSw; obtain ⟨_, f0, f1, f2, f3, f4, f5, f6, f7, f8, f9, f10, f11, f12, f13, f14, f15, _, _, _, _, _, _, _, _⟩ := HS.out wS hSw; clear hSw; go_simp; try with_reducible rfl)
        simp only [Act.put, List.getElem_toArray, List.getElem_cons_zero, List.getElem_cons_succ, List.setIfInBounds_toArray, List.set_cons_zero, List.set_cons_succ]
        refine AUS_take (by kernel_rfl) rfl (i := 14) (oi := _) (v := ?vw24) rfl (by kernel_rfl) (by kernel_rfl) (by kernel_rfl) (fun _ _ _ h => h) (Or.inl ⟨by rfl, ?hz24⟩) hHeld ?rst24
        case hz24 => (intro wS hSw; obtain ⟨_, f0, f1, f2, f3, f4, f5, f6, f7, f8, f9, f10, f11, f12, f13, f14, f15, _, _, _, _, _, _, _, _⟩ := HS.out wS hSw; clear hSw; go_simp; try with_reducible rfl)
        simp only [Act.put, List.getElem_toArray, List.getElem_cons_zero, List.getElem_cons_succ, List.setIfInBounds_toArray, List.set_cons_zero, List.set_cons_succ]
        refine AUS_take (by kernel_rfl) rfl (i := 15) (oi := _) (v := ?vw25) rfl (by kernel_rfl) (by kernel_rfl) (by kernel_rfl) (fun _ _ _ h => h) (Or.inl ⟨by rfl, ?hz25⟩) hHeld ?rst25
        case hz25 => (intro wS hSw; obtain ⟨_, f0, f1, f2, f3, f4, f5, f6, f7, f8, f9, f10, f11, f12, f13, f14, f15, _, _, _, _, _, _, _, _⟩ := HS.out wS hSw; clear hSw; go_simp; try with_reducible rfl)
        simp only [Act.put, List.getElem_toArray, List.getElem_cons_zero, List.getElem_cons_succ, List.setIfInBounds_toArray, List.set_cons_zero, List.set_cons_succ]
        have HH := Lib.hid hHeld
        obtain ⟨hbw, _, _, _, _, _, _, _, _, _, _, _, _, _, _, _, _, gs0, gs1, g20, g21, g22, g23, g24, g25⟩ := HS.out _ hHeld
        refine AU_one (i := 16) (o := _) (by kernel_rfl) rfl (fun K hK => ?_)
        have CC := change_m (g22.mono (by omega)) (g24.mono (by omega))
        rw [EC1.out] at CC
        have CC := Lib.hid CC
        clear hHeld hbw gs0 gs1 g20 g21 g22 g23 g24 g25
        go_simp
        refine CC.out.mono ?_
        clear CC
        rintro e wz22 ⟨rfl, hb⟩
        have hHeld := HH.out.trans (hb.mono HH.out.size)
        clear HH hb
        refine hK.out _ _ (fun _ => hHeld) ?_
        clear hK K
        try simp only [Act.put, List.getElem_toArray, List.getElem_cons_zero, List.getElem_cons_succ, List.setIfInBounds_toArray, List.set_cons_zero, List.set_cons_succ]
        refine AUS_take (by kernel_rfl) rfl (i := 17) (oi := _) (v := ?vw26) rfl (by kernel_rfl) (by kernel_rfl) (by kernel_rfl) (fun _ _ _ h => h) (Or.inl ⟨by rfl, ?hz26⟩) hHeld ?rst26
        case hz26 => (intro wS hSw; obtain ⟨_, f0, f1, f2, f3, f4, f5, f6, f7, f8, f9, f10, f11, f12, f13, f14, f15, _, _, _, _, _, _, _, _⟩ := HS.out wS hSw; clear hSw; go_simp; try with_reducible rfl)
        simp only [Act.put, List.getElem_toArray, List.getElem_cons_zero, List.getElem_cons_succ, List.setIfInBounds_toArray, List.set_cons_zero, List.set_cons_succ]
        refine AUS_take (by kernel_rfl) rfl (i := 18) (oi := _) (v := ?vw27) rfl (by kernel_rfl) (by kernel_rfl) (by kernel_rfl) (fun _ _ _ h => h) (Or.inl ⟨by rfl, ?hz27⟩) hHeld ?rst27
        case hz27 => (intro wS hSw; obtain ⟨_, f0, f1, f2, f3, f4, f5, f6, f7, f8, f9, f10, f11, f12, f13, f14, f15, _, _, _, _, _, _, _, _⟩ := HS.out wS hSw; clear hSw; go_simp; try with_reducible rfl)
        simp only [Act.put, List.getElem_toArray, List.getElem_cons_zero, List.getElem_cons_succ, List.setIfInBounds_toArray, List.set_cons_zero, List.set_cons_succ]
        refine AUS_take (by kernel_rfl) rfl (i := 19) (oi := _) (v := ?vw28) rfl (by kernel_rfl) (by kernel_rfl) (by kernel_rfl) (fun _ _ _ h => h) (Or.inl ⟨by rfl, ?hz28⟩) hHeld ?rst28
        case hz28 => (intro wS hSw; obtain ⟨_, f0, f1, f2, f3, f4, f5, f6, f7, f8, f9, f10, f11, f12, f13, f14, f15, _, _, _, _, _, _, _, _⟩ := HS.out wS hSw; clear hSw; go_simp; try with_reducible rfl)
        simp only [Act.put, List.getElem_toArray, List.getElem_cons_zero, List.getElem_cons_succ, List.setIfInBounds_toArray, List.set_cons_zero, List.set_cons_succ]
        refine AUS_take (by kernel_rfl) rfl (i := 20) (oi := _) (v := ?vw29) rfl (by kernel_rfl) (by kernel_rfl) (by kernel_rfl) (fun _ _ _ h => h) (Or.inl ⟨by rfl, ?hz29⟩) hHeld ?rst29
        case hz29 => (intro wS hSw; obtain ⟨_, f0, f1, f2, f3, f4, f5, f6, f7, f8, f9, f10, f11, f12, f13, f14, f15, _, _, _, _, _, _, _, _⟩ := HS.out wS hSw; clear hSw; go_simp; try with_reducible rfl)
        simp only [Act.put, List.getElem_toArray, List.getElem_cons_zero, List.getElem_cons_succ, List.setIfInBounds_toArray, List.set_cons_zero, List.set_cons_succ]
        refine AUS_take (by kernel_rfl) rfl (i := 21) (oi := _) (v := ?vw30) rfl (by kernel_rfl) (by kernel_rfl) (by kernel_rfl) (fun _ _ _ h => h) (Or.inl ⟨by rfl, ?hz30⟩) hHeld ?rst30
        case hz30 => (intro wS hSw; obtain ⟨_, f0, f1, f2, f3, f4, f5, f6, f7, f8, f9, f10, f11, f12, f13, f14, f15, _, _, _, _, _, _, _, _⟩ := HS.out wS hSw; clear hSw; go_simp; try with_reducible rfl)
        simp only [Act.put, List.getElem_toArray, List.getElem_cons_zero, List.getElem_cons_succ, List.setIfInBounds_toArray, List.set_cons_zero, List.set_cons_succ]
        refine AUS_take (by kernel_rfl) rfl (i := 23) (oi := _) (v := ?vw31) rfl (by kernel_rfl) (by kernel_rfl) (by kernel_rfl) (fun _ _ _ h => h) (Or.inl ⟨by rfl, ?hz31⟩) hHeld ?rst31
        case hz31 => (intro wS hSw; obtain ⟨_, f0, f1, f2, f3, f4, f5, f6, f7, f8, f9, f10, f11, f12, f13, f14, f15, _, _, _, _, _, _, _, _⟩ := HS.out wS hSw; clear hSw; go_simp; try with_reducible rfl)
        simp only [Act.put, List.getElem_toArray, List.getElem_cons_zero, List.getElem_cons_succ, List.setIfInBounds_toArray, List.set_cons_zero, List.set_cons_succ]
        have HH := Lib.hid hHeld
        obtain ⟨hbw, _, _, _, _, _, _, _, _, _, _, _, _, _, _, _, _, gs0, gs1, g20, g21, g22, g23, g24, g25⟩ := HS.out _ hHeld
        refine AU_one (i := 22) (o := _) (by kernel_rfl) rfl (fun K hK => ?_)
        have CC := at_m c g20
        rw [EA3.out] at CC
        have CC := Lib.hid CC
        clear hHeld hbw gs0 gs1 g20 g21 g22 g23 g24 g25
        go_simp
        refine CC.out.mono ?_
        clear CC
        rintro e wz23 ⟨rfl, hb⟩
        have hHeld := HH.out.trans (hb.mono HH.out.size)
        clear HH hb
        refine hK.out _ _ (fun _ => hHeld) ?_
        clear hK K
        try simp only [Act.put, List.getElem_toArray, List.getElem_cons_zero, List.getElem_cons_succ, List.setIfInBounds_toArray, List.set_cons_zero, List.set_cons_succ]
        refine AUS_take (by kernel_rfl) rfl (i := 24) (oi := _) (v := ?vw32) rfl (by kernel_rfl) (by kernel_rfl) (by kernel_rfl) (fun _ _ _ h => h) (Or.inl ⟨by rfl, ?hz32⟩) hHeld ?rst32
        case hz32 => (intro wS hSw; obtain ⟨_, f0, f1, f2, f3, f4, f5, f6, f7, f8, f9, f10, f11, f12, f13, f14, f15, _, _, _, _, _, _, _, _⟩ := HS.out wS hSw; clear hSw; go_simp; try with_reducible rfl)
        simp only [Act.put, List.getElem_toArray, List.getElem_cons_zero, List.getElem_cons_succ, List.setIfInBounds_toArray, List.set_cons_zero, List.set_cons_succ]
        refine AUS_take (by kernel_rfl) rfl (i := 25) (oi := _) (v := ?vw33) rfl (by kernel_rfl) (by kernel_rfl) (by kernel_rfl) (fun _ _ _ h => h) (Or.inl ⟨by rfl, ?hz33⟩) hHeld ?rst33
        case hz33 => (intro wS hSw; obtain ⟨_, f0, f1, f2, f3, f4, f5, f6, f7, f8, f9, f10, f11, f12, f13, f14, f15, _, _, _, _, _, _, _, _⟩ := HS.out wS hSw; clear hSw; go_simp; try with_reducible rfl)
        simp only [Act.put, List.getElem_toArray, List.getElem_cons_zero, List.getElem_cons_succ, List.setIfInBounds_toArray, List.set_cons_zero, List.set_cons_succ]
        refine AUS_take (by kernel_rfl) rfl (i := 26) (oi := _) (v := ?vw34) rfl (by kernel_rfl) (by kernel_rfl) (by kernel_rfl) (fun _ _ _ h => h) (Or.inl ⟨by rfl, ?hz34⟩) hHeld ?rst34
        case hz34 => (intro wS hSw; obtain ⟨_, f0, f1, f2, f3, f4, f5, f6, f7, f8, f9, f10, f11, f12, f13, f14, f15, _, _, _, _, _, _, _, _⟩ := HS.out wS hSw; clear hSw; go_simp; try with_reducible rfl)
        simp only [Act.put, List.getElem_toArray, List.getElem_cons_zero, List.getElem_cons_succ, List.setIfInBounds_toArray, List.set_cons_zero, List.set_cons_succ]
        refine AUS_take (by kernel_rfl) rfl (i := 27) (oi := _) (v := ?vw35) rfl (by kernel_rfl) (by kernel_rfl) (by kernel_rfl) (fun _ _ _ h => h) (Or.inl ⟨by rfl, ?hz35⟩) hHeld ?rst35
        case hz35 => (intro wS hSw; obtain ⟨_, f0, f1, f2, f3, f4, f5, f6, f7, f8, f9, f10, f11, f12, f13, f14, f15, _, _, _, _, _, _, _, _⟩ := HS.out wS hSw; clear hSw; go_simp; try with_reducible rfl)
        simp only [Act.put, List.getElem_toArray, List.getElem_cons_zero, List.getElem_cons_succ, List.setIfInBounds_toArray, List.set_cons_zero, List.set_cons_succ]
        refine AUS_take (by kernel_rfl) rfl (i := 28) (oi := _) (v := ?vw36) rfl (by kernel_rfl) (by kernel_rfl) (by kernel_rfl) (fun _ _ _ h => h) (Or.inl ⟨by rfl, ?hz36⟩) hHeld ?rst36
        case hz36 => (intro wS hSw; obtain ⟨_, f0, f1, f2, f3, f4, f5, f6, f7, f8, f9, f10, f11, f12, f13, f14, f15, _, _, _, _, _, _, _, _⟩ := HS.out wS hSw; clear hSw; go_simp; try with_reducible rfl)
        simp only [Act.put, List.getElem_toArray, List.getElem_cons_zero, List.getElem_cons_succ, List.setIfInBounds_toArray, List.set_cons_zero, List.set_cons_succ]
        refine AUS_take (by kernel_rfl) rfl (i := 30) (oi := _) (v := ?vw37) rfl (by kernel_rfl) (by kernel_rfl) (by kernel_rfl) (fun _ _ _ h => h) (Or.inl ⟨by rfl, ?hz37⟩) hHeld ?rst37
        case hz37 => (intro wS hSw; obtain ⟨_, f0, f1, f2, f3, f4, f5, f6, f7, f8, f9, f10, f11, f12, f13, f14, f15, _, _, _, _, _, _, _, _⟩ := HS.out wS hSw; clear hSw; go_simp; try with_reducible rfl)
        simp only [Act.put, List.getElem_toArray, List.getElem_cons_zero, List.getElem_cons_succ, List.setIfInBounds_toArray, List.set_cons_zero, List.set_cons_succ]
        have HH := Lib.hid hHeld
        obtain ⟨hbw, _, _, _, _, _, _, _, _, _, _, _, _, _, _, _, _, gs0, gs1, g20, g21, g22, g23, g24, g25⟩ := HS.out _ hHeld
        refine AU_one (i := 29) (o := _) (by kernel_rfl) rfl (fun K hK => ?_)
        have CC := at_m c g20
        rw [EA3.out] at CC
        have CC := Lib.hid CC
        clear hHeld hbw gs0 gs1 g20 g21 g22 g23 g24 g25
        go_simp
        refine CC.out.mono ?_
        clear CC
        rintro e wz24 ⟨rfl, hb⟩
        have hHeld := HH.out.trans (hb.mono HH.out.size)
        clear HH hb
        refine hK.out _ _ (fun _ => hHeld) ?_
        clear hK K
        try simp only [Act.put, List.getElem_toArray, List.getElem_cons_zero, List.getElem_cons_succ, List.setIfInBounds_toArray, List.set_cons_zero, List.set_cons_succ]
        refine AUS_take (by kernel_rfl) rfl (i := 31) (oi := _) (v := ?vw38) rfl (by kernel_rfl) (by kernel_rfl) (by kernel_rfl) (fun _ _ _ h => h) (Or.inl ⟨by rfl, ?hz38⟩) hHeld ?rst38
        case hz38 => (intro wS hSw; obtain ⟨_, f0, f1, f2, f3, f4, f5, f6, f7, f8, f9, f10, f11, f12, f13, f14, f15, _, _, _, _, _, _, _, _⟩ := HS.out wS hSw; clear hSw; go_simp; try with_reducible rfl)
        simp only [Act.put, List.getElem_toArray, List.getElem_cons_zero, List.getElem_cons_succ, List.setIfInBounds_toArray, List.set_cons_zero, List.set_cons_succ]
        refine AUS_take (by kernel_rfl) rfl (i := 32) (oi := _) (v := ?vw39) rfl (by kernel_rfl) (by kernel_rfl) (by kernel_rfl) (fun _ _ _ h => h) (Or.inl ⟨by rfl, ?hz39⟩) hHeld ?rst39
        case hz39 => (intro wS hSw; obtain ⟨_, f0, f1, f2, f3, f4, f5, f6, f7, f8, f9, f10, f11, f12, f13, f14, f15, _, _, _, _, _, _, _, _⟩ := HS.out wS hSw; clear hSw; go_simp; try with_reducible rfl)
        simp only [Act.put, List.getElem_toArray, List.getElem_cons_zero, List.getElem_cons_succ, List.setIfInBounds_toArray, List.set_cons_zero, List.set_cons_succ]
        refine AUS_take (by kernel_rfl) rfl (i := 33) (oi := _) (v := ?vw40) rfl (by kernel_rfl) (by kernel_rfl) (by kernel_rfl) (fun _ _ _ h => h) (Or.inl ⟨by rfl, ?hz40⟩) hHeld ?rst40
        case hz40 => (intro wS hSw; obtain ⟨_, f0, f1, f2, f3, f4, f5, f6, f7, f8, f9, f10, f11, f12, f13, f14, f15, _, _, _, _, _, _, _, _⟩ := HS.out wS hSw; clear hSw; go_simp; try with_reducible rfl)
        simp only [Act.put, List.getElem_toArray, List.getElem_cons_zero, List.getElem_cons_succ, List.setIfInBounds_toArray, List.set_cons_zero, List.set_cons_succ]
        refine AUS_take (by kernel_rfl) rfl (i := 34) (oi := _) (v := ?vw41) rfl (by kernel_rfl) (by kernel_rfl) (by kernel_rfl) (fun _ _ _ h => h) (Or.inl ⟨by rfl, ?hz41⟩) hHeld ?rst41
        case hz41 => (intro wS hSw; obtain ⟨_, f0, f1, f2, f3, f4, f5, f6, f7, f8, f9, f10, f11, f12, f13, f14, f15, _, _, _, _, _, _, _, _⟩ := HS.out wS hSw; clear hSw; go_simp; try with_reducible rfl)
        simp only [Act.put, List.getElem_toArray, List.getElem_cons_zero, List.getElem_cons_succ, List.setIfInBounds_toArray, List.set_cons_zero, List.set_cons_succ]
        refine AUS_take (by kernel_rfl) rfl (i := 35) (oi := _) (v := ?vw42) rfl (by kernel_rfl) (by kernel_rfl) (by kernel_rfl) (fun _ _ _ h => h) (Or.inl ⟨by rfl, ?hz42⟩) hHeld ?rst42
        case hz42 => (intro wS hSw; obtain ⟨_, f0, f1, f2, f3, f4, f5, f6, f7, f8, f9, f10, f11, f12, f13, f14, f15, _, _, _, _, _, _, _, _⟩ := HS.out wS hSw; clear hSw; go_simp; try with_reducible rfl)
        simp only [Act.put, List.getElem_toArray, List.getElem_cons_zero, List.getElem_cons_succ, List.setIfInBounds_toArray, List.set_cons_zero, List.set_cons_succ]
        refine AUS_take (by kernel_rfl) rfl (i := 36) (oi := _) (v := ?vw43) rfl (by kernel_rfl) (by kernel_rfl) (by kernel_rfl) (fun _ _ _ h => h) (Or.inl ⟨by rfl, ?hz43⟩) hHeld ?rst43
        case hz43 => (intro wS hSw; obtain ⟨_, f0, f1, f2, f3, f4, f5, f6, f7, f8, f9, f10, f11, f12, f13, f14, f15, _, _, _, _, _, _, _, _⟩ := HS.out wS hSw; clear hSw; go_simp; try with_reducible rfl)
        simp only [Act.put, List.getElem_toArray, List.getElem_cons_zero, List.getElem_cons_succ, List.setIfInBounds_toArray, List.set_cons_zero, List.set_cons_succ]
        have HH := Lib.hid hHeld
        obtain ⟨hbw, _, _, _, _, _, _, _, _, _, _, _, _, _, _, _, _, gs0, gs1, g20, g21, g22, g23, g24, g25⟩ := HS.out _ hHeld
        refine AU_one (i := 37) (o := _) (by kernel_rfl) rfl (fun K hK => ?_)
        have CC := read_m (g20.mono (by omega)) (g25.mono (by omega))
        rw [ER.out] at CC
        have CC := Lib.hid CC
        clear hHeld hbw gs0 gs1 g20 g21 g22 g23 g24 g25
        go_simp
        refine CC.out.mono ?_
        clear CC
        rintro e wz25 ⟨rfl, hb⟩
        have hHeld := HH.out.trans (hb.mono HH.out.size)
        clear HH hb
        refine hK.out _ _ (fun _ => hHeld) ?_
        clear hK K
        try simp only [Act.put, List.getElem_toArray, List.getElem_cons_zero, List.getElem_cons_succ, List.setIfInBounds_toArray, List.set_cons_zero, List.set_cons_succ]
        refine AUS_take (by kernel_rfl) rfl (i := 38) (oi := _) (v := ?vw44) rfl (by kernel_rfl) (by kernel_rfl) (by kernel_rfl) (fun _ _ _ h => h) (Or.inl ⟨by rfl, ?hz44⟩) hHeld ?rst44
        case hz44 => (intro wS hSw; obtain ⟨_, f0, f1, f2, f3, f4, f5, f6, f7, f8, f9, f10, f11, f12, f13, f14, f15, _, _, _, _, _, _, _, _⟩ := HS.out wS hSw; clear hSw; go_simp; try with_reducible rfl)
        simp only [Act.put, List.getElem_toArray, List.getElem_cons_zero, List.getElem_cons_succ, List.setIfInBounds_toArray, List.set_cons_zero, List.set_cons_succ]
        refine AUS_take (by kernel_rfl) rfl (i := 39) (oi := _) (v := ?vw45) rfl (by kernel_rfl) (by kernel_rfl) (by kernel_rfl) (fun _ _ _ h => h) (Or.inl ⟨by rfl, ?hz45⟩) hHeld ?rst45
        case hz45 => (intro wS hSw; obtain ⟨_, f0, f1, f2, f3, f4, f5, f6, f7, f8, f9, f10, f11, f12, f13, f14, f15, _, _, _, _, _, _, _, _⟩ := HS.out wS hSw; clear hSw; go_simp; try with_reducible rfl)
        simp only [Act.put, List.getElem_toArray, List.getElem_cons_zero, List.getElem_cons_succ, List.setIfInBounds_toArray, List.set_cons_zero, List.set_cons_succ]
        refine AUS_take (by kernel_rfl) rfl (i := 40) (oi := _) (v := ?vw46) rfl (by kernel_rfl) (by kernel_rfl) (by kernel_rfl) (fun _ _ _ h => h) (Or.inl ⟨by rfl, ?hz46⟩) hHeld ?rst46
        case hz46 => (intro wS hSw; obtain ⟨_, f0, f1, f2, f3, f4, f5, f6, f7, f8, f9, f10, f11, f12, f13, f14, f15, _, _, _, _, _, _, _, _⟩ := HS.out wS hSw; clear hSw; go_simp; try with_reducible rfl)
        simp only [Act.put, List.getElem_toArray, List.getElem_cons_zero, List.getElem_cons_succ, List.setIfInBounds_toArray, List.set_cons_zero, List.set_cons_succ]
        refine AUS_take (by kernel_rfl) rfl (i := 41) (oi := _) (v := ?vw47) rfl (by kernel_rfl) (by kernel_rfl) (by kernel_rfl) (fun _ _ _ h => h) (Or.inl ⟨by rfl, ?hz47⟩) hHeld ?rst47
        case hz47 => (intro wS hSw; obtain ⟨_, f0, f1, f2, f3, f4, f5, f6, f7, f8, f9, f10, f11, f12, f13, f14, f15, _, _, _, _, _, _, _, _⟩ := HS.out wS hSw; clear hSw; go_simp; try with_reducible rfl)
        simp only [Act.put, List.getElem_toArray, List.getElem_cons_zero, List.getElem_cons_succ, List.setIfInBounds_toArray, List.set_cons_zero, List.set_cons_succ]
        refine AUS_take (by kernel_rfl) rfl (i := 42) (oi := _) (v := ?vw48) rfl (by kernel_rfl) (by kernel_rfl) (by kernel_rfl) (fun _ _ _ h => h) (Or.inl ⟨by rfl, ?hz48⟩) hHeld ?rst48
        case hz48 => (intro wS hSw; obtain ⟨_, f0, f1, f2, f3, f4, f5, f6, f7, f8, f9, f10, f11, f12, f13, f14, f15, _, _, _, _, _, _, _, _⟩ := HS.out wS hSw; clear hSw; go_simp; try with_reducible rfl)
        simp only [Act.put, List.getElem_toArray, List.getElem_cons_zero, List.getElem_cons_succ, List.setIfInBounds_toArray, List.set_cons_zero, List.set_cons_succ]
        refine AUS_take (by kernel_rfl) rfl (i := 43) (oi := _) (v := ?vw49) rfl (by kernel_rfl) (by kernel_rfl) (by kernel_rfl) (fun _ _ _ h => h) (Or.inl ⟨by rfl, ?hz49⟩) hHeld ?rst49
        case hz49 => (intro wS hSw; obtain ⟨_, f0, f1, f2, f3, f4, f5, f6, f7, f8, f9, f10, f11, f12, f13, f14, f15, _, _, _, _, _, _, _, _⟩ := HS.out wS hSw; clear hSw; go_simp; try with_reducible rfl)
        simp only [Act.put, List.getElem_toArray, List.getElem_cons_zero, List.getElem_cons_succ, List.setIfInBounds_toArray, List.set_cons_zero, List.set_cons_succ]
        refine AUS_take (by kernel_rfl) rfl (i := 46) (oi := _) (v := ?vw50) rfl (by kernel_rfl) (by kernel_rfl) (by kernel_rfl) (fun _ _ _ h => h) (Or.inl ⟨by rfl, ?hz50⟩) hHeld ?rst50
        case hz50 => (intro wS hSw; obtain ⟨_, f0, f1, f2, f3, f4, f5, f6, f7, f8, f9, f10, f11, f12, f13, f14, f15, _, _, _, _, _, _, _, _⟩ := HS.out wS hSw; clear hSw; go_simp; try with_reducible rfl)
        simp only [Act.put, List.getElem_toArray, List.getElem_cons_zero, List.getElem_cons_succ, List.setIfInBounds_toArray, List.set_cons_zero, List.set_cons_succ]
        refine AUS_take (by kernel_rfl) rfl (i := 47) (oi := _) (v := ?vw51) rfl (by kernel_rfl) (by kernel_rfl) (by kernel_rfl) (fun _ _ _ h => h) (Or.inl ⟨by rfl, ?hz51⟩) hHeld ?rst51
        case hz51 => (intro wS hSw; obtain ⟨_, f0, f1, f2, f3, f4, f5, f6, f7, f8, f9, f10, f11, f12, f13, f14, f15, _, _, _, _, _, _, _, _⟩ := HS.out wS hSw; clear hSw; go_simp; try with_reducible rfl)
        simp only [Act.put, List.getElem_toArray, List.getElem_cons_zero, List.getElem_cons_succ, List.setIfInBounds_toArray, List.set_cons_zero, List.set_cons_succ]
        have HH := Lib.hid hHeld
        obtain ⟨hbw, _, _, _, _, _, _, _, _, _, _, _, _, _, _, _, _, gs0, gs1, g20, g21, g22, g23, g24, g25⟩ := HS.out _ hHeld
        refine AU_one (i := 44) (o := _) (by kernel_rfl) rfl (fun K hK => ?_)
        have CC := Lib.hid (owns_m g22 (by omega))
        clear hHeld hbw gs0 gs1 g20 g21 g22 g23 g24 g25
        go_simp
        refine CC.out.mono ?_
        clear CC
        rintro e wz26 ⟨ao26, co26, rfl, hor26, hb⟩
        have hHeld := HH.out.trans (hb.mono HH.out.size)
        clear HH hb
        refine hK.out _ _ (fun _ => hHeld) ?_
        clear hK K
        try simp only [Act.put, List.getElem_toArray, List.getElem_cons_zero, List.getElem_cons_succ, List.setIfInBounds_toArray, List.set_cons_zero, List.set_cons_succ]
        obtain ⟨no26, eno⟩ : ∃ q, (Lab.owns (Lab.put D0 P0 c 0)).length = q := ⟨_, rfl⟩
        rw [eno]
        have ENO26 := Lib.hid eno
        have HOR26 := Lib.hid hor26
        clear eno hor26
        refine AUS_take (by kernel_rfl) rfl (i := 45) (oi := _) (v := ?vw52) rfl (by kernel_rfl) (by kernel_rfl) (by kernel_rfl) (fun _ _ _ h => h) (Or.inl ⟨by rfl, ?hz52⟩) hHeld ?rst52
        case hz52 => (intro wS hSw; obtain ⟨_, f0, f1, f2, f3, f4, f5, f6, f7, f8, f9, f10, f11, f12, f13, f14, f15, _, _, _, _, _, _, _, _⟩ := HS.out wS hSw; clear hSw; go_simp; try with_reducible rfl)
        simp only [Act.put, List.getElem_toArray, List.getElem_cons_zero, List.getElem_cons_succ, List.setIfInBounds_toArray, List.set_cons_zero, List.set_cons_succ]
        have HH := Lib.hid hHeld
        obtain ⟨hbw, _, _, _, _, _, _, _, _, _, _, _, _, _, _, _, _, gs0, gs1, g20, g21, g22, g23, g24, g25⟩ := HS.out _ hHeld
        refine AU_one (i := 48) (o := _) (by kernel_rfl) rfl (fun K hK => ?_)
        have CC := Lib.hid (owns_m g20 (by omega))
        clear hHeld hbw gs0 gs1 g20 g21 g22 g23 g24 g25
        go_simp
        refine CC.out.mono ?_
        clear CC
        rintro e wz27 ⟨ao27, co27, rfl, hor27, hb⟩
        have hHeld := HH.out.trans (hb.mono HH.out.size)
        clear HH hb
        refine hK.out _ _ (fun _ => hHeld) ?_
        clear hK K
        try simp only [Act.put, List.getElem_toArray, List.getElem_cons_zero, List.getElem_cons_succ, List.setIfInBounds_toArray, List.set_cons_zero, List.set_cons_succ]
        obtain ⟨no27, eno⟩ : ∃ q, (Lab.owns P0).length = q := ⟨_, rfl⟩
        rw [eno]
        have ENO27 := Lib.hid eno
        have HOR27 := Lib.hid hor27
        clear eno hor27
        have eow : RowKit.wrap64 ((no27 : Int) + 1) = (no26 : Int) := by have h1 := EO.out; have h2 := EOL.out; rw [ENO26.out, ENO27.out] at h1; rw [ENO27.out] at h2; unfold RowKit.wrap64; omega
        have eow2 : IntKind.i64.wrap ((no27 : Int) + 1) = (no26 : Int) := by have h1 := EO.out; have h2 := EOL.out; rw [ENO26.out, ENO27.out] at h1; rw [ENO27.out] at h2; rw [IntKind.wrap_i64]; omega
        refine AUS_take (by kernel_rfl) rfl (i := 49) (oi := _) (v := ?vw53) rfl (by kernel_rfl) (by kernel_rfl) (by kernel_rfl) (fun _ _ _ h => h) (Or.inl ⟨by rfl, ?hz53⟩) hHeld ?rst53
        case hz53 => (intro wS hSw; obtain ⟨_, f0, f1, f2, f3, f4, f5, f6, f7, f8, f9, f10, f11, f12, f13, f14, f15, _, _, _, _, _, _, _, _⟩ := HS.out wS hSw; clear hSw; go_simp; try with_reducible rfl)
        simp only [Act.put, List.getElem_toArray, List.getElem_cons_zero, List.getElem_cons_succ, List.setIfInBounds_toArray, List.set_cons_zero, List.set_cons_succ]
        refine AUS_take (by kernel_rfl) rfl (i := 50) (oi := _) (v := ?vw54) rfl (by kernel_rfl) (by kernel_rfl) (by kernel_rfl) (fun _ _ _ h => h) (Or.inl ⟨by rfl, ?hz54⟩) hHeld ?rst54
        case hz54 => (intro wS hSw; obtain ⟨_, f0, f1, f2, f3, f4, f5, f6, f7, f8, f9, f10, f11, f12, f13, f14, f15, _, _, _, _, _, _, _, _⟩ := HS.out wS hSw; clear hSw; go_simp; try with_reducible rfl)
        simp only [Act.put, List.getElem_toArray, List.getElem_cons_zero, List.getElem_cons_succ, List.setIfInBounds_toArray, List.set_cons_zero, List.set_cons_succ]
        refine AUS_take (by kernel_rfl) rfl (i := 51) (oi := _) (v := ?vw55) rfl (by kernel_rfl) (by kernel_rfl) (by kernel_rfl) (fun _ _ _ h => h) (Or.inl ⟨by rfl, ?hz55⟩) hHeld ?rst55
        case hz55 => (intro wS hSw; obtain ⟨_, f0, f1, f2, f3, f4, f5, f6, f7, f8, f9, f10, f11, f12, f13, f14, f15, _, _, _, _, _, _, _, _⟩ := HS.out wS hSw; clear hSw; go_simp; try with_reducible rfl)
        simp only [Act.put, List.getElem_toArray, List.getElem_cons_zero, List.getElem_cons_succ, List.setIfInBounds_toArray, List.set_cons_zero, List.set_cons_succ]
        refine AUS_take (by kernel_rfl) rfl (i := 52) (oi := _) (v := ?vw56) rfl (by kernel_rfl) (by kernel_rfl) (by kernel_rfl) (fun _ _ _ h => h) (Or.inl ⟨by rfl, ?hz56⟩) hHeld ?rst56
        case hz56 => (intro wS hSw; obtain ⟨_, f0, f1, f2, f3, f4, f5, f6, f7, f8, f9, f10, f11, f12, f13, f14, f15, _, _, _, _, _, _, _, _⟩ := HS.out wS hSw; clear hSw; go_simp; try with_reducible rfl)
        simp only [Act.put, List.getElem_toArray, List.getElem_cons_zero, List.getElem_cons_succ, List.setIfInBounds_toArray, List.set_cons_zero, List.set_cons_succ]
        refine AUS_take (by kernel_rfl) rfl (i := 53) (oi := _) (v := ?vw57) rfl (by kernel_rfl) (by kernel_rfl) (by kernel_rfl) (fun _ _ _ h => h) (Or.inl ⟨by rfl, ?hz57⟩) hHeld ?rst57
        case hz57 => (intro wS hSw; obtain ⟨_, f0, f1, f2, f3, f4, f5, f6, f7, f8, f9, f10, f11, f12, f13, f14, f15, _, _, _, _, _, _, _, _⟩ := HS.out wS hSw; clear hSw; go_simp; try with_reducible rfl)
        simp only [Act.put, List.getElem_toArray, List.getElem_cons_zero, List.getElem_cons_succ, List.setIfInBounds_toArray, List.set_cons_zero, List.set_cons_succ]
        have HE := Lib.hid hHeld
        clear hHeld
        refine AU_done (by kernel_rfl) ?_ _
        simp only [OnlyN]
        have hHeld := HE.out
        clear HE
        have HE := Lib.hid (HS.out _ hHeld).1
        clear hHeld
        go_wp2_with fail
        go_ret
        exact ⟨rfl, HE.out⟩
      · skip
        subst hc
        refine region_AU (Z := fun j => false) (S := fun w' => Below Xp.heap.size Xp w') (by kernel_rfl) ((Below.refl _ _).drew) (fun hHeld => ?_)
        refine AUS_take (by kernel_rfl) rfl (i := 0) (oi := _) (v := ?vw58) rfl (by kernel_rfl) (by kernel_rfl) (by kernel_rfl) (fun _ _ _ h => h) (Or.inl ⟨by rfl, ?hz58⟩) hHeld ?rst58
        case hz58 => (intro wS hSw; obtain ⟨_, f0, f1, f2, f3, f4, f5, f6, f7, f8, f9, f10, f11, f12, f13, f14, f15, _, _, _, _, _, _, _, _⟩ := HS.out wS hSw; clear hSw; go_simp; try with_reducible rfl)
        simp only [Act.put, List.getElem_toArray, List.getElem_cons_zero, List.getElem_cons_succ, List.setIfInBounds_toArray, List.set_cons_zero, List.set_cons_succ]
        refine AUS_take (by kernel_rfl) rfl (i := 1) (oi := _) (v := ?vw59) rfl (by kernel_rfl) (by kernel_rfl) (by kernel_rfl) (fun _ _ _ h => h) (Or.inl ⟨by rfl, ?hz59⟩) hHeld ?rst59
        case hz59 => (intro wS hSw; obtain ⟨_, f0, f1, f2, f3, f4, f5, f6, f7, f8, f9, f10, f11, f12, f13, f14, f15, _, _, _, _, _, _, _, _⟩ := HS.out wS hSw; clear hSw; go_simp; try with_reducible rfl)
        simp only [Act.put, List.getElem_toArray, List.getElem_cons_zero, List.getElem_cons_succ, List.setIfInBounds_toArray, List.set_cons_zero, List.set_cons_succ]
        refine AUS_take (by kernel_rfl) rfl (i := 2) (oi := _) (v := ?vw60) rfl (by kernel_rfl) (by kernel_rfl) (by kernel_rfl) (fun _ _ _ h => h) (Or.inl ⟨by rfl, ?hz60⟩) hHeld ?rst60
        case hz60 => (intro wS hSw; obtain ⟨_, f0, f1, f2, f3, f4, f5, f6, f7, f8, f9, f10, f11, f12, f13, f14, f15, _, _, _, _, _, _, _, _⟩ := HS.out wS hSw; clear hSw; go_simp; try with_reducible rfl)
        simp only [Act.put, List.getElem_toArray, List.getElem_cons_zero, List.getElem_cons_succ, List.setIfInBounds_toArray, List.set_cons_zero, List.set_cons_succ]
        have HH := Lib.hid hHeld
        obtain ⟨hbw, _, _, _, _, _, _, _, _, _, _, _, _, _, _, _, _, gs0, gs1, g20, g21, g22, g23, g24, g25⟩ := HS.out _ hHeld
        refine AU_one (i := 3) (o := _) (by kernel_rfl) rfl (fun K hK => ?_)
        have CC := at_m c g22
        rw [EA1.out] at CC
        have CC := Lib.hid CC
        clear hHeld hbw gs0 gs1 g20 g21 g22 g23 g24 g25
        go_simp
        refine CC.out.mono ?_
        clear CC
        rintro e wz28 ⟨rfl, hb⟩
        have hHeld := HH.out.trans (hb.mono HH.out.size)
        clear HH hb
        refine hK.out _ _ (fun _ => hHeld) ?_
        clear hK K
        try simp only [Act.put, List.getElem_toArray, List.getElem_cons_zero, List.getElem_cons_succ, List.setIfInBounds_toArray, List.set_cons_zero, List.set_cons_succ]
        refine AUS_take (by kernel_rfl) rfl (i := 4) (oi := _) (v := ?vw61) rfl (by kernel_rfl) (by kernel_rfl) (by kernel_rfl) (fun _ _ _ h => h) (Or.inl ⟨by rfl, ?hz61⟩) hHeld ?rst61
        case hz61 => (intro wS hSw; obtain ⟨_, f0, f1, f2, f3, f4, f5, f6, f7, f8, f9, f10, f11, f12, f13, f14, f15, _, _, _, _, _, _, _, _⟩ := HS.out wS hSw; clear hSw; go_simp; try with_reducible rfl)
        simp only [Act.put, List.getElem_toArray, List.getElem_cons_zero, List.getElem_cons_succ, List.setIfInBounds_toArray, List.set_cons_zero, List.set_cons_succ]
        refine AUS_take (by kernel_rfl) rfl (i := 5) (oi := _) (v := ?vw62) rfl (by kernel_rfl) (by kernel_rfl) (by kernel_rfl) (fun _ _ _ h => h) (Or.inl ⟨by rfl, ?hz62⟩) hHeld ?rst62
        case hz62 => (intro wS hSw; obtain ⟨_, f0, f1, f2, f3, f4, f5, f6, f7, f8, f9, f10, f11, f12, f13, f14, f15, _, _, _, _, _, _, _, _⟩ := HS.out wS hSw; clear hSw; go_simp; try with_reducible rfl)
        simp only [Act.put, List.getElem_toArray, List.getElem_cons_zero, List.getElem_cons_succ, List.setIfInBounds_toArray, List.set_cons_zero, List.set_cons_succ]
        refine AUS_take (by kernel_rfl) rfl (i := 6) (oi := _) (v := ?vw63) rfl (by kernel_rfl) (by kernel_rfl) (by kernel_rfl) (fun _ _ _ h => h) (Or.inl ⟨by rfl, ?hz63⟩) hHeld ?rst63
        case hz63 => (intro wS hSw; obtain ⟨_, f0, f1, f2, f3, f4, f5, f6, f7, f8, f9, f10, f11, f12, f13, f14, f15, _, _, _, _, _, _, _, _⟩ := HS.out wS hSw; clear hSw; go_simp; try with_reducible rfl)
        simp only [Act.put, List.getElem_toArray, List.getElem_cons_zero, List.getElem_cons_succ, List.setIfInBounds_toArray, List.set_cons_zero, List.set_cons_succ]
        refine AUS_take (by kernel_rfl) rfl (i := 7) (oi := _) (v := ?vw64) rfl (by kernel_rfl) (by kernel_rfl) (by kernel_rfl) (fun _ _ _ h => h) (Or.inl ⟨by rfl, ?hz64⟩) hHeld ?rst64
        case hz64 => (intro wS hSw; obtain ⟨_, f0, f1, f2, f3, f4, f5, f6, f7, f8, f9, f10, f11, f12, f13, f14, f15, _, _, _, _, _, _, _, _⟩ := HS.out wS hSw; clear hSw; go_simp; try with_reducible rfl)
        simp only [Act.put, List.getElem_toArray, List.getElem_cons_zero, List.getElem_cons_succ, List.setIfInBounds_toArray, List.set_cons_zero, List.set_cons_succ]
        refine AUS_take (by kernel_rfl) rfl (i := 8) (oi := _) (v := ?vw65) rfl (by kernel_rfl) (by kernel_rfl) (by kernel_rfl) (fun _ _ _ h => h) (Or.inl ⟨by rfl, ?hz65⟩) hHeld ?rst65
        case hz65 => (intro wS hSw; obtain ⟨_, f0, f1, f2, f3, f4, f5, f6, f7, f8, f9, f10, f11, f12, f13, f14, f15, _, _, _, _, _, _, _, _⟩ := HS.out wS hSw; clear hSw; go_simp; try with_reducible rfl)
        simp only [Act.put, List.getElem_toArray, List.getElem_cons_zero, List.getElem_cons_succ, List.setIfInBounds_toArray, List.set_cons_zero, List.set_cons_succ]
        have HH := Lib.hid hHeld
        obtain ⟨hbw, _, _, _, _, _, _, _, _, _, _, _, _, _, _, _, _, gs0, gs1, g20, g21, g22, g23, g24, g25⟩ := HS.out _ hHeld
        refine AU_one (i := 9) (o := _) (by kernel_rfl) rfl (fun K hK => ?_)
        have CC := at_m c g23
        rw [EA2.out] at CC
        have CC := Lib.hid CC
        clear hHeld hbw gs0 gs1 g20 g21 g22 g23 g24 g25
        go_simp
        refine CC.out.mono ?_
        clear CC
        rintro e wz29 ⟨rfl, hb⟩
        have hHeld := HH.out.trans (hb.mono HH.out.size)
        clear HH hb
        refine hK.out _ _ (fun _ => hHeld) ?_
        clear hK K
        try simp only [Act.put, List.getElem_toArray, List.getElem_cons_zero, List.getElem_cons_succ, List.setIfInBounds_toArray, List.set_cons_zero, List.set_cons_succ]
        refine AUS_take (by kernel_rfl) rfl (i := 10) (oi := _) (v := ?vw66) rfl (by kernel_rfl) (by kernel_rfl) (by kernel_rfl) (fun _ _ _ h => h) (Or.inl ⟨by rfl, ?hz66⟩) hHeld ?rst66
        case hz66 => (intro wS hSw; obtain ⟨_, f0, f1, f2, f3, f4, f5, f6, f7, f8, f9, f10, f11, f12, f13, f14, f15, _, _, _, _, _, _, _, _⟩ := HS.out wS hSw; clear hSw; go_simp; try with_reducible rfl)
        simp only [Act.put, List.getElem_toArray, List.getElem_cons_zero, List.getElem_cons_succ, List.setIfInBounds_toArray, List.set_cons_zero, List.set_cons_succ]
        refine AUS_take (by kernel_rfl) rfl (i := 11) (oi := _) (v := ?vw67) rfl (by kernel_rfl) (by kernel_rfl) (by kernel_rfl) (fun _ _ _ h => h) (Or.inl ⟨by rfl, ?hz67⟩) hHeld ?rst67
        case hz67 => (intro wS hSw; obtain ⟨_, f0, f1, f2, f3, f4, f5, f6, f7, f8, f9, f10, f11, f12, f13, f14, f15, _, _, _, _, _, _, _, _⟩ := HS.out wS hSw; clear hSw; go_simp; try with_reducible rfl)
        simp only [Act.put, List.getElem_toArray, List.getElem_cons_zero, List.getElem_cons_succ, List.setIfInBounds_toArray, List.set_cons_zero, List.set_cons_succ]
        refine AUS_take (by kernel_rfl) rfl (i := 12) (oi := _) (v := ?vw68) rfl (by kernel_rfl) (by kernel_rfl) (by kernel_rfl) (fun _ _ _ h => h) (Or.inl ⟨by rfl, ?hz68⟩) hHeld ?rst68
        case hz68 => (intro wS hSw; obtain ⟨_, f0, f1, f2, f3, f4, f5, f6, f7, f8, f9, f10, f11, f12, f13, f14, f15, _, _, _, _, _, _, _, _⟩ := HS.out wS hSw; clear hSw; go_simp; try with_reducible rfl)
        simp only [Act.put, List.getElem_toArray, List.getElem_cons_zero, List.getElem_cons_succ, List.setIfInBounds_toArray, List.set_cons_zero, List.set_cons_succ]
        refine AUS_take (by kernel_rfl) rfl (i := 13) (oi := _) (v := ?vw69) rfl (by kernel_rfl) (by kernel_rfl) (by kernel_rfl) (fun _ _ _ h => h) (Or.inl ⟨by rfl, ?hz69⟩) hHeld ?rst69
        case hz69 => (intro wS hSw; obtain ⟨_, f0, f1, f2, f3, f4, f5, f6, f7, f8, f9, f10, f11, f12, f13, f14, f15, _, _, _, _, _, _, _, _⟩ := HS.out wS hSw; clear hSw; go_simp; try with_reducible rfl)
        simp only [Act.put, List.getElem_toArray, List.getElem_cons_zero, List.getElem_cons_succ, List.setIfInBounds_toArray, List.set_cons_zero, List.set_cons_succ]
        refine AUS_take (by kernel_rfl) rfl (i := 14) (oi := _) (v := ?vw70) rfl (by kernel_rfl) (by kernel_rfl) (by kernel_rfl) (fun _ _ _ h => h) (Or.inl ⟨by rfl, ?hz70⟩) hHeld ?rst70
        case hz70 => (intro wS hSw; obtain ⟨_, f0, f1, f2, f3, f4, f5, f6, f7, f8, f9, f10, f11, f12, f13, f14, f15, _, _, _, _, _, _, _, _⟩ := HS.out wS hSw; clear hSw; go_simp; try with_reducible rfl)
        simp only [Act.put, List.getElem_toArray, List.getElem_cons_zero, List.getElem_cons_succ, List.setIfInBounds_toArray, List.set_cons_zero, List.set_cons_succ]
        refine AUS_take (by kernel_rfl) rfl (i := 15) (oi := _) (v := ?vw71) rfl (by kernel_rfl) (by kernel_rfl) (by kernel_rfl) (fun _ _ _ h => h) (Or.inl ⟨by rfl, ?hz71⟩) hHeld ?rst71
        case hz71 => (intro wS hSw; obtain ⟨_, f0, f1, f2, f3, f4, f5, f6, f7, f8, f9, f10, f11, f12, f13, f14, f15, _, _, _, _, _, _, _, _⟩ := HS.out wS hSw; clear hSw; go_simp; try with_reducible rfl)
        simp only [Act.put, List.getElem_toArray, List.getElem_cons_zero, List.getElem_cons_succ, List.setIfInBounds_toArray, List.set_cons_zero, List.set_cons_succ]
        have HH := Lib.hid hHeld
        obtain ⟨hbw, _, _, _, _, _, _, _, _, _, _, _, _, _, _, _, _, gs0, gs1, g20, g21, g22, g23, g24, g25⟩ := HS.out _ hHeld
        refine AU_one (i := 16) (o := _) (by kernel_rfl) rfl (fun K hK => ?_)
        have CC := change_m (g22.mono (by omega)) (g24.mono (by omega))
        rw [EC1.out] at CC
        have CC := Lib.hid CC
        clear hHeld hbw gs0 gs1 g20 g21 g22 g23 g24 g25
        go_simp
        refine CC.out.mono ?_
        clear CC
        rintro e wz30 ⟨rfl, hb⟩
        have hHeld := HH.out.trans (hb.mono HH.out.size)
        clear HH hb
        refine hK.out _ _ (fun _ => hHeld) ?_
        clear hK K
        try simp only [Act.put, List.getElem_toArray, List.getElem_cons_zero, List.getElem_cons_succ, List.setIfInBounds_toArray, List.set_cons_zero, List.set_cons_succ]
        refine AUS_take (by kernel_rfl) rfl (i := 17) (oi := _) (v := ?vw72) rfl (by kernel_rfl) (by kernel_rfl) (by kernel_rfl) (fun _ _ _ h => h) (Or.inl ⟨by rfl, ?hz72⟩) hHeld ?rst72
        case hz72 => (intro wS hSw; obtain ⟨_, f0, f1, f2, f3, f4, f5, f6, f7, f8, f9, f10, f11, f12, f13, f14, f15, _, _, _, _, _, _, _, _⟩ := HS.out wS hSw; clear hSw; go_simp; try with_reducible rfl)
        simp only [Act.put, List.getElem_toArray, List.getElem_cons_zero, List.getElem_cons_succ, List.setIfInBounds_toArray, List.set_cons_zero, List.set_cons_succ]
        refine AUS_take (by kernel_rfl) rfl (i := 18) (oi := _) (v := ?vw73) rfl (by kernel_rfl) (by kernel_rfl) (by kernel_rfl) (fun _ _ _ h => h) (Or.inl ⟨by rfl, ?hz73⟩) hHeld ?rst73
        case hz73 => (intro wS hSw; obtain ⟨_, f0, f1, f2, f3, f4, f5, f6, f7, f8, f9, f10, f11, f12, f13, f14, f15, _, _, _, _, _, _, _, _⟩ := HS.out wS hSw; clear hSw; go_simp; try with_reducible rfl)
        simp only [Act.put, List.getElem_toArray, List.getElem_cons_zero, List.getElem_cons_succ, List.setIfInBounds_toArray, List.set_cons_zero, List.set_cons_succ]
        refine AUS_take (by kernel_rfl) rfl (i := 19) (oi := _) (v := ?vw74) rfl (by kernel_rfl) (by kernel_rfl) (by kernel_rfl) (fun _ _ _ h => h) (Or.inl ⟨by rfl, ?hz74⟩) hHeld ?rst74
        case hz74 => (intro wS hSw; obtain ⟨_, f0, f1, f2, f3, f4, f5, f6, f7, f8, f9, f10, f11, f12, f13, f14, f15, _, _, _, _, _, _, _, _⟩ := HS.out wS hSw; clear hSw; go_simp; try with_reducible rfl)
        simp only [Act.put, List.getElem_toArray, List.getElem_cons_zero, List.getElem_cons_succ, List.setIfInBounds_toArray, List.set_cons_zero, List.set_cons_succ]
        refine AUS_take (by kernel_rfl) rfl (i := 20) (oi := _) (v := ?vw75) rfl (by kernel_rfl) (by kernel_rfl) (by kernel_rfl) (fun _ _ _ h => h) (Or.inl ⟨by rfl, ?hz75⟩) hHeld ?rst75
        case hz75 => (intro wS hSw; obtain ⟨_, f0, f1, f2, f3, f4, f5, f6, f7, f8, f9, f10, f11, f12, f13, f14, f15, _, _, _, _, _, _, _, _⟩ := HS.out wS hSw; clear hSw; go_simp; try with_reducible rfl)
        simp only [Act.put, List.getElem_toArray, List.getElem_cons_zero, List.getElem_cons_succ, List.setIfInBounds_toArray, List.set_cons_zero, List.set_cons_succ]
        refine AUS_take (by kernel_rfl) rfl (i := 21) (oi := _) (v := ?vw76) rfl (by kernel_rfl) (by kernel_rfl) (by kernel_rfl) (fun _ _ _ h => h) (Or.inl ⟨by rfl, ?hz76⟩) hHeld ?rst76
        case hz76 => (intro wS hSw; obtain ⟨_, f0, f1, f2, f3, f4, f5, f6, f7, f8, f9, f10, f11, f12, f13, f14, f15, _, _, _, _, _, _, _, _⟩ := HS.out wS hSw; clear hSw; go_simp; try with_reducible rfl)
        simp only [Act.put, List.getElem_toArray, List.getElem_cons_zero, List.getElem_cons_succ, List.setIfInBounds_toArray, List.set_cons_zero, List.set_cons_succ]
        refine AUS_take (by kernel_rfl) rfl (i := 23) (oi := _) (v := ?vw77) rfl (by kernel_rfl) (by kernel_rfl) (by kernel_rfl) (fun _ _ _ h => h) (Or.inl ⟨by rfl, ?hz77⟩) hHeld ?rst77
        case hz77 => (intro wS hSw; obtain ⟨_, f0, f1, f2, f3, f4, f5, f6, f7, f8, f9, f10, f11, f12, f13, f14, f15, _, _, _, _, _, _, _, _⟩ := HS.out wS hSw; clear hSw; go_simp; try with_reducible rfl)
        simp only [Act.put, List.getElem_toArray, List.getElem_cons_zero, List.getElem_cons_succ, List.setIfInBounds_toArray, List.set_cons_zero, List.set_cons_succ]
        have HH := Lib.hid hHeld
        obtain ⟨hbw, _, _, _, _, _, _, _, _, _, _, _, _, _, _, _, _, gs0, gs1, g20, g21, g22, g23, g24, g25⟩ := HS.out _ hHeld
        refine AU_one (i := 22) (o := _) (by kernel_rfl) rfl (fun K hK => ?_)
        have CC := at_m c g20
        rw [EA3.out] at CC
        have CC := Lib.hid CC
        clear hHeld hbw gs0 gs1 g20 g21 g22 g23 g24 g25
        go_simp
        refine CC.out.mono ?_
        clear CC
        rintro e wz31 ⟨rfl, hb⟩
        have hHeld := HH.out.trans (hb.mono HH.out.size)
        clear HH hb
        refine hK.out _ _ (fun _ => hHeld) ?_
        clear hK K
        try simp only [Act.put, List.getElem_toArray, List.getElem_cons_zero, List.getElem_cons_succ, List.setIfInBounds_toArray, List.set_cons_zero, List.set_cons_succ]
        refine AUS_take (by kernel_rfl) rfl (i := 24) (oi := _) (v := ?vw78) rfl (by kernel_rfl) (by kernel_rfl) (by kernel_rfl) (fun _ _ _ h => h) (Or.inl ⟨by rfl, ?hz78⟩) hHeld ?rst78
        case hz78 => (intro wS hSw; obtain ⟨_, f0, f1, f2, f3, f4, f5, f6, f7, f8, f9, f10, f11, f12, f13, f14, f15, _, _, _, _, _, _, _, _⟩ := HS.out wS hSw; clear hSw; go_simp; try with_reducible rfl)
        simp only [Act.put, List.getElem_toArray, List.getElem_cons_zero, List.getElem_cons_succ, List.setIfInBounds_toArray, List.set_cons_zero, List.set_cons_succ]
        refine AUS_take (by kernel_rfl) rfl (i := 25) (oi := _) (v := ?vw79) rfl (by kernel_rfl) (by kernel_rfl) (by kernel_rfl) (fun _ _ _ h => h) (Or.inl ⟨by rfl, ?hz79⟩) hHeld ?rst79
        case hz79 => (intro wS hSw; obtain ⟨_, f0, f1, f2, f3, f4, f5, f6, f7, f8, f9, f10, f11, f12, f13, f14, f15, _, _, _, _, _, _, _, _⟩ := HS.out wS hSw; clear hSw; go_simp; try with_reducible rfl)
        simp only [Act.put, List.getElem_toArray, List.getElem_cons_zero, List.getElem_cons_succ, List.setIfInBounds_toArray, List.set_cons_zero, List.set_cons_succ]
        refine AUS_take (by kernel_rfl) rfl (i := 26) (oi := _) (v := undef) rfl (by kernel_rfl) (by kernel_rfl) (by kernel_rfl) (fun _ _ _ h => h) (Or.inr ⟨by rfl, rfl⟩) hHeld ?rst80
        try simp only [Act.put, List.getElem_toArray, List.getElem_cons_zero, List.getElem_cons_succ, List.setIfInBounds_toArray, List.set_cons_zero, List.set_cons_succ]
        refine AUS_take (by kernel_rfl) rfl (i := 27) (oi := _) (v := undef) rfl (by kernel_rfl) (by kernel_rfl) (by kernel_rfl) (fun _ _ _ h => h) (Or.inr ⟨by rfl, rfl⟩) hHeld ?rst81
        try simp only [Act.put, List.getElem_toArray, List.getElem_cons_zero, List.getElem_cons_succ, List.setIfInBounds_toArray, List.set_cons_zero, List.set_cons_succ]
        refine AUS_take (by kernel_rfl) rfl (i := 28) (oi := _) (v := undef) rfl (by kernel_rfl) (by kernel_rfl) (by kernel_rfl) (fun _ _ _ h => h) (Or.inr ⟨by rfl, rfl⟩) hHeld ?rst82
        try simp only [Act.put, List.getElem_toArray, List.getElem_cons_zero, List.getElem_cons_succ, List.setIfInBounds_toArray, List.set_cons_zero, List.set_cons_succ]
        refine AUS_take (by kernel_rfl) rfl (i := 29) (oi := _) (v := undef) rfl (by kernel_rfl) (by kernel_rfl) (by kernel_rfl) (fun _ _ _ h => h) (Or.inr ⟨by rfl, rfl⟩) hHeld ?rst83
        try simp only [Act.put, List.getElem_toArray, List.getElem_cons_zero, List.getElem_cons_succ, List.setIfInBounds_toArray, List.set_cons_zero, List.set_cons_succ]
        refine AUS_take (by kernel_rfl) rfl (i := 30) (oi := _) (v := undef) rfl (by kernel_rfl) (by kernel_rfl) (by kernel_rfl) (fun _ _ _ h => h) (Or.inr ⟨by rfl, rfl⟩) hHeld ?rst84
        try simp only [Act.put, List.getElem_toArray, List.getElem_cons_zero, List.getElem_cons_succ, List.setIfInBounds_toArray, List.set_cons_zero, List.set_cons_succ]
        refine AUS_take (by kernel_rfl) rfl (i := 31) (oi := _) (v := undef) rfl (by kernel_rfl) (by kernel_rfl) (by kernel_rfl) (fun _ _ _ h => h) (Or.inr ⟨by rfl, rfl⟩) hHeld ?rst85
        try simp only [Act.put, List.getElem_toArray, List.getElem_cons_zero, List.getElem_cons_succ, List.setIfInBounds_toArray, List.set_cons_zero, List.set_cons_succ]
        refine AUS_take (by kernel_rfl) rfl (i := 32) (oi := _) (v := ?vw86) rfl (by kernel_rfl) (by kernel_rfl) (by kernel_rfl) (fun _ _ _ h => h) (Or.inl ⟨by rfl, ?hz86⟩) hHeld ?rst86
        case hz86 => (intro wS hSw; obtain ⟨_, f0, f1, f2, f3, f4, f5, f6, f7, f8, f9, f10, f11, f12, f13, f14, f15, _, _, _, _, _, _, _, _⟩ := HS.out wS hSw; clear hSw; go_simp; try with_reducible rfl)
        simp only [Act.put, List.getElem_toArray, List.getElem_cons_zero, List.getElem_cons_succ, List.setIfInBounds_toArray, List.set_cons_zero, List.set_cons_succ]
        refine AUS_take (by kernel_rfl) rfl (i := 33) (oi := _) (v := ?vw87) rfl (by kernel_rfl) (by kernel_rfl) (by kernel_rfl) (fun _ _ _ h => h) (Or.inl ⟨by rfl, ?hz87⟩) hHeld ?rst87
        case hz87 => (intro wS hSw; obtain ⟨_, f0, f1, f2, f3, f4, f5, f6, f7, f8, f9, f10, f11, f12, f13, f14, f15, _, _, _, _, _, _, _, _⟩ := HS.out wS hSw; clear hSw; go_simp; try with_reducible rfl)
        simp only [Act.put, List.getElem_toArray, List.getElem_cons_zero, List.getElem_cons_succ, List.setIfInBounds_toArray, List.set_cons_zero, List.set_cons_succ]
        refine AUS_take (by kernel_rfl) rfl (i := 34) (oi := _) (v := undef) rfl (by kernel_rfl) (by kernel_rfl) (by kernel_rfl) (fun _ _ _ h => h) (Or.inr ⟨by rfl, rfl⟩) hHeld ?rst88
        try simp only [Act.put, List.getElem_toArray, List.getElem_cons_zero, List.getElem_cons_succ, List.setIfInBounds_toArray, List.set_cons_zero, List.set_cons_succ]
        refine AUS_take (by kernel_rfl) rfl (i := 35) (oi := _) (v := undef) rfl (by kernel_rfl) (by kernel_rfl) (by kernel_rfl) (fun _ _ _ h => h) (Or.inr ⟨by rfl, rfl⟩) hHeld ?rst89
        try simp only [Act.put, List.getElem_toArray, List.getElem_cons_zero, List.getElem_cons_succ, List.setIfInBounds_toArray, List.set_cons_zero, List.set_cons_succ]
        refine AUS_take (by kernel_rfl) rfl (i := 36) (oi := _) (v := undef) rfl (by kernel_rfl) (by kernel_rfl) (by kernel_rfl) (fun _ _ _ h => h) (Or.inr ⟨by rfl, rfl⟩) hHeld ?rst90
        try simp only [Act.put, List.getElem_toArray, List.getElem_cons_zero, List.getElem_cons_succ, List.setIfInBounds_toArray, List.set_cons_zero, List.set_cons_succ]
        refine AUS_take (by kernel_rfl) rfl (i := 37) (oi := _) (v := undef) rfl (by kernel_rfl) (by kernel_rfl) (by kernel_rfl) (fun _ _ _ h => h) (Or.inr ⟨by rfl, rfl⟩) hHeld ?rst91
        try simp only [Act.put, List.getElem_toArray, List.getElem_cons_zero, List.getElem_cons_succ, List.setIfInBounds_toArray, List.set_cons_zero, List.set_cons_succ]
        refine AUS_take (by kernel_rfl) rfl (i := 38) (oi := _) (v := undef) rfl (by kernel_rfl) (by kernel_rfl) (by kernel_rfl) (fun _ _ _ h => h) (Or.inr ⟨by rfl, rfl⟩) hHeld ?rst92
        try simp only [Act.put, List.getElem_toArray, List.getElem_cons_zero, List.getElem_cons_succ, List.setIfInBounds_toArray, List.set_cons_zero, List.set_cons_succ]
        refine AUS_take (by kernel_rfl) rfl (i := 39) (oi := _) (v := ?vw93) rfl (by kernel_rfl) (by kernel_rfl) (by kernel_rfl) (fun _ _ _ h => h) (Or.inl ⟨by rfl, ?hz93⟩) hHeld ?rst93
        case hz93 => (intro wS hSw; obtain ⟨_, f0, f1, f2, f3, f4, f5, f6, f7, f8, f9, f10, f11, f12, f13, f14, f15, _, _, _, _, _, _, _, _⟩ := HS.out wS hSw; clear hSw; go_simp; try with_reducible rfl)
        simp only [Act.put, List.getElem_toArray, List.getElem_cons_zero, List.getElem_cons_succ, List.setIfInBounds_toArray, List.set_cons_zero, List.set_cons_succ]
        refine AUS_take (by kernel_rfl) rfl (i := 40) (oi := _) (v := ?vw94) rfl (by kernel_rfl) (by kernel_rfl) (by kernel_rfl) (fun _ _ _ h => h) (Or.inl ⟨by rfl, ?hz94⟩) hHeld ?rst94
        case hz94 => (intro wS hSw; obtain ⟨_, f0, f1, f2, f3, f4, f5, f6, f7, f8, f9, f10, f11, f12, f13, f14, f15, _, _, _, _, _, _, _, _⟩ := HS.out wS hSw; clear hSw; go_simp; try with_reducible rfl)
        simp only [Act.put, List.getElem_toArray, List.getElem_cons_zero, List.getElem_cons_succ, List.setIfInBounds_toArray, List.set_cons_zero, List.set_cons_succ]
        refine AUS_take (by kernel_rfl) rfl (i := 41) (oi := _) (v := ?vw95) rfl (by kernel_rfl) (by kernel_rfl) (by kernel_rfl) (fun _ _ _ h => h) (Or.inl ⟨by rfl, ?hz95⟩) hHeld ?rst95
        case hz95 => (intro wS hSw; obtain ⟨_, f0, f1, f2, f3, f4, f5, f6, f7, f8, f9, f10, f11, f12, f13, f14, f15, _, _, _, _, _, _, _, _⟩ := HS.out wS hSw; clear hSw; go_simp; try with_reducible rfl)
        simp only [Act.put, List.getElem_toArray, List.getElem_cons_zero, List.getElem_cons_succ, List.setIfInBounds_toArray, List.set_cons_zero, List.set_cons_succ]
        refine AUS_take (by kernel_rfl) rfl (i := 42) (oi := _) (v := ?vw96) rfl (by kernel_rfl) (by kernel_rfl) (by kernel_rfl) (fun _ _ _ h => h) (Or.inl ⟨by rfl, ?hz96⟩) hHeld ?rst96
        case hz96 => (intro wS hSw; obtain ⟨_, f0, f1, f2, f3, f4, f5, f6, f7, f8, f9, f10, f11, f12, f13, f14, f15, _, _, _, _, _, _, _, _⟩ := HS.out wS hSw; clear hSw; go_simp; try with_reducible rfl)
        simp only [Act.put, List.getElem_toArray, List.getElem_cons_zero, List.getElem_cons_succ, List.setIfInBounds_toArray, List.set_cons_zero, List.set_cons_succ]
        refine AUS_take (by kernel_rfl) rfl (i := 43) (oi := _) (v := ?vw97) rfl (by kernel_rfl) (by kernel_rfl) (by kernel_rfl) (fun _ _ _ h => h) (Or.inl ⟨by rfl, ?hz97⟩) hHeld ?rst97
        case hz97 => (intro wS hSw; obtain ⟨_, f0, f1, f2, f3, f4, f5, f6, f7, f8, f9, f10, f11, f12, f13, f14, f15, _, _, _, _, _, _, _, _⟩ := HS.out wS hSw; clear hSw; go_simp; try with_reducible rfl)
        simp only [Act.put, List.getElem_toArray, List.getElem_cons_zero, List.getElem_cons_succ, List.setIfInBounds_toArray, List.set_cons_zero, List.set_cons_succ]
        refine AUS_take (by kernel_rfl) rfl (i := 46) (oi := _) (v := ?vw98) rfl (by kernel_rfl) (by kernel_rfl) (by kernel_rfl) (fun _ _ _ h => h) (Or.inl ⟨by rfl, ?hz98⟩) hHeld ?rst98
        case hz98 => (intro wS hSw; obtain ⟨_, f0, f1, f2, f3, f4, f5, f6, f7, f8, f9, f10, f11, f12, f13, f14, f15, _, _, _, _, _, _, _, _⟩ := HS.out wS hSw; clear hSw; go_simp; try with_reducible rfl)
        simp only [Act.put, List.getElem_toArray, List.getElem_cons_zero, List.getElem_cons_succ, List.setIfInBounds_toArray, List.set_cons_zero, List.set_cons_succ]
        refine AUS_take (by kernel_rfl) rfl (i := 47) (oi := _) (v := ?vw99) rfl (by kernel_rfl) (by kernel_rfl) (by kernel_rfl) (fun _ _ _ h => h) (Or.inl ⟨by rfl, ?hz99⟩) hHeld ?rst99
        case hz99 => (intro wS hSw; obtain ⟨_, f0, f1, f2, f3, f4, f5, f6, f7, f8, f9, f10, f11, f12, f13, f14, f15, _, _, _, _, _, _, _, _⟩ := HS.out wS hSw; clear hSw; go_simp; try with_reducible rfl)
        simp only [Act.put, List.getElem_toArray, List.getElem_cons_zero, List.getElem_cons_succ, List.setIfInBounds_toArray, List.set_cons_zero, List.set_cons_succ]
        have HH := Lib.hid hHeld
        obtain ⟨hbw, _, _, _, _, _, _, _, _, _, _, _, _, _, _, _, _, gs0, gs1, g20, g21, g22, g23, g24, g25⟩ := HS.out _ hHeld
        refine AU_one (i := 44) (o := _) (by kernel_rfl) rfl (fun K hK => ?_)
        have CC := Lib.hid (owns_m g22 (by omega))
        clear hHeld hbw gs0 gs1 g20 g21 g22 g23 g24 g25
        go_simp
        refine CC.out.mono ?_
        clear CC
        rintro e wz32 ⟨ao32, co32, rfl, hor32, hb⟩
        have hHeld := HH.out.trans (hb.mono HH.out.size)
        clear HH hb
        refine hK.out _ _ (fun _ => hHeld) ?_
        clear hK K
        try simp only [Act.put, List.getElem_toArray, List.getElem_cons_zero, List.getElem_cons_succ, List.setIfInBounds_toArray, List.set_cons_zero, List.set_cons_succ]
        obtain ⟨no32, eno⟩ : ∃ q, (Lab.owns (Lab.put D0 P0 c 0)).length = q := ⟨_, rfl⟩
        rw [eno]
        have ENO32 := Lib.hid eno
        have HOR32 := Lib.hid hor32
        clear eno hor32
        refine AUS_take (by kernel_rfl) rfl (i := 45) (oi := _) (v := ?vw100) rfl (by kernel_rfl) (by kernel_rfl) (by kernel_rfl) (fun _ _ _ h => h) (Or.inl ⟨by rfl, ?hz100⟩) hHeld ?rst100
        case hz100 => (intro wS hSw; obtain ⟨_, f0, f1, f2, f3, f4, f5, f6, f7, f8, f9, f10, f11, f12, f13, f14, f15, _, _, _, _, _, _, _, _⟩ := HS.out wS hSw; clear hSw; go_simp; try with_reducible rfl)
        simp only [Act.put, List.getElem_toArray, List.getElem_cons_zero, List.getElem_cons_succ, List.setIfInBounds_toArray, List.set_cons_zero, List.set_cons_succ]
        have HH := Lib.hid hHeld
        obtain ⟨hbw, _, _, _, _, _, _, _, _, _, _, _, _, _, _, _, _, gs0, gs1, g20, g21, g22, g23, g24, g25⟩ := HS.out _ hHeld
        refine AU_one (i := 48) (o := _) (by kernel_rfl) rfl (fun K hK => ?_)
        have CC := Lib.hid (owns_m g20 (by omega))
        clear hHeld hbw gs0 gs1 g20 g21 g22 g23 g24 g25
        go_simp
        refine CC.out.mono ?_
        clear CC
        rintro e wz33 ⟨ao33, co33, rfl, hor33, hb⟩
        have hHeld := HH.out.trans (hb.mono HH.out.size)
        clear HH hb
        refine hK.out _ _ (fun _ => hHeld) ?_
        clear hK K
        try simp only [Act.put, List.getElem_toArray, List.getElem_cons_zero, List.getElem_cons_succ, List.setIfInBounds_toArray, List.set_cons_zero, List.set_cons_succ]
        obtain ⟨no33, eno⟩ : ∃ q, (Lab.owns P0).length = q := ⟨_, rfl⟩
        rw [eno]
        have ENO33 := Lib.hid eno
        have HOR33 := Lib.hid hor33
        clear eno hor33
        have eow : RowKit.wrap64 ((no33 : Int) + 1) = (no32 : Int) := by have h1 := EO.out; have h2 := EOL.out; rw [ENO32.out, ENO33.out] at h1; rw [ENO33.out] at h2; unfold RowKit.wrap64; omega
        have eow2 : IntKind.i64.wrap ((no33 : Int) + 1) = (no32 : Int) := by have h1 := EO.out; have h2 := EOL.out; rw [ENO32.out, ENO33.out] at h1; rw [ENO33.out] at h2; rw [IntKind.wrap_i64]; omega
        refine AUS_take (by kernel_rfl) rfl (i := 49) (oi := _) (v := ?vw101) rfl (by kernel_rfl) (by kernel_rfl) (by kernel_rfl) (fun _ _ _ h => h) (Or.inl ⟨by rfl, ?hz101⟩) hHeld ?rst101
        case hz101 => (intro wS hSw; obtain ⟨_, f0, f1, f2, f3, f4, f5, f6, f7, f8, f9, f10, f11, f12, f13, f14, f15, _, _, _, _, _, _, _, _⟩ := HS.out wS hSw; clear hSw; go_simp; try with_reducible rfl)
        simp only [Act.put, List.getElem_toArray, List.getElem_cons_zero, List.getElem_cons_succ, List.setIfInBounds_toArray, List.set_cons_zero, List.set_cons_succ]
        refine AUS_take (by kernel_rfl) rfl (i := 50) (oi := _) (v := ?vw102) rfl (by kernel_rfl) (by kernel_rfl) (by kernel_rfl) (fun _ _ _ h => h) (Or.inl ⟨by rfl, ?hz102⟩) hHeld ?rst102
        case hz102 => (intro wS hSw; obtain ⟨_, f0, f1, f2, f3, f4, f5, f6, f7, f8, f9, f10, f11, f12, f13, f14, f15, _, _, _, _, _, _, _, _⟩ := HS.out wS hSw; clear hSw; go_simp; try with_reducible rfl)
        simp only [Act.put, List.getElem_toArray, List.getElem_cons_zero, List.getElem_cons_succ, List.setIfInBounds_toArray, List.set_cons_zero, List.set_cons_succ]
        refine AUS_take (by kernel_rfl) rfl (i := 51) (oi := _) (v := ?vw103) rfl (by kernel_rfl) (by kernel_rfl) (by kernel_rfl) (fun _ _ _ h => h) (Or.inl ⟨by rfl, ?hz103⟩) hHeld ?rst103
        case hz103 => (intro wS hSw; obtain ⟨_, f0, f1, f2, f3, f4, f5, f6, f7, f8, f9, f10, f11, f12, f13, f14, f15, _, _, _, _, _, _, _, _⟩ := HS.out wS hSw; clear hSw; go_simp; try with_reducible rfl)
        simp only [Act.put, List.getElem_toArray, List.getElem_cons_zero, List.getElem_cons_succ, List.setIfInBounds_toArray, List.set_cons_zero, List.set_cons_succ]
        refine AUS_take (by kernel_rfl) rfl (i := 52) (oi := _) (v := ?vw104) rfl (by kernel_rfl) (by kernel_rfl) (by kernel_rfl) (fun _ _ _ h => h) (Or.inl ⟨by rfl, ?hz104⟩) hHeld ?rst104
        case hz104 => (intro wS hSw; obtain ⟨_, f0, f1, f2, f3, f4, f5, f6, f7, f8, f9, f10, f11, f12, f13, f14, f15, _, _, _, _, _, _, _, _⟩ := HS.out wS hSw; clear hSw; go_simp; try with_reducible rfl)
        simp only [Act.put, List.getElem_toArray, List.getElem_cons_zero, List.getElem_cons_succ, List.setIfInBounds_toArray, List.set_cons_zero, List.set_cons_succ]
        refine AUS_take (by kernel_rfl) rfl (i := 53) (oi := _) (v := ?vw105) rfl (by kernel_rfl) (by kernel_rfl) (by kernel_rfl) (fun _ _ _ h => h) (Or.inl ⟨by rfl, ?hz105⟩) hHeld ?rst105
        case hz105 => (intro wS hSw; obtain ⟨_, f0, f1, f2, f3, f4, f5, f6, f7, f8, f9, f10, f11, f12, f13, f14, f15, _, _, _, _, _, _, _, _⟩ := HS.out wS hSw; clear hSw; go_simp; try with_reducible rfl)
        simp only [Act.put, List.getElem_toArray, List.getElem_cons_zero, List.getElem_cons_succ, List.setIfInBounds_toArray, List.set_cons_zero, List.set_cons_succ]
        have HE := Lib.hid hHeld
        clear hHeld
        refine AU_done (by kernel_rfl) ?_ _
        simp only [OnlyN]
        have hHeld := HE.out
        clear HE
        have HE := Lib.hid (HS.out _ hHeld).1
        clear hHeld
        go_wp2_with fail
        go_ret
        exact ⟨rfl, HE.out⟩
      · skip
        have t1 : (D0 == lv) = false := by simp; omega
        have t2 : ¬ D0 = lv := by omega
        have t3 : lv < D0 := hc
        have t4 : decide (lv < D0) = true := by simp; omega
        have t5 : D0 > lv := hc
        refine region_AU (Z := fun j => false) (S := fun w' => Below Xp.heap.size Xp w') (by kernel_rfl) ((Below.refl _ _).drew) (fun hHeld => ?_)
        refine AUS_take (by kernel_rfl) rfl (i := 0) (oi := _) (v := ?vw106) rfl (by kernel_rfl) (by kernel_rfl) (by kernel_rfl) (fun _ _ _ h => h) (Or.inl ⟨by rfl, ?hz106⟩) hHeld ?rst106
        case hz106 => (intro wS hSw; obtain ⟨_, f0, f1, f2, f3, f4, f5, f6, f7, f8, f9, f10, f11, f12, f13, f14, f15, _, _, _, _, _, _, _, _⟩ := HS.out wS hSw; clear hSw; go_simp; try with_reducible rfl)
        simp only [Act.put, List.getElem_toArray, List.getElem_cons_zero, List.getElem_cons_succ, List.setIfInBounds_toArray, List.set_cons_zero, List.set_cons_succ]
        refine AUS_take (by kernel_rfl) rfl (i := 1) (oi := _) (v := ?vw107) rfl (by kernel_rfl) (by kernel_rfl) (by kernel_rfl) (fun _ _ _ h => h) (Or.inl ⟨by rfl, ?hz107⟩) hHeld ?rst107
        case hz107 => (intro wS hSw; obtain ⟨_, f0, f1, f2, f3, f4, f5, f6, f7, f8, f9, f10, f11, f12, f13, f14, f15, _, _, _, _, _, _, _, _⟩ := HS.out wS hSw; clear hSw; go_simp; try with_reducible rfl)
        simp only [Act.put, List.getElem_toArray, List.getElem_cons_zero, List.getElem_cons_succ, List.setIfInBounds_toArray, List.set_cons_zero, List.set_cons_succ]
        refine AUS_take (by kernel_rfl) rfl (i := 2) (oi := _) (v := ?vw108) rfl (by kernel_rfl) (by kernel_rfl) (by kernel_rfl) (fun _ _ _ h => h) (Or.inl ⟨by rfl, ?hz108⟩) hHeld ?rst108
        case hz108 => (intro wS hSw; obtain ⟨_, f0, f1, f2, f3, f4, f5, f6, f7, f8, f9, f10, f11, f12, f13, f14, f15, _, _, _, _, _, _, _, _⟩ := HS.out wS hSw; clear hSw; go_simp; try with_reducible rfl)
        simp only [Act.put, List.getElem_toArray, List.getElem_cons_zero, List.getElem_cons_succ, List.setIfInBounds_toArray, List.set_cons_zero, List.set_cons_succ]
        have HH := Lib.hid hHeld
        obtain ⟨hbw, _, _, _, _, _, _, _, _, _, _, _, _, _, _, _, _, gs0, gs1, g20, g21, g22, g23, g24, g25⟩ := HS.out _ hHeld
        refine AU_one (i := 3) (o := _) (by kernel_rfl) rfl (fun K hK => ?_)
        have CC := at_m c g22
        rw [EA1.out] at CC
        have CC := Lib.hid CC
        clear hHeld hbw gs0 gs1 g20 g21 g22 g23 g24 g25
        go_simp
        refine CC.out.mono ?_
        clear CC
        rintro e wz34 ⟨rfl, hb⟩
        have hHeld := HH.out.trans (hb.mono HH.out.size)
        clear HH hb
        refine hK.out _ _ (fun _ => hHeld) ?_
        clear hK K
        try simp only [Act.put, List.getElem_toArray, List.getElem_cons_zero, List.getElem_cons_succ, List.setIfInBounds_toArray, List.set_cons_zero, List.set_cons_succ]
        refine AUS_take (by kernel_rfl) rfl (i := 4) (oi := _) (v := ?vw109) rfl (by kernel_rfl) (by kernel_rfl) (by kernel_rfl) (fun _ _ _ h => h) (Or.inl ⟨by rfl, ?hz109⟩) hHeld ?rst109
        case hz109 => (intro wS hSw; obtain ⟨_, f0, f1, f2, f3, f4, f5, f6, f7, f8, f9, f10, f11, f12, f13, f14, f15, _, _, _, _, _, _, _, _⟩ := HS.out wS hSw; clear hSw; go_simp; try with_reducible rfl)
        simp only [Act.put, List.getElem_toArray, List.getElem_cons_zero, List.getElem_cons_succ, List.setIfInBounds_toArray, List.set_cons_zero, List.set_cons_succ]
        refine AUS_take (by kernel_rfl) rfl (i := 5) (oi := _) (v := ?vw110) rfl (by kernel_rfl) (by kernel_rfl) (by kernel_rfl) (fun _ _ _ h => h) (Or.inl ⟨by rfl, ?hz110⟩) hHeld ?rst110
        case hz110 => (intro wS hSw; obtain ⟨_, f0, f1, f2, f3, f4, f5, f6, f7, f8, f9, f10, f11, f12, f13, f14, f15, _, _, _, _, _, _, _, _⟩ := HS.out wS hSw; clear hSw; go_simp; try with_reducible rfl)
        simp only [Act.put, List.getElem_toArray, List.getElem_cons_zero, List.getElem_cons_succ, List.setIfInBounds_toArray, List.set_cons_zero, List.set_cons_succ]
        refine AUS_take (by kernel_rfl) rfl (i := 6) (oi := _) (v := ?vw111) rfl (by kernel_rfl) (by kernel_rfl) (by kernel_rfl) (fun _ _ _ h => h) (Or.inl ⟨by rfl, ?hz111⟩) hHeld ?rst111
        case hz111 => (intro wS hSw; obtain ⟨_, f0, f1, f2, f3, f4, f5, f6, f7, f8, f9, f10, f11, f12, f13, f14, f15, _, _, _, _, _, _, _, _⟩ := HS.out wS hSw; clear hSw; go_simp; try with_reducible rfl)
        simp only [Act.put, List.getElem_toArray, List.getElem_cons_zero, List.getElem_cons_succ, List.setIfInBounds_toArray, List.set_cons_zero, List.set_cons_succ]
        refine AUS_take (by kernel_rfl) rfl (i := 7) (oi := _) (v := ?vw112) rfl (by kernel_rfl) (by kernel_rfl) (by kernel_rfl) (fun _ _ _ h => h) (Or.inl ⟨by rfl, ?hz112⟩) hHeld ?rst112
        case hz112 => (intro wS hSw; obtain ⟨_, f0, f1, f2, f3, f4, f5, f6, f7, f8, f9, f10, f11, f12, f13, f14, f15, _, _, _, _, _, _, _, _⟩ := HS.out wS hSw; clear hSw; go_simp; try with_reducible rfl)
        simp only [Act.put, List.getElem_toArray, List.getElem_cons_zero, List.getElem_cons_succ, List.setIfInBounds_toArray, List.set_cons_zero, List.set_cons_succ]
        refine AUS_take (by kernel_rfl) rfl (i := 8) (oi := _) (v := ?vw113) rfl (by kernel_rfl) (by kernel_rfl) (by kernel_rfl) (fun _ _ _ h => h) (Or.inl ⟨by rfl, ?hz113⟩) hHeld ?rst113
        case hz113 => (intro wS hSw; obtain ⟨_, f0, f1, f2, f3, f4, f5, f6, f7, f8, f9, f10, f11, f12, f13, f14, f15, _, _, _, _, _, _, _, _⟩ := HS.out wS hSw; clear hSw; go_simp; try with_reducible rfl)
        simp only [Act.put, List.getElem_toArray, List.getElem_cons_zero, List.getElem_cons_succ, List.setIfInBounds_toArray, List.set_cons_zero, List.set_cons_succ]
        have HH := Lib.hid hHeld
        obtain ⟨hbw, _, _, _, _, _, _, _, _, _, _, _, _, _, _, _, _, gs0, gs1, g20, g21, g22, g23, g24, g25⟩ := HS.out _ hHeld
        refine AU_one (i := 9) (o := _) (by kernel_rfl) rfl (fun K hK => ?_)
        have CC := at_m c g23
        rw [EA2.out] at CC
        have CC := Lib.hid CC
        clear hHeld hbw gs0 gs1 g20 g21 g22 g23 g24 g25
        go_simp
        refine CC.out.mono ?_
        clear CC
        rintro e wz35 ⟨rfl, hb⟩
        have hHeld := HH.out.trans (hb.mono HH.out.size)
        clear HH hb
        refine hK.out _ _ (fun _ => hHeld) ?_
        clear hK K
        try simp only [Act.put, List.getElem_toArray, List.getElem_cons_zero, List.getElem_cons_succ, List.setIfInBounds_toArray, List.set_cons_zero, List.set_cons_succ]
        refine AUS_take (by kernel_rfl) rfl (i := 10) (oi := _) (v := ?vw114) rfl (by kernel_rfl) (by kernel_rfl) (by kernel_rfl) (fun _ _ _ h => h) (Or.inl ⟨by rfl, ?hz114⟩) hHeld ?rst114
        case hz114 => (intro wS hSw; obtain ⟨_, f0, f1, f2, f3, f4, f5, f6, f7, f8, f9, f10, f11, f12, f13, f14, f15, _, _, _, _, _, _, _, _⟩ := HS.out wS hSw; clear hSw; go_simp; try with_reducible rfl)
        simp only [Act.put, List.getElem_toArray, List.getElem_cons_zero, List.getElem_cons_succ, List.setIfInBounds_toArray, List.set_cons_zero, List.set_cons_succ]
        refine AUS_take (by kernel_rfl) rfl (i := 11) (oi := _) (v := ?vw115) rfl (by kernel_rfl) (by kernel_rfl) (by kernel_rfl) (fun _ _ _ h => h) (Or.inl ⟨by rfl, ?hz115⟩) hHeld ?rst115
        case hz115 => (intro wS hSw; obtain ⟨_, f0, f1, f2, f3, f4, f5, f6, f7, f8, f9, f10, f11, f12, f13, f14, f15, _, _, _, _, _, _, _, _⟩ := HS.out wS hSw; clear hSw; go_simp; try with_reducible rfl)
        simp only [Act.put, List.getElem_toArray, List.getElem_cons_zero, List.getElem_cons_succ, List.setIfInBounds_toArray, List.set_cons_zero, List.set_cons_succ]
        refine AUS_take (by kernel_rfl) rfl (i := 12) (oi := _) (v := ?vw116) rfl (by kernel_rfl) (by kernel_rfl) (by kernel_rfl) (fun _ _ _ h => h) (Or.inl ⟨by rfl, ?hz116⟩) hHeld ?rst116
        case hz116 => (intro wS hSw; obtain ⟨_, f0, f1, f2, f3, f4, f5, f6, f7, f8, f9, f10, f11, f12, f13, f14, f15, _, _, _, _, _, _, _, _⟩ := HS.out wS hSw; clear hSw; go_simp; try with_reducible rfl)
        simp only [Act.put, List.getElem_toArray, List.getElem_cons_zero, List.getElem_cons_succ, List.setIfInBounds_toArray, List.set_cons_zero, List.set_cons_succ]
        refine AUS_take (by kernel_rfl) rfl (i := 13) (oi := _) (v := ?vw117) rfl (by kernel_rfl) (by kernel_rfl) (by kernel_rfl) (fun _ _ _ h => h) (Or.inl ⟨by rfl, ?hz117⟩) hHeld ?rst117
        case hz117 => (intro wS hSw; obtain ⟨_, f0, f1, f2, f3, f4, f5, f6, f7, f8, f9, f10, f11, f12, f13, f14, f15, _, _, _, _, _, _, _, _⟩ := HS.out wS hSw; clear hSw; go_simp; try with_reducible rfl)
        simp only [Act.put, List.getElem_toArray, List.getElem_cons_zero, List.getElem_cons_succ, List.setIfInBounds_toArray, List.set_cons_zero, List.set_cons_succ]
        refine AUS_take (by kernel_rfl) rfl (i := 14) (oi := _) (v := ?vw118) rfl (by kernel_rfl) (by kernel_rfl) (by kernel_rfl) (fun _ _ _ h => h) (Or.inl ⟨by rfl, ?hz118⟩) hHeld ?rst118
        case hz118 => (intro wS hSw; obtain ⟨_, f0, f1, f2, f3, f4, f5, f6, f7, f8, f9, f10, f11, f12, f13, f14, f15, _, _, _, _, _, _, _, _⟩ := HS.out wS hSw; clear hSw; go_simp; try with_reducible rfl)
        simp only [Act.put, List.getElem_toArray, List.getElem_cons_zero, List.getElem_cons_succ, List.setIfInBounds_toArray, List.set_cons_zero, List.set_cons_succ]
        refine AUS_take (by kernel_rfl) rfl (i := 15) (oi := _) (v := ?vw119) rfl (by kernel_rfl) (by kernel_rfl) (by kernel_rfl) (fun _ _ _ h => h) (Or.inl ⟨by rfl, ?hz119⟩) hHeld ?rst119
        case hz119 => (intro wS hSw; obtain ⟨_, f0, f1, f2, f3, f4, f5, f6, f7, f8, f9, f10, f11, f12, f13, f14, f15, _, _, _, _, _, _, _, _⟩ := HS.out wS hSw; clear hSw; go_simp; try with_reducible rfl)
        simp only [Act.put, List.getElem_toArray, List.getElem_cons_zero, List.getElem_cons_succ, List.setIfInBounds_toArray, List.set_cons_zero, List.set_cons_succ]
        have HH := Lib.hid hHeld
        obtain ⟨hbw, _, _, _, _, _, _, _, _, _, _, _, _, _, _, _, _, gs0, gs1, g20, g21, g22, g23, g24, g25⟩ := HS.out _ hHeld
        refine AU_one (i := 16) (o := _) (by kernel_rfl) rfl (fun K hK => ?_)
        have CC := change_m (g22.mono (by omega)) (g24.mono (by omega))
        rw [EC1.out] at CC
        have CC := Lib.hid CC
        clear hHeld hbw gs0 gs1 g20 g21 g22 g23 g24 g25
        go_simp
        refine CC.out.mono ?_
        clear CC
        rintro e wz36 ⟨rfl, hb⟩
        have hHeld := HH.out.trans (hb.mono HH.out.size)
        clear HH hb
        refine hK.out _ _ (fun _ => hHeld) ?_
        clear hK K
        try simp only [Act.put, List.getElem_toArray, List.getElem_cons_zero, List.getElem_cons_succ, List.setIfInBounds_toArray, List.set_cons_zero, List.set_cons_succ]
        refine AUS_take (by kernel_rfl) rfl (i := 17) (oi := _) (v := ?vw120) rfl (by kernel_rfl) (by kernel_rfl) (by kernel_rfl) (fun _ _ _ h => h) (Or.inl ⟨by rfl, ?hz120⟩) hHeld ?rst120
        case hz120 => (intro wS hSw; obtain ⟨_, f0, f1, f2, f3, f4, f5, f6, f7, f8, f9, f10, f11, f12, f13, f14, f15, _, _, _, _, _, _, _, _⟩ := HS.out wS hSw; clear hSw; go_simp; try with_reducible rfl)
        simp only [Act.put, List.getElem_toArray, List.getElem_cons_zero, List.getElem_cons_succ, List.setIfInBounds_toArray, List.set_cons_zero, List.set_cons_succ]
        refine AUS_take (by kernel_rfl) rfl (i := 18) (oi := _) (v := ?vw121) rfl (by kernel_rfl) (by kernel_rfl) (by kernel_rfl) (fun _ _ _ h => h) (Or.inl ⟨by rfl, ?hz121⟩) hHeld ?rst121
        case hz121 => (intro wS hSw; obtain ⟨_, f0, f1, f2, f3, f4, f5, f6, f7, f8, f9, f10, f11, f12, f13, f14, f15, _, _, _, _, _, _, _, _⟩ := HS.out wS hSw; clear hSw; go_simp; try with_reducible rfl)
        simp only [Act.put, List.getElem_toArray, List.getElem_cons_zero, List.getElem_cons_succ, List.setIfInBounds_toArray, List.set_cons_zero, List.set_cons_succ]
        refine AUS_take (by kernel_rfl) rfl (i := 19) (oi := _) (v := ?vw122) rfl (by kernel_rfl) (by kernel_rfl) (by kernel_rfl) (fun _ _ _ h => h) (Or.inl ⟨by rfl, ?hz122⟩) hHeld ?rst122
        case hz122 => (intro wS hSw; obtain ⟨_, f0, f1, f2, f3, f4, f5, f6, f7, f8, f9, f10, f11, f12, f13, f14, f15, _, _, _, _, _, _, _, _⟩ := HS.out wS hSw; clear hSw; go_simp; try with_reducible rfl)
        simp only [Act.put, List.getElem_toArray, List.getElem_cons_zero, List.getElem_cons_succ, List.setIfInBounds_toArray, List.set_cons_zero, List.set_cons_succ]
        refine AUS_take (by kernel_rfl) rfl (i := 20) (oi := _) (v := ?vw123) rfl (by kernel_rfl) (by kernel_rfl) (by kernel_rfl) (fun _ _ _ h => h) (Or.inl ⟨by rfl, ?hz123⟩) hHeld ?rst123
        case hz123 => (intro wS hSw; obtain ⟨_, f0, f1, f2, f3, f4, f5, f6, f7, f8, f9, f10, f11, f12, f13, f14, f15, _, _, _, _, _, _, _, _⟩ := HS.out wS hSw; clear hSw; go_simp; try with_reducible rfl)
        simp only [Act.put, List.getElem_toArray, List.getElem_cons_zero, List.getElem_cons_succ, List.setIfInBounds_toArray, List.set_cons_zero, List.set_cons_succ]
        refine AUS_take (by kernel_rfl) rfl (i := 21) (oi := _) (v := ?vw124) rfl (by kernel_rfl) (by kernel_rfl) (by kernel_rfl) (fun _ _ _ h => h) (Or.inl ⟨by rfl, ?hz124⟩) hHeld ?rst124
        case hz124 => (intro wS hSw; obtain ⟨_, f0, f1, f2, f3, f4, f5, f6, f7, f8, f9, f10, f11, f12, f13, f14, f15, _, _, _, _, _, _, _, _⟩ := HS.out wS hSw; clear hSw; go_simp; try with_reducible rfl)
        simp only [Act.put, List.getElem_toArray, List.getElem_cons_zero, List.getElem_cons_succ, List.setIfInBounds_toArray, List.set_cons_zero, List.set_cons_succ]
        refine AUS_take (by kernel_rfl) rfl (i := 23) (oi := _) (v := ?vw125) rfl (by kernel_rfl) (by kernel_rfl) (by kernel_rfl) (fun _ _ _ h => h) (Or.inl ⟨by rfl, ?hz125⟩) hHeld ?rst125
        case hz125 => (intro wS hSw; obtain ⟨_, f0, f1, f2, f3, f4, f5, f6, f7, f8, f9, f10, f11, f12, f13, f14, f15, _, _, _, _, _, _, _, _⟩ := HS.out wS hSw; clear hSw; go_simp; try with_reducible rfl)
        simp only [Act.put, List.getElem_toArray, List.getElem_cons_zero, List.getElem_cons_succ, List.setIfInBounds_toArray, List.set_cons_zero, List.set_cons_succ]
        have HH := Lib.hid hHeld
        obtain ⟨hbw, _, _, _, _, _, _, _, _, _, _, _, _, _, _, _, _, gs0, gs1, g20, g21, g22, g23, g24, g25⟩ := HS.out _ hHeld
        refine AU_one (i := 22) (o := _) (by kernel_rfl) rfl (fun K hK => ?_)
        have CC := at_m c g20
        rw [EA3.out] at CC
        have CC := Lib.hid CC
        clear hHeld hbw gs0 gs1 g20 g21 g22 g23 g24 g25
        go_simp
        refine CC.out.mono ?_
        clear CC
        rintro e wz37 ⟨rfl, hb⟩
        have hHeld := HH.out.trans (hb.mono HH.out.size)
        clear HH hb
        refine hK.out _ _ (fun _ => hHeld) ?_
        clear hK K
        try simp only [Act.put, List.getElem_toArray, List.getElem_cons_zero, List.getElem_cons_succ, List.setIfInBounds_toArray, List.set_cons_zero, List.set_cons_succ]
        refine AUS_take (by kernel_rfl) rfl (i := 24) (oi := _) (v := ?vw126) rfl (by kernel_rfl) (by kernel_rfl) (by kernel_rfl) (fun _ _ _ h => h) (Or.inl ⟨by rfl, ?hz126⟩) hHeld ?rst126
        case hz126 => (intro wS hSw; obtain ⟨_, f0, f1, f2, f3, f4, f5, f6, f7, f8, f9, f10, f11, f12, f13, f14, f15, _, _, _, _, _, _, _, _⟩ := HS.out wS hSw; clear hSw; go_simp; try with_reducible rfl)
        simp only [Act.put, List.getElem_toArray, List.getElem_cons_zero, List.getElem_cons_succ, List.setIfInBounds_toArray, List.set_cons_zero, List.set_cons_succ]
        refine AUS_take (by kernel_rfl) rfl (i := 25) (oi := _) (v := ?vw127) rfl (by kernel_rfl) (by kernel_rfl) (by kernel_rfl) (fun _ _ _ h => h) (Or.inl ⟨by rfl, ?hz127⟩) hHeld ?rst127
        case hz127 => (intro wS hSw; obtain ⟨_, f0, f1, f2, f3, f4, f5, f6, f7, f8, f9, f10, f11, f12, f13, f14, f15, _, _, _, _, _, _, _, _⟩ := HS.out wS hSw; clear hSw; go_simp; try with_reducible rfl)
        simp only [Act.put, List.getElem_toArray, List.getElem_cons_zero, List.getElem_cons_succ, List.setIfInBounds_toArray, List.set_cons_zero, List.set_cons_succ]
        refine AUS_take (by kernel_rfl) rfl (i := 26) (oi := _) (v := ?vw128) rfl (by kernel_rfl) (by kernel_rfl) (by kernel_rfl) (fun _ _ _ h => h) (Or.inl ⟨by rfl, ?hz128⟩) hHeld ?rst128
        case hz128 => (intro wS hSw; obtain ⟨_, f0, f1, f2, f3, f4, f5, f6, f7, f8, f9, f10, f11, f12, f13, f14, f15, _, _, _, _, _, _, _, _⟩ := HS.out wS hSw; clear hSw; go_simp; try with_reducible rfl)
        simp only [Act.put, List.getElem_toArray, List.getElem_cons_zero, List.getElem_cons_succ, List.setIfInBounds_toArray, List.set_cons_zero, List.set_cons_succ]
        refine AUS_take (by kernel_rfl) rfl (i := 27) (oi := _) (v := ?vw129) rfl (by kernel_rfl) (by kernel_rfl) (by kernel_rfl) (fun _ _ _ h => h) (Or.inl ⟨by rfl, ?hz129⟩) hHeld ?rst129
        case hz129 => (intro wS hSw; obtain ⟨_, f0, f1, f2, f3, f4, f5, f6, f7, f8, f9, f10, f11, f12, f13, f14, f15, _, _, _, _, _, _, _, _⟩ := HS.out wS hSw; clear hSw; go_simp; try with_reducible rfl)
        simp only [Act.put, List.getElem_toArray, List.getElem_cons_zero, List.getElem_cons_succ, List.setIfInBounds_toArray, List.set_cons_zero, List.set_cons_succ]
        refine AUS_take (by kernel_rfl) rfl (i := 28) (oi := _) (v := ?vw130) rfl (by kernel_rfl) (by kernel_rfl) (by kernel_rfl) (fun _ _ _ h => h) (Or.inl ⟨by rfl, ?hz130⟩) hHeld ?rst130
        case hz130 => (intro wS hSw; obtain ⟨_, f0, f1, f2, f3, f4, f5, f6, f7, f8, f9, f10, f11, f12, f13, f14, f15, _, _, _, _, _, _, _, _⟩ := HS.out wS hSw; clear hSw; go_simp; try with_reducible rfl)
        simp only [Act.put, List.getElem_toArray, List.getElem_cons_zero, List.getElem_cons_succ, List.setIfInBounds_toArray, List.set_cons_zero, List.set_cons_succ]
        refine AUS_take (by kernel_rfl) rfl (i := 30) (oi := _) (v := ?vw131) rfl (by kernel_rfl) (by kernel_rfl) (by kernel_rfl) (fun _ _ _ h => h) (Or.inl ⟨by rfl, ?hz131⟩) hHeld ?rst131
        case hz131 => (intro wS hSw; obtain ⟨_, f0, f1, f2, f3, f4, f5, f6, f7, f8, f9, f10, f11, f12, f13, f14, f15, _, _, _, _, _, _, _, _⟩ := HS.out wS hSw; clear hSw; go_simp; try with_reducible rfl)
        simp only [Act.put, List.getElem_toArray, List.getElem_cons_zero, List.getElem_cons_succ, List.setIfInBounds_toArray, List.set_cons_zero, List.set_cons_succ]
        have HH := Lib.hid hHeld
        obtain ⟨hbw, _, _, _, _, _, _, _, _, _, _, _, _, _, _, _, _, gs0, gs1, g20, g21, g22, g23, g24, g25⟩ := HS.out _ hHeld
        refine AU_one (i := 29) (o := _) (by kernel_rfl) rfl (fun K hK => ?_)
        have CC := at_m c g20
        rw [EA3.out] at CC
        have CC := Lib.hid CC
        clear hHeld hbw gs0 gs1 g20 g21 g22 g23 g24 g25
        go_simp
        refine CC.out.mono ?_
        clear CC
        rintro e wz38 ⟨rfl, hb⟩
        have hHeld := HH.out.trans (hb.mono HH.out.size)
        clear HH hb
        refine hK.out _ _ (fun _ => hHeld) ?_
        clear hK K
        try simp only [Act.put, List.getElem_toArray, List.getElem_cons_zero, List.getElem_cons_succ, List.setIfInBounds_toArray, List.set_cons_zero, List.set_cons_succ]
        refine AUS_take (by kernel_rfl) rfl (i := 31) (oi := _) (v := ?vw132) rfl (by kernel_rfl) (by kernel_rfl) (by kernel_rfl) (fun _ _ _ h => h) (Or.inl ⟨by rfl, ?hz132⟩) hHeld ?rst132
        case hz132 => (intro wS hSw; obtain ⟨_, f0, f1, f2, f3, f4, f5, f6, f7, f8, f9, f10, f11, f12, f13, f14, f15, _, _, _, _, _, _, _, _⟩ := HS.out wS hSw; clear hSw; go_simp; try with_reducible rfl)
        simp only [Act.put, List.getElem_toArray, List.getElem_cons_zero, List.getElem_cons_succ, List.setIfInBounds_toArray, List.set_cons_zero, List.set_cons_succ]
        refine AUS_take (by kernel_rfl) rfl (i := 32) (oi := _) (v := ?vw133) rfl (by kernel_rfl) (by kernel_rfl) (by kernel_rfl) (fun _ _ _ h => h) (Or.inl ⟨by rfl, ?hz133⟩) hHeld ?rst133
        case hz133 => (intro wS hSw; obtain ⟨_, f0, f1, f2, f3, f4, f5, f6, f7, f8, f9, f10, f11, f12, f13, f14, f15, _, _, _, _, _, _, _, _⟩ := HS.out wS hSw; clear hSw; go_simp; try with_reducible rfl)
        simp only [Act.put, List.getElem_toArray, List.getElem_cons_zero, List.getElem_cons_succ, List.setIfInBounds_toArray, List.set_cons_zero, List.set_cons_succ]
        refine AUS_take (by kernel_rfl) rfl (i := 33) (oi := _) (v := ?vw134) rfl (by kernel_rfl) (by kernel_rfl) (by kernel_rfl) (fun _ _ _ h => h) (Or.inl ⟨by rfl, ?hz134⟩) hHeld ?rst134
        case hz134 => (intro wS hSw; obtain ⟨_, f0, f1, f2, f3, f4, f5, f6, f7, f8, f9, f10, f11, f12, f13, f14, f15, _, _, _, _, _, _, _, _⟩ := HS.out wS hSw; clear hSw; go_simp; try with_reducible rfl)
        simp only [Act.put, List.getElem_toArray, List.getElem_cons_zero, List.getElem_cons_succ, List.setIfInBounds_toArray, List.set_cons_zero, List.set_cons_succ]
        refine AUS_take (by kernel_rfl) rfl (i := 34) (oi := _) (v := undef) rfl (by kernel_rfl) (by kernel_rfl) (by kernel_rfl) (fun _ _ _ h => h) (Or.inr ⟨by rfl, rfl⟩) hHeld ?rst135
        try simp only [Act.put, List.getElem_toArray, List.getElem_cons_zero, List.getElem_cons_succ, List.setIfInBounds_toArray, List.set_cons_zero, List.set_cons_succ]
        refine AUS_take (by kernel_rfl) rfl (i := 35) (oi := _) (v := undef) rfl (by kernel_rfl) (by kernel_rfl) (by kernel_rfl) (fun _ _ _ h => h) (Or.inr ⟨by rfl, rfl⟩) hHeld ?rst136
        try simp only [Act.put, List.getElem_toArray, List.getElem_cons_zero, List.getElem_cons_succ, List.setIfInBounds_toArray, List.set_cons_zero, List.set_cons_succ]
        refine AUS_take (by kernel_rfl) rfl (i := 36) (oi := _) (v := undef) rfl (by kernel_rfl) (by kernel_rfl) (by kernel_rfl) (fun _ _ _ h => h) (Or.inr ⟨by rfl, rfl⟩) hHeld ?rst137
        try simp only [Act.put, List.getElem_toArray, List.getElem_cons_zero, List.getElem_cons_succ, List.setIfInBounds_toArray, List.set_cons_zero, List.set_cons_succ]
        refine AUS_take (by kernel_rfl) rfl (i := 37) (oi := _) (v := undef) rfl (by kernel_rfl) (by kernel_rfl) (by kernel_rfl) (fun _ _ _ h => h) (Or.inr ⟨by rfl, rfl⟩) hHeld ?rst138
        try simp only [Act.put, List.getElem_toArray, List.getElem_cons_zero, List.getElem_cons_succ, List.setIfInBounds_toArray, List.set_cons_zero, List.set_cons_succ]
        refine AUS_take (by kernel_rfl) rfl (i := 38) (oi := _) (v := undef) rfl (by kernel_rfl) (by kernel_rfl) (by kernel_rfl) (fun _ _ _ h => h) (Or.inr ⟨by rfl, rfl⟩) hHeld ?rst139
        try simp only [Act.put, List.getElem_toArray, List.getElem_cons_zero, List.getElem_cons_succ, List.setIfInBounds_toArray, List.set_cons_zero, List.set_cons_succ]
        refine AUS_take (by kernel_rfl) rfl (i := 39) (oi := _) (v := ?vw140) rfl (by kernel_rfl) (by kernel_rfl) (by kernel_rfl) (fun _ _ _ h => h) (Or.inl ⟨by rfl, ?hz140⟩) hHeld ?rst140
        case hz140 => (intro wS hSw; obtain ⟨_, f0, f1, f2, f3, f4, f5, f6, f7, f8, f9, f10, f11, f12, f13, f14, f15, _, _, _, _, _, _, _, _⟩ := HS.out wS hSw; clear hSw; go_simp; try with_reducible rfl)
        simp only [Act.put, List.getElem_toArray, List.getElem_cons_zero, List.getElem_cons_succ, List.setIfInBounds_toArray, List.set_cons_zero, List.set_cons_succ]
        refine AUS_take (by kernel_rfl) rfl (i := 40) (oi := _) (v := ?vw141) rfl (by kernel_rfl) (by kernel_rfl) (by kernel_rfl) (fun _ _ _ h => h) (Or.inl ⟨by rfl, ?hz141⟩) hHeld ?rst141
        case hz141 => (intro wS hSw; obtain ⟨_, f0, f1, f2, f3, f4, f5, f6, f7, f8, f9, f10, f11, f12, f13, f14, f15, _, _, _, _, _, _, _, _⟩ := HS.out wS hSw; clear hSw; go_simp; try with_reducible rfl)
        simp only [Act.put, List.getElem_toArray, List.getElem_cons_zero, List.getElem_cons_succ, List.setIfInBounds_toArray, List.set_cons_zero, List.set_cons_succ]
        refine AUS_take (by kernel_rfl) rfl (i := 41) (oi := _) (v := ?vw142) rfl (by kernel_rfl) (by kernel_rfl) (by kernel_rfl) (fun _ _ _ h => h) (Or.inl ⟨by rfl, ?hz142⟩) hHeld ?rst142
        case hz142 => (intro wS hSw; obtain ⟨_, f0, f1, f2, f3, f4, f5, f6, f7, f8, f9, f10, f11, f12, f13, f14, f15, _, _, _, _, _, _, _, _⟩ := HS.out wS hSw; clear hSw; go_simp; try with_reducible rfl)
        simp only [Act.put, List.getElem_toArray, List.getElem_cons_zero, List.getElem_cons_succ, List.setIfInBounds_toArray, List.set_cons_zero, List.set_cons_succ]
        refine AUS_take (by kernel_rfl) rfl (i := 42) (oi := _) (v := ?vw143) rfl (by kernel_rfl) (by kernel_rfl) (by kernel_rfl) (fun _ _ _ h => h) (Or.inl ⟨by rfl, ?hz143⟩) hHeld ?rst143
        case hz143 => (intro wS hSw; obtain ⟨_, f0, f1, f2, f3, f4, f5, f6, f7, f8, f9, f10, f11, f12, f13, f14, f15, _, _, _, _, _, _, _, _⟩ := HS.out wS hSw; clear hSw; go_simp; try with_reducible rfl)
        simp only [Act.put, List.getElem_toArray, List.getElem_cons_zero, List.getElem_cons_succ, List.setIfInBounds_toArray, List.set_cons_zero, List.set_cons_succ]
        refine AUS_take (by kernel_rfl) rfl (i := 43) (oi := _) (v := ?vw144) rfl (by kernel_rfl) (by kernel_rfl) (by kernel_rfl) (fun _ _ _ h => h) (Or.inl ⟨by rfl, ?hz144⟩) hHeld ?rst144
        case hz144 => (intro wS hSw; obtain ⟨_, f0, f1, f2, f3, f4, f5, f6, f7, f8, f9, f10, f11, f12, f13, f14, f15, _, _, _, _, _, _, _, _⟩ := HS.out wS hSw; clear hSw; go_simp; try with_reducible rfl)
        simp only [Act.put, List.getElem_toArray, List.getElem_cons_zero, List.getElem_cons_succ, List.setIfInBounds_toArray, List.set_cons_zero, List.set_cons_succ]
        refine AUS_take (by kernel_rfl) rfl (i := 46) (oi := _) (v := ?vw145) rfl (by kernel_rfl) (by kernel_rfl) (by kernel_rfl) (fun _ _ _ h => h) (Or.inl ⟨by rfl, ?hz145⟩) hHeld ?rst145
        case hz145 => (intro wS hSw; obtain ⟨_, f0, f1, f2, f3, f4, f5, f6, f7, f8, f9, f10, f11, f12, f13, f14, f15, _, _, _, _, _, _, _, _⟩ := HS.out wS hSw; clear hSw; go_simp; try with_reducible rfl)
        simp only [Act.put, List.getElem_toArray, List.getElem_cons_zero, List.getElem_cons_succ, List.setIfInBounds_toArray, List.set_cons_zero, List.set_cons_succ]
        refine AUS_take (by kernel_rfl) rfl (i := 47) (oi := _) (v := ?vw146) rfl (by kernel_rfl) (by kernel_rfl) (by kernel_rfl) (fun _ _ _ h => h) (Or.inl ⟨by rfl, ?hz146⟩) hHeld ?rst146
        case hz146 => (intro wS hSw; obtain ⟨_, f0, f1, f2, f3, f4, f5, f6, f7, f8, f9, f10, f11, f12, f13, f14, f15, _, _, _, _, _, _, _, _⟩ := HS.out wS hSw; clear hSw; go_simp; try with_reducible rfl)
        simp only [Act.put, List.getElem_toArray, List.getElem_cons_zero, List.getElem_cons_succ, List.setIfInBounds_toArray, List.set_cons_zero, List.set_cons_succ]
        have HH := Lib.hid hHeld
        obtain ⟨hbw, _, _, _, _, _, _, _, _, _, _, _, _, _, _, _, _, gs0, gs1, g20, g21, g22, g23, g24, g25⟩ := HS.out _ hHeld
        refine AU_one (i := 44) (o := _) (by kernel_rfl) rfl (fun K hK => ?_)
        have CC := Lib.hid (owns_m g22 (by omega))
        clear hHeld hbw gs0 gs1 g20 g21 g22 g23 g24 g25
        go_simp
        refine CC.out.mono ?_
        clear CC
        rintro e wz39 ⟨ao39, co39, rfl, hor39, hb⟩
        have hHeld := HH.out.trans (hb.mono HH.out.size)
        clear HH hb
        refine hK.out _ _ (fun _ => hHeld) ?_
        clear hK K
        try simp only [Act.put, List.getElem_toArray, List.getElem_cons_zero, List.getElem_cons_succ, List.setIfInBounds_toArray, List.set_cons_zero, List.set_cons_succ]
        obtain ⟨no39, eno⟩ : ∃ q, (Lab.owns (Lab.put D0 P0 c 0)).length = q := ⟨_, rfl⟩
        rw [eno]
        have ENO39 := Lib.hid eno
        have HOR39 := Lib.hid hor39
        clear eno hor39
        refine AUS_take (by kernel_rfl) rfl (i := 45) (oi := _) (v := ?vw147) rfl (by kernel_rfl) (by kernel_rfl) (by kernel_rfl) (fun _ _ _ h => h) (Or.inl ⟨by rfl, ?hz147⟩) hHeld ?rst147
        case hz147 => (intro wS hSw; obtain ⟨_, f0, f1, f2, f3, f4, f5, f6, f7, f8, f9, f10, f11, f12, f13, f14, f15, _, _, _, _, _, _, _, _⟩ := HS.out wS hSw; clear hSw; go_simp; try with_reducible rfl)
        simp only [Act.put, List.getElem_toArray, List.getElem_cons_zero, List.getElem_cons_succ, List.setIfInBounds_toArray, List.set_cons_zero, List.set_cons_succ]
        have HH := Lib.hid hHeld
        obtain ⟨hbw, _, _, _, _, _, _, _, _, _, _, _, _, _, _, _, _, gs0, gs1, g20, g21, g22, g23, g24, g25⟩ := HS.out _ hHeld
        refine AU_one (i := 48) (o := _) (by kernel_rfl) rfl (fun K hK => ?_)
        have CC := Lib.hid (owns_m g20 (by omega))
        clear hHeld hbw gs0 gs1 g20 g21 g22 g23 g24 g25
        go_simp
        refine CC.out.mono ?_
        clear CC
        rintro e wz40 ⟨ao40, co40, rfl, hor40, hb⟩
        have hHeld := HH.out.trans (hb.mono HH.out.size)
        clear HH hb
        refine hK.out _ _ (fun _ => hHeld) ?_
        clear hK K
        try simp only [Act.put, List.getElem_toArray, List.getElem_cons_zero, List.getElem_cons_succ, List.setIfInBounds_toArray, List.set_cons_zero, List.set_cons_succ]
        obtain ⟨no40, eno⟩ : ∃ q, (Lab.owns P0).length = q := ⟨_, rfl⟩
        rw [eno]
        have ENO40 := Lib.hid eno
        have HOR40 := Lib.hid hor40
        clear eno hor40
        have eow : RowKit.wrap64 ((no40 : Int) + 1) = (no39 : Int) := by have h1 := EO.out; have h2 := EOL.out; rw [ENO39.out, ENO40.out] at h1; rw [ENO40.out] at h2; unfold RowKit.wrap64; omega
        have eow2 : IntKind.i64.wrap ((no40 : Int) + 1) = (no39 : Int) := by have h1 := EO.out; have h2 := EOL.out; rw [ENO39.out, ENO40.out] at h1; rw [ENO40.out] at h2; rw [IntKind.wrap_i64]; omega
        refine AUS_take (by kernel_rfl) rfl (i := 49) (oi := _) (v := ?vw148) rfl (by kernel_rfl) (by kernel_rfl) (by kernel_rfl) (fun _ _ _ h => h) (Or.inl ⟨by rfl, ?hz148⟩) hHeld ?rst148
        case hz148 => (intro wS hSw; obtain ⟨_, f0, f1, f2, f3, f4, f5, f6, f7, f8, f9, f10, f11, f12, f13, f14, f15, _, _, _, _, _, _, _, _⟩ := HS.out wS hSw; clear hSw; go_simp; try with_reducible rfl)
        simp only [Act.put, List.getElem_toArray, List.getElem_cons_zero, List.getElem_cons_succ, List.setIfInBounds_toArray, List.set_cons_zero, List.set_cons_succ]
        refine AUS_take (by kernel_rfl) rfl (i := 50) (oi := _) (v := ?vw149) rfl (by kernel_rfl) (by kernel_rfl) (by kernel_rfl) (fun _ _ _ h => h) (Or.inl ⟨by rfl, ?hz149⟩) hHeld ?rst149
        case hz149 => (intro wS hSw; obtain ⟨_, f0, f1, f2, f3, f4, f5, f6, f7, f8, f9, f10, f11, f12, f13, f14, f15, _, _, _, _, _, _, _, _⟩ := HS.out wS hSw; clear hSw; go_simp; try with_reducible rfl)
        simp only [Act.put, List.getElem_toArray, List.getElem_cons_zero, List.getElem_cons_succ, List.setIfInBounds_toArray, List.set_cons_zero, List.set_cons_succ]
        refine AUS_take (by kernel_rfl) rfl (i := 51) (oi := _) (v := ?vw150) rfl (by kernel_rfl) (by kernel_rfl) (by kernel_rfl) (fun _ _ _ h => h) (Or.inl ⟨by rfl, ?hz150⟩) hHeld ?rst150
        case hz150 => (intro wS hSw; obtain ⟨_, f0, f1, f2, f3, f4, f5, f6, f7, f8, f9, f10, f11, f12, f13, f14, f15, _, _, _, _, _, _, _, _⟩ := HS.out wS hSw; clear hSw; go_simp; try with_reducible rfl)
        simp only [Act.put, List.getElem_toArray, List.getElem_cons_zero, List.getElem_cons_succ, List.setIfInBounds_toArray, List.set_cons_zero, List.set_cons_succ]
        refine AUS_take (by kernel_rfl) rfl (i := 52) (oi := _) (v := ?vw151) rfl (by kernel_rfl) (by kernel_rfl) (by kernel_rfl) (fun _ _ _ h => h) (Or.inl ⟨by rfl, ?hz151⟩) hHeld ?rst151
        case hz151 => (intro wS hSw; obtain ⟨_, f0, f1, f2, f3, f4, f5, f6, f7, f8, f9, f10, f11, f12, f13, f14, f15, _, _, _, _, _, _, _, _⟩ := HS.out wS hSw; clear hSw; go_simp; try with_reducible rfl)
        simp only [Act.put, List.getElem_toArray, List.getElem_cons_zero, List.getElem_cons_succ, List.setIfInBounds_toArray, List.set_cons_zero, List.set_cons_succ]
        refine AUS_take (by kernel_rfl) rfl (i := 53) (oi := _) (v := ?vw152) rfl (by kernel_rfl) (by kernel_rfl) (by kernel_rfl) (fun _ _ _ h => h) (Or.inl ⟨by rfl, ?hz152⟩) hHeld ?rst152
        case hz152 => (intro wS hSw; obtain ⟨_, f0, f1, f2, f3, f4, f5, f6, f7, f8, f9, f10, f11, f12, f13, f14, f15, _, _, _, _, _, _, _, _⟩ := HS.out wS hSw; clear hSw; go_simp; try with_reducible rfl)
        simp only [Act.put, List.getElem_toArray, List.getElem_cons_zero, List.getElem_cons_succ, List.setIfInBounds_toArray, List.set_cons_zero, List.set_cons_succ]
        have HE := Lib.hid hHeld
        clear hHeld
        refine AU_done (by kernel_rfl) ?_ _
        simp only [OnlyN]
        have hHeld := HE.out
        clear HE
        have HE := Lib.hid (HS.out _ hHeld).1
        clear hHeld
        go_wp2_with fail
        go_ret
        exact ⟨rfl, HE.out⟩
end Go.Proofs.Ytmbdglhihakkjaa
