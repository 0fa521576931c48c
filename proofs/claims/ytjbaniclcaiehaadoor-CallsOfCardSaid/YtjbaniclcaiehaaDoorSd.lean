/- CallsOf. -/
import Derived.Test.YtjbaniclcaiehaaDoorSa
set_option linter.unusedVariables false
set_option linter.unusedSimpArgs false
namespace Go.Proofs.YtjbaniclcaiehaaDoor
open Go.RowKit
set_option linter.unusedVariables false
set_option linter.unusedSimpArgs false
/-- The law's list and the two numbers, in memory. -/
structure ON (W : World) (B R n m : Nat) (w : World) : Prop where
  b : Below W.heap.size W w
  s : w.heap[B]? = some (Obj.cells SPA 32)
  r : w.heap[R]? = some (Obj.cells #[.int .u64 (n : Int), .int .u64 (m : Int)] 22)
theorem ON.below {W w w' : World} {B R n m : Nat} (h : ON W B R n m w) (hb : Below w.heap.size w w') : ON W B R n m w' :=
  ⟨h.b.trans (hb.mono h.b.size), (hb.block B (Array.getElem?_eq_some_iff.1 h.s).1).trans h.s, (hb.block R (Array.getElem?_eq_some_iff.1 h.r).1).trans h.r⟩
set_option maxHeartbeats 8000000 in
set_option maxRecDepth 100000 in
theorem of_law (n : Nat) (hn : (n : Int) < 18446744073709551616) (W : World) (hOf : HOF W) : Calls Tryd.prog 3 #[.int .u64 (n : Int)] W (RB W true) := by
  obtain ⟨m, em, hm⟩ : ∃ m : Nat, (n : Int).tmod 64 = (m : Int) ∧ m < 64 := ⟨n % 64, by rw [Int.tmod_eq_emod_of_nonneg (by omega)]; omega, by omega⟩
  have i1 : IntKind.u64.wrap (m : Int) = (m : Int) := by rw [IntKind.wrap_u64]; omega
  have HN := Lib.hid (And.intro hn hm)
  have HOf := Lib.hid hOf
  have CF := Lib.hid (fit_any W hOf)
  clear hOf hn hm
  go_enter Tryd.func3, Tryd.ntmps3
  go_wp2_with fail
  refine CF.out.mono ?_; rintro e w1 ⟨rfl, hb⟩
  have HB1 := Lib.hid hb
  have C1 := Lib.hid (specs_any w1)
  clear hb CF
  go_wp2_with fail
  refine C1.out.mono ?_; rintro e w2 ⟨B, rfl, hS, hb⟩
  have HB2 := Lib.hid (And.intro (HB1.out.trans (hb.mono HB1.out.size)) hS)
  clear hb C1 hS HB1
  obtain ⟨w3, e3⟩ : ∃ w3, w2.alloc (Obj.cells #[.int .u64 (n : Int), .int .u64 (m : Int)] 22) = w3 := ⟨_, rfl⟩
  obtain ⟨R, eR⟩ : ∃ R, w2.heap.size = R := ⟨_, rfl⟩
  have HO : Hid (ON W B R n m w3) := by
    rw [← e3, ← eR]
    have hb := below_alloc1 w2 (Obj.cells #[.int .u64 (n : Int), .int .u64 (m : Int)] 22)
    exact Lib.hid ⟨HB2.out.1.trans (hb.mono HB2.out.1.size), (hb.block B (Array.getElem?_eq_some_iff.1 HB2.out.2).1).trans HB2.out.2, heap_alloc_new w2 _⟩
  have HE := Lib.hid (And.intro e3 eR)
  clear e3 eR
  go_wp2_with fail
  try rw [HE.out.1]
  try rw [HE.out.2]
  clear HE HB2 em i1
  go_loopg [17] 2 (fun gh vi wr => ∃ j : Nat, j ≤ 2 ∧ gh = 2 - j ∧ vi = .int .i64 j ∧ Hid (ON W B R n m wr))
  case atStart => exact ⟨0, by omega, rfl, rfl, HO⟩
  case round =>
    clear HO
    obtain ⟨j, hj, hg, rfl, hI⟩ := hrel
    by_cases hlt : j < 2
    · obtain ⟨k, hk, hkr⟩ : ∃ k : Nat, (k : Int) < 18446744073709551616 ∧ wr.cell? ⟨R, j, none⟩ = some (.int .u64 (k : Int)) := by
        rw [cell_of_row _ _ _ _ _ (0, 0) hI.out.r]
        match j, hlt with
        | 0, _ => exact ⟨n, HN.out.1, rfl⟩
        | 1, _ => exact ⟨m, by have := HN.out.2; omega, rfl⟩
      have lt1 : (j : Int) < 2 := by omega
      have i1 : IntKind.i64.wrap ((j : Int) + 1) = ((j + 1 : Nat) : Int) := by rw [IntKind.wrap_i64]; omega
      have i2 : IntKind.u64.wrap 40 = 40 := by rw [IntKind.wrap_u64]; omega
      have C1 := Lib.hid (HOf.out k wr hk hI.out.b)
      have HG := Lib.hid (And.intro hg (And.intro hlt hk))
      clear hg hlt hk
      go_wp2_with fail
      refine C1.out.mono ?_; rintro e w4 ⟨hb, h⟩
      have HO4 := Lib.hid (hI.out.below hb)
      clear hb C1
      by_cases hin : 1 ≤ k ∧ k ≤ 40
      · rw [if_pos hin] at h
        obtain ⟨a1, c1, a2, c2, rfl, hc1, hc2, hr1, hr2⟩ := h
        have hsm := sp_small hin.1 hin.2
        have hsp := spa_at hin.1 hin.2
        obtain ⟨s, es⟩ : ∃ s, S (spO k).1 = s := ⟨_, rfl⟩
        obtain ⟨l1, el1⟩ : ∃ s, (spO k).2.1 = s := ⟨_, rfl⟩
        obtain ⟨l2, el2⟩ : ∃ s, (spO k).2.2 = s := ⟨_, rfl⟩
        rw [el1, el2] at hsm
        rw [el1] at hc1 hr1
        rw [el2] at hc2 hr2
        rw [es, el1, el2] at hsp
        rw [es, el1, el2]
        obtain ⟨s1, es1⟩ : ∃ s, S (dgt l1) = s := ⟨_, rfl⟩
        obtain ⟨s2, es2⟩ : ∃ s, S (dgt l2) = s := ⟨_, rfl⟩
        rw [es1, es2] at hsp
        obtain ⟨m1, em1⟩ : ∃ s, l1.length = s := ⟨_, rfl⟩
        obtain ⟨m2, em2⟩ : ∃ s, l2.length = s := ⟨_, rfl⟩
        obtain ⟨q, eq⟩ : ∃ q, k - 1 = q := ⟨_, rfl⟩
        rw [eq] at hsp
        rw [em1] at hc1 hsm
        rw [em2] at hc2 hsm
        rw [em1, em2]
        have lt2 : (1 : Int) ≤ (k : Int) := by omega
        have lt3 : (k : Int) ≤ 40 := by omega
        have lt4 : (k : Int) ≥ 1 := by omega
        have lt5 : (q : Int) < 40 := by omega
        have i3 : IntKind.u64.wrap ((k : Int) - 1) = (q : Int) := by rw [IntKind.wrap_u64]; omega
        have HL := Lib.hid (And.intro em1 (And.intro em2 (And.intro hc1 (And.intro hc2 (And.intro hsm (And.intro es1 es2))))))
        have HR := Lib.hid (And.intro hr1 hr2)
        clear es el1 el2 em1 em2 hc1 hc2 hr1 hr2 hsm es1 es2 eq
        go_upto_region 8 with fail
        obtain ⟨X, eX⟩ : ∃ X, w4.heap.size = X := ⟨_, rfl⟩
        obtain ⟨w5, e5⟩ : ∃ w3, w4.alloc (Obj.cells #[.string s, .slice a1 m1 c1, .slice a2 m2 c2] 29) = w3 := ⟨_, rfl⟩
        have hb5 : Below w4.heap.size w4 w5 := by rw [← e5]; exact below_alloc1 w4 _
        have hX : w5.heap[X]? = some (Obj.cells #[.string s, .slice a1 m1 c1, .slice a2 m2 c2] 29) := by rw [← e5, ← eX]; exact heap_alloc_new w4 _
        have HO5 := Lib.hid (HO4.out.below hb5)
        have HR5 := Lib.hid (show NR w5 a1 l1 ∧ NR w5 a2 l2 from ⟨HR.out.1.below hb5, HR.out.2.below hb5⟩)
        have HX := Lib.hid hX
        try rw [e5]
        try rw [eX]
        clear e5 eX hb5 hX HR HO4
        have d0 : w5.cell? ⟨B, q * 3, none⟩ = some (.string s) := by rw [cell_of_row _ _ _ _ _ (0, 0) HO5.out.s]; exact hsp.1
        have d1 : w5.cell? ⟨B, q * 3 + 1, none⟩ = some (.string s1) := by rw [cell_of_row _ _ _ _ _ (0, 0) HO5.out.s]; exact hsp.2.1
        have d2 : w5.cell? ⟨B, q * 3 + 2, none⟩ = some (.string s2) := by rw [cell_of_row _ _ _ _ _ (0, 0) HO5.out.s]; exact hsp.2.2
        clear hsp
        go_upto_region 14 with fail
        obtain ⟨Y, eY⟩ : ∃ X, w5.heap.size = X := ⟨_, rfl⟩
        obtain ⟨w6, e6⟩ : ∃ w3, w5.alloc (Obj.cells #[.string s, .string s1, .string s2] 32) = w3 := ⟨_, rfl⟩
        have hb6 : Below w5.heap.size w5 w6 := by rw [← e6]; exact below_alloc1 w5 _
        have hY : w6.heap[Y]? = some (Obj.cells #[.string s, .string s1, .string s2] 32) := by rw [← e6, ← eY]; exact heap_alloc_new w5 _
        have hX6 := (hb6.block X (Array.getElem?_eq_some_iff.1 HX.out).1).trans HX.out
        have HO6 := Lib.hid (HO5.out.below hb6)
        have HR6 := Lib.hid (show NR w6 a1 l1 ∧ NR w6 a2 l2 from ⟨HR5.out.1.below hb6, HR5.out.2.below hb6⟩)
        have HF := Lib.hid (fun (wS : World) (hS : Below w6.heap.size w6 wS) => (show wS.cell? ⟨X, 0, none⟩ = some (.string s) ∧ wS.cell? ⟨X, 1, none⟩ = some (.slice a1 m1 c1) ∧ wS.cell? ⟨X, 2, none⟩ = some (.slice a2 m2 c2) ∧ wS.cell? ⟨Y, 0, none⟩ = some (.string s) ∧ wS.cell? ⟨Y, 1, none⟩ = some (.string s1) ∧ wS.cell? ⟨Y, 2, none⟩ = some (.string s2) from by
          have hx := (hS.block X (Array.getElem?_eq_some_iff.1 hX6).1).trans hX6
          have hy := (hS.block Y (Array.getElem?_eq_some_iff.1 hY).1).trans hY
          exact ⟨by rw [cell_of_row _ _ _ _ _ (0, 0) hx]; rfl, by rw [cell_of_row _ _ _ _ _ (0, 0) hx]; rfl, by rw [cell_of_row _ _ _ _ _ (0, 0) hx]; rfl, by rw [cell_of_row _ _ _ _ _ (0, 0) hy]; rfl, by rw [cell_of_row _ _ _ _ _ (0, 0) hy]; rfl, by rw [cell_of_row _ _ _ _ _ (0, 0) hy]; rfl⟩))
        try rw [e6]
        try rw [eY]
        clear e6 eY hb6 hY hX6 HR5 HO5 HX d0 d1 d2
        refine region_AU (Z := fun j => false) (S := fun w' => Below w6.heap.size w6 w') (by kernel_rfl) ((Below.refl _ _).drew) (fun hHeld => ?_)
        refine AUS_take (by kernel_rfl) rfl (i := 0) (oi := _) (v := ?vw101) rfl (by kernel_rfl) (by kernel_rfl) (by kernel_rfl) (fun _ _ _ h => h) (Or.inl ⟨by rfl, ?hz101⟩) hHeld ?rst101
        case hz101 => (intro wS hSw; clear hSw; go_simp; try with_reducible rfl)
        simp only [Act.put, List.getElem_toArray, List.getElem_cons_zero, List.getElem_cons_succ, List.setIfInBounds_toArray, List.set_cons_zero, List.set_cons_succ]
        refine AUS_take (by kernel_rfl) rfl (i := 1) (oi := _) (v := ?vw102) rfl (by kernel_rfl) (by kernel_rfl) (by kernel_rfl) (fun _ _ _ h => h) (Or.inl ⟨by rfl, ?hz102⟩) hHeld ?rst102
        case hz102 => (intro wS hSw; obtain ⟨x0, x1, x2, y0, y1, y2⟩ := HF.out wS hSw; clear hSw; go_simp; try with_reducible rfl)
        simp only [Act.put, List.getElem_toArray, List.getElem_cons_zero, List.getElem_cons_succ, List.setIfInBounds_toArray, List.set_cons_zero, List.set_cons_succ]
        refine AUS_take (by kernel_rfl) rfl (i := 2) (oi := _) (v := ?vw103) rfl (by kernel_rfl) (by kernel_rfl) (by kernel_rfl) (fun _ _ _ h => h) (Or.inl ⟨by rfl, ?hz103⟩) hHeld ?rst103
        case hz103 => (intro wS hSw; clear hSw; go_simp; try with_reducible rfl)
        simp only [Act.put, List.getElem_toArray, List.getElem_cons_zero, List.getElem_cons_succ, List.setIfInBounds_toArray, List.set_cons_zero, List.set_cons_succ]
        refine AUS_take (by kernel_rfl) rfl (i := 3) (oi := _) (v := ?vw104) rfl (by kernel_rfl) (by kernel_rfl) (by kernel_rfl) (fun _ _ _ h => h) (Or.inl ⟨by rfl, ?hz104⟩) hHeld ?rst104
        case hz104 => (intro wS hSw; obtain ⟨x0, x1, x2, y0, y1, y2⟩ := HF.out wS hSw; clear hSw; go_simp; try with_reducible rfl)
        simp only [Act.put, List.getElem_toArray, List.getElem_cons_zero, List.getElem_cons_succ, List.setIfInBounds_toArray, List.set_cons_zero, List.set_cons_succ]
        refine AUS_take (by kernel_rfl) rfl (i := 4) (oi := _) (v := ?vw105) rfl (by kernel_rfl) (by kernel_rfl) (by kernel_rfl) (fun _ _ _ h => h) (Or.inl ⟨by rfl, ?hz105⟩) hHeld ?rst105
        case hz105 => (intro wS hSw; clear hSw; go_simp; try with_reducible rfl)
        simp only [Act.put, List.getElem_toArray, List.getElem_cons_zero, List.getElem_cons_succ, List.setIfInBounds_toArray, List.set_cons_zero, List.set_cons_succ]
        refine AUS_take (by kernel_rfl) rfl (i := 5) (oi := _) (v := ?vw106) rfl (by kernel_rfl) (by kernel_rfl) (by kernel_rfl) (fun _ _ _ h => h) (Or.inl ⟨by rfl, ?hz106⟩) hHeld ?rst106
        case hz106 => (intro wS hSw; clear hSw; go_simp; try with_reducible rfl)
        simp only [Act.put, List.getElem_toArray, List.getElem_cons_zero, List.getElem_cons_succ, List.setIfInBounds_toArray, List.set_cons_zero, List.set_cons_succ]
        refine AUS_take (by kernel_rfl) rfl (i := 6) (oi := _) (v := ?vw107) rfl (by kernel_rfl) (by kernel_rfl) (by kernel_rfl) (fun _ _ _ h => h) (Or.inl ⟨by rfl, ?hz107⟩) hHeld ?rst107
        case hz107 => (intro wS hSw; clear hSw; go_simp; try with_reducible rfl)
        simp only [Act.put, List.getElem_toArray, List.getElem_cons_zero, List.getElem_cons_succ, List.setIfInBounds_toArray, List.set_cons_zero, List.set_cons_succ]
        refine AUS_take (by kernel_rfl) rfl (i := 7) (oi := _) (v := ?vw108) rfl (by kernel_rfl) (by kernel_rfl) (by kernel_rfl) (fun _ _ _ h => h) (Or.inl ⟨by rfl, ?hz108⟩) hHeld ?rst108
        case hz108 => (intro wS hSw; obtain ⟨x0, x1, x2, y0, y1, y2⟩ := HF.out wS hSw; clear hSw; go_simp; try with_reducible rfl)
        simp only [Act.put, List.getElem_toArray, List.getElem_cons_zero, List.getElem_cons_succ, List.setIfInBounds_toArray, List.set_cons_zero, List.set_cons_succ]
        refine AUS_take (by kernel_rfl) rfl (i := 9) (oi := _) (v := ?vw109) rfl (by kernel_rfl) (by kernel_rfl) (by kernel_rfl) (fun _ _ _ h => h) (Or.inl ⟨by rfl, ?hz109⟩) hHeld ?rst109
        case hz109 => (intro wS hSw; clear hSw; go_simp; try with_reducible rfl)
        simp only [Act.put, List.getElem_toArray, List.getElem_cons_zero, List.getElem_cons_succ, List.setIfInBounds_toArray, List.set_cons_zero, List.set_cons_succ]
        refine AUS_take (by kernel_rfl) rfl (i := 10) (oi := _) (v := ?vw110) rfl (by kernel_rfl) (by kernel_rfl) (by kernel_rfl) (fun _ _ _ h => h) (Or.inl ⟨by rfl, ?hz110⟩) hHeld ?rst110
        case hz110 => (intro wS hSw; obtain ⟨x0, x1, x2, y0, y1, y2⟩ := HF.out wS hSw; clear hSw; go_simp; try with_reducible rfl)
        simp only [Act.put, List.getElem_toArray, List.getElem_cons_zero, List.getElem_cons_succ, List.setIfInBounds_toArray, List.set_cons_zero, List.set_cons_succ]
        refine AU_one (i := 8) (o := _) (by kernel_rfl) rfl (fun K hK => ?_)
        have HH := Lib.hid hHeld
        have CC := digits_any (w := _) (A := a1) (n := m1) (c := c1) (l := l1) HL.out.1 (by have := HL.out.2.2.2.2.1; omega) (HR6.out.1.below hHeld) (fun x hx => by have := HL.out.2.2.2.2.1.2.2.1 x (List.mem_append.2 (.inl hx)); omega)
        rw [HL.out.2.2.2.2.2.1] at CC
        have CC := Lib.hid CC
        clear hHeld
        go_simp
        refine CC.out.mono ?_
        rintro e wz1 ⟨rfl, hb⟩
        have hHeld := HH.out.trans (hb.mono HH.out.size)
        clear HH hb CC
        refine hK.out _ _ (fun _ => hHeld) ?_
        clear hK K
        try simp only [Act.put, List.getElem_toArray, List.getElem_cons_zero, List.getElem_cons_succ, List.setIfInBounds_toArray, List.set_cons_zero, List.set_cons_succ]
        refine AUS_take (by kernel_rfl) rfl (i := 11) (oi := _) (v := ?vw111) rfl (by kernel_rfl) (by kernel_rfl) (by kernel_rfl) (fun _ _ _ h => h) (Or.inl ⟨by rfl, ?hz111⟩) hHeld ?rst111
        case hz111 => (intro wS hSw; clear hSw; go_simp; try with_reducible rfl)
        simp only [Act.put, List.getElem_toArray, List.getElem_cons_zero, List.getElem_cons_succ, List.setIfInBounds_toArray, List.set_cons_zero, List.set_cons_succ]
        refine AUS_take (by kernel_rfl) rfl (i := 12) (oi := _) (v := ?vw112) rfl (by kernel_rfl) (by kernel_rfl) (by kernel_rfl) (fun _ _ _ h => h) (Or.inl ⟨by rfl, ?hz112⟩) hHeld ?rst112
        case hz112 => (intro wS hSw; clear hSw; go_simp; try with_reducible rfl)
        simp only [Act.put, List.getElem_toArray, List.getElem_cons_zero, List.getElem_cons_succ, List.setIfInBounds_toArray, List.set_cons_zero, List.set_cons_succ]
        refine AUS_take (by kernel_rfl) rfl (i := 13) (oi := _) (v := ?vw113) rfl (by kernel_rfl) (by kernel_rfl) (by kernel_rfl) (fun _ _ _ h => h) (Or.inl ⟨by rfl, ?hz113⟩) hHeld ?rst113
        case hz113 => (intro wS hSw; clear hSw; go_simp; try with_reducible rfl)
        simp only [Act.put, List.getElem_toArray, List.getElem_cons_zero, List.getElem_cons_succ, List.setIfInBounds_toArray, List.set_cons_zero, List.set_cons_succ]
        refine AUS_take (by kernel_rfl) rfl (i := 14) (oi := _) (v := ?vw114) rfl (by kernel_rfl) (by kernel_rfl) (by kernel_rfl) (fun _ _ _ h => h) (Or.inl ⟨by rfl, ?hz114⟩) hHeld ?rst114
        case hz114 => (intro wS hSw; clear hSw; go_simp; try with_reducible rfl)
        simp only [Act.put, List.getElem_toArray, List.getElem_cons_zero, List.getElem_cons_succ, List.setIfInBounds_toArray, List.set_cons_zero, List.set_cons_succ]
        refine AUS_take (by kernel_rfl) rfl (i := 15) (oi := _) (v := ?vw115) rfl (by kernel_rfl) (by kernel_rfl) (by kernel_rfl) (fun _ _ _ h => h) (Or.inl ⟨by rfl, ?hz115⟩) hHeld ?rst115
        case hz115 => (intro wS hSw; obtain ⟨x0, x1, x2, y0, y1, y2⟩ := HF.out wS hSw; clear hSw; go_simp; try with_reducible rfl)
        simp only [Act.put, List.getElem_toArray, List.getElem_cons_zero, List.getElem_cons_succ, List.setIfInBounds_toArray, List.set_cons_zero, List.set_cons_succ]
        refine AUS_take (by kernel_rfl) rfl (i := 17) (oi := _) (v := ?vw116) rfl (by kernel_rfl) (by kernel_rfl) (by kernel_rfl) (fun _ _ _ h => h) (Or.inl ⟨by rfl, ?hz116⟩) hHeld ?rst116
        case hz116 => (intro wS hSw; clear hSw; go_simp; try with_reducible rfl)
        simp only [Act.put, List.getElem_toArray, List.getElem_cons_zero, List.getElem_cons_succ, List.setIfInBounds_toArray, List.set_cons_zero, List.set_cons_succ]
        refine AUS_take (by kernel_rfl) rfl (i := 18) (oi := _) (v := ?vw117) rfl (by kernel_rfl) (by kernel_rfl) (by kernel_rfl) (fun _ _ _ h => h) (Or.inl ⟨by rfl, ?hz117⟩) hHeld ?rst117
        case hz117 => (intro wS hSw; obtain ⟨x0, x1, x2, y0, y1, y2⟩ := HF.out wS hSw; clear hSw; go_simp; try with_reducible rfl)
        simp only [Act.put, List.getElem_toArray, List.getElem_cons_zero, List.getElem_cons_succ, List.setIfInBounds_toArray, List.set_cons_zero, List.set_cons_succ]
        refine AU_one (i := 16) (o := _) (by kernel_rfl) rfl (fun K hK => ?_)
        have HH := Lib.hid hHeld
        have CC := digits_any (w := _) (A := a2) (n := m2) (c := c2) (l := l2) HL.out.2.1 (by have := HL.out.2.2.2.2.1; omega) (HR6.out.2.below hHeld) (fun x hx => by have := HL.out.2.2.2.2.1.2.2.1 x (List.mem_append.2 (.inr hx)); omega)
        rw [HL.out.2.2.2.2.2.2] at CC
        have CC := Lib.hid CC
        clear hHeld
        go_simp
        refine CC.out.mono ?_
        rintro e wz2 ⟨rfl, hb⟩
        have hHeld := HH.out.trans (hb.mono HH.out.size)
        clear HH hb CC
        refine hK.out _ _ (fun _ => hHeld) ?_
        clear hK K
        try simp only [Act.put, List.getElem_toArray, List.getElem_cons_zero, List.getElem_cons_succ, List.setIfInBounds_toArray, List.set_cons_zero, List.set_cons_succ]
        refine AUS_take (by kernel_rfl) rfl (i := 19) (oi := _) (v := ?vw118) rfl (by kernel_rfl) (by kernel_rfl) (by kernel_rfl) (fun _ _ _ h => h) (Or.inl ⟨by rfl, ?hz118⟩) hHeld ?rst118
        case hz118 => (intro wS hSw; clear hSw; go_simp; try with_reducible rfl)
        simp only [Act.put, List.getElem_toArray, List.getElem_cons_zero, List.getElem_cons_succ, List.setIfInBounds_toArray, List.set_cons_zero, List.set_cons_succ]
        refine AUS_take (by kernel_rfl) rfl (i := 20) (oi := _) (v := ?vw119) rfl (by kernel_rfl) (by kernel_rfl) (by kernel_rfl) (fun _ _ _ h => h) (Or.inl ⟨by rfl, ?hz119⟩) hHeld ?rst119
        case hz119 => (intro wS hSw; clear hSw; go_simp; try with_reducible rfl)
        simp only [Act.put, List.getElem_toArray, List.getElem_cons_zero, List.getElem_cons_succ, List.setIfInBounds_toArray, List.set_cons_zero, List.set_cons_succ]
        refine AU_done (by kernel_rfl) ?_ _
        simp only [OnlyN]
        have HOz := Lib.hid (HO6.out.below hHeld)
        clear hHeld HF HR6 HL HO6
        go_wp2_with fail
        go_roundg (2 - (j + 1))
        case rel => exact ⟨j + 1, HG.out.2.1, rfl, by first | rfl | simp, HOz⟩
        case measure => have := HG.out; omega
      · rw [if_neg hin] at h
        obtain ⟨a1, c1, a2, c2, rfl⟩ := h
        obtain ⟨s, es⟩ : ∃ s, S [] = s := ⟨_, rfl⟩
        rw [es]
        have q0 : s = ⟨#[]⟩ := by rw [← es]; rfl
        subst q0
        clear es
        go_upto_region 8 with fail
        obtain ⟨X, eX⟩ : ∃ X, w4.heap.size = X := ⟨_, rfl⟩
        obtain ⟨w5, e5⟩ : ∃ w3, w4.alloc (Obj.cells #[.string ⟨#[]⟩, .slice a1 0 c1, .slice a2 0 c2] 29) = w3 := ⟨_, rfl⟩
        have hb5 : Below w4.heap.size w4 w5 := by rw [← e5]; exact below_alloc1 w4 _
        have hX : w5.heap[X]? = some (Obj.cells #[.string ⟨#[]⟩, .slice a1 0 c1, .slice a2 0 c2] 29) := by rw [← e5, ← eX]; exact heap_alloc_new w4 _
        have HO5 := Lib.hid (HO4.out.below hb5)
        have x0 : w5.cell? ⟨X, 0, none⟩ = some (.string ⟨#[]⟩) := by rw [cell_of_row _ _ _ _ _ (0, 0) hX]; rfl
        have x1 : w5.cell? ⟨X, 1, none⟩ = some (.slice a1 0 c1) := by rw [cell_of_row _ _ _ _ _ (0, 0) hX]; rfl
        have x2 : w5.cell? ⟨X, 2, none⟩ = some (.slice a2 0 c2) := by rw [cell_of_row _ _ _ _ _ (0, 0) hX]; rfl
        try rw [e5]
        try rw [eX]
        clear e5 eX hb5 hX HO4
        by_cases h0 : 1 ≤ k
        · have lt2 : (1 : Int) ≤ (k : Int) := by omega
          have lt3 : ¬ (k : Int) ≤ 40 := by omega
          have lt4 : (k : Int) ≥ 1 := by omega
          clear hin h0
          go_wp2_with fail
          go_roundg (2 - (j + 1))
          case rel => exact ⟨j + 1, HG.out.2.1, rfl, by first | rfl | simp, HO5⟩
          case measure => have := HG.out; omega
        · have lt2 : ¬ (1 : Int) ≤ (k : Int) := by omega
          have lt4 : ¬ (k : Int) ≥ 1 := by omega
          clear hin h0
          go_wp2_with fail
          go_roundg (2 - (j + 1))
          case rel => exact ⟨j + 1, HG.out.2.1, rfl, by first | rfl | simp, HO5⟩
          case measure => have := HG.out; omega
    · have lt1 : ¬ (j : Int) < 2 := by omega
      clear hg hlt
      go_wp2_with fail
      go_ret
      exact ⟨by simp [*], hI.out.b⟩
end Go.Proofs.YtjbaniclcaiehaaDoor
