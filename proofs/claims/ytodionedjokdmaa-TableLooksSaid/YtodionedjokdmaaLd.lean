/- TableLooks. -/
import Derived.Test.YtodionedjokdmaaKc
import Derived.Test.YtodionedjokdmaaOl
set_option linter.unusedVariables false
set_option linter.unusedSimpArgs false
namespace Go.Proofs.Ytodionedjokdmaa
open Go.RowKit
set_option linter.unusedVariables false
set_option linter.unusedSimpArgs false
/-- How many pairs there may be. -/
def kb (j : Nat) : Nat := 2 ^ (min j 8) - 1
theorem kb_step : ∀ j, j < 8 → kb j + 1 + kb j ≤ kb (j + 1) ∧ kb j ≤ 255 := by decide
theorem kb_le (j : Nat) : kb j ≤ 255 := by
  unfold kb
  have : 2 ^ (min j 8) ≤ 2 ^ 8 := Nat.pow_le_pow_right (by omega) (Nat.min_le_right _ _)
  omega
theorem kb_far {j : Nat} (h : 8 ≤ j) : kb (j + 1) = kb j := by unfold kb; rw [Nat.min_eq_right (by omega), Nat.min_eq_right h]
/-- What % tells. -/
theorem rem_of (x : Int) (m : Nat) (hm : 0 < m) (hm2 : m ≤ 100) : ∃ (r : Nat) (s t : Int), r < m ∧ x.tmod (m : Int) = t ∧ t + (m : Int) = s ∧ s.tmod (m : Int) = (r : Int) ∧ IntKind.i64.wrap t = t ∧ IntKind.i64.wrap s = s ∧ IntKind.i64.wrap (r : Int) = r ∧ IntKind.i64.wrap ((r : Int) + 1) = (r : Int) + 1 := by
  have h5 : -(m : Int) < x.tmod (m : Int) ∧ x.tmod (m : Int) < m := ⟨by have := Int.lt_tmod_of_pos x (show (0 : Int) < m by omega); omega, Int.tmod_lt_of_pos x (by omega)⟩
  have h6 : (x.tmod (m : Int) + m).tmod (m : Int) = (x.tmod (m : Int) + m) % (m : Int) := Int.tmod_eq_emod_of_nonneg (by omega)
  have h7 : 0 ≤ (x.tmod (m : Int) + m) % (m : Int) := Int.emod_nonneg _ (by omega)
  have h8 : (x.tmod (m : Int) + m) % (m : Int) < m := Int.emod_lt_of_pos _ (by omega)
  refine ⟨((x.tmod (m : Int) + m).tmod (m : Int)).toNat, _, _, by omega, rfl, rfl, by omega, ?_, ?_, ?_, ?_⟩ <;> (rw [IntKind.wrap_i64]; omega)
/-- The law's label, in its variable. -/
def LS (W : World) (bl j : Nat) (w : World) : Prop := ∃ D a l c P, w.heap[bl]? = some (Obj.cells #[.int .i64 D, .slice a l c] 44) ∧ LA (kb j) w D a l c P ∧ Below W.heap.size W w
theorem ol_new {w : World} {kd D : Int} {a : Option Addr} {l cc : Nat} : OL (w.alloc (Obj.cells ((((Try.zeroCells60.setIfInBounds 2 (.int .u64 3)).setIfInBounds 3 (.int .i64 kd)).setIfInBounds 4 (.int .i64 D)).setIfInBounds 5 (.slice a l cc)) 60)) w.heap.size kd D a l cc := by
  have h := heap_alloc_new w (Obj.cells ((((Try.zeroCells60.setIfInBounds 2 (.int .u64 3)).setIfInBounds 3 (.int .i64 kd)).setIfInBounds 4 (.int .i64 D)).setIfInBounds 5 (.slice a l cc)) 60)
  have hz := oz_size
  obtain ⟨Z, eZ⟩ : ∃ Z, Try.zeroCells60 = Z := ⟨_, rfl⟩
  have h16 := oz16
  rw [eZ] at h hz h16 ⊢
  refine ⟨?_, ?_, ?_, ?_⟩
  · rw [cell_of_row _ _ _ _ _ (0, 0) h, Array.getElem?_setIfInBounds_ne (by decide), Array.getElem?_setIfInBounds_ne (by decide), set_self _ (by simp only [Array.size_setIfInBounds]; omega)]
  · rw [cell_of_row _ _ _ _ _ (0, 0) h, Array.getElem?_setIfInBounds_ne (by decide), set_self _ (by simp only [Array.size_setIfInBounds]; omega)]
  · rw [cell_of_row _ _ _ _ _ (0, 0) h, set_self _ (by simp only [Array.size_setIfInBounds]; omega)]
  · rw [cell_of_row _ _ _ _ _ (0, 0) h, Array.getElem?_setIfInBounds_ne (by decide), Array.getElem?_setIfInBounds_ne (by decide), Array.getElem?_setIfInBounds_ne (by decide), Array.getElem?_setIfInBounds_ne (by decide)]; exact h16
theorem OL.put {w : World} {b g : Nat} {kd D : Int} {a : Option Addr} {l cc : Nat} (h : OL w b kd D a l cc) (hne : b ≠ g) (v0 v1 : Value) : OL ((w.setCell ⟨g, 0, none⟩ v0).setCell ⟨g, 1, none⟩ v1) b kd D a l cc := by
  have e1 : ∀ x, ((w.setCell ⟨g, 0, none⟩ v0).setCell ⟨g, 1, none⟩ v1).cell? ⟨b, x, none⟩ = w.cell? ⟨b, x, none⟩ := fun x => by
    rw [World.cell?_setCell_other _ _ _ _ (fun e => hne (by injection e with e; exact e.symm)), World.cell?_setCell_other _ _ _ _ (fun e => hne (by injection e with e; exact e.symm))]
  exact ⟨by rw [e1]; exact h.k, by rw [e1]; exact h.d, by rw [e1]; exact h.p, by rw [e1]; exact h.s⟩
theorem same_yes7 {f : Nat} {args : Array Value} {w : World} {D E : Int} {P Q : LP} (hq : D = E ∧ P = Q) (h : Calls Try.prog f args w fun e w' => e = .returned (.bool (decide (D = E ∧ P = Q))) ∧ Below w.heap.size w w') :
    Calls Try.prog f args w fun e w' => e = .returned (.bool true) ∧ Below w.heap.size w w' := by
  rw [decide_eq_true hq] at h; exact h
set_option maxHeartbeats 4000000 in
set_option maxRecDepth 100000 in
theorem looks_all (kind : Int) (A : Option Addr) (n c : Nat) (xs : List Int) (W : World) (hc : n ≤ c) (hm : c ≤ maxLen) (hl : xs.length = n) (hr : LR inI W A xs) : Calls Try.prog 5 #[.int .i64 kind, .slice A n c] W fun e w' => e = .returned (.bool true) ∧ Below W.heap.size W w' := by
  have CF := Lib.hid (fit_any W)
  have CO := Lib.hid (fun w => of_any 2 w)
  have hn : (n : Int) ≤ 9223372036854775807 := by unfold maxLen at hm; omega
  obtain ⟨r, s, t, r6, e1, e2, e3, i1, i2, i3, i4⟩ := rem_of kind 6 (by omega) (by omega)
  obtain ⟨kd, ekd⟩ : ∃ kd : Int, (r : Int) + 1 = kd := ⟨_, rfl⟩
  rw [ekd] at i4
  rw [show ((6 : Nat) : Int) = 6 from rfl] at e1 e2 e3
  have HKD := Lib.hid (show 1 ≤ kd ∧ kd ≤ 6 by omega)
  have HN := Lib.hid (And.intro hn (And.intro hl hr))
  clear hc hm hl hr hn r6
  go_enter Try.func5, Try.ntmps5
  go_wp2_with fail
  refine CF.out.mono ?_; rintro e w1 ⟨rfl, hb1⟩
  have HB := Lib.hid hb1
  clear hb1 CF
  go_wp2_with fail
  refine (CO.out w1).mono ?_; rintro e w2 ⟨rfl, hb2⟩
  obtain ⟨bl, ebl⟩ : ∃ bl, w2.heap.size = bl := ⟨_, rfl⟩
  obtain ⟨w3, e3'⟩ : ∃ w3, w2.alloc (Obj.cells #[.int .i64 2, .slice none 0 0] 44) = w3 := ⟨_, rfl⟩
  have hg3 := heap_alloc_new w2 (Obj.cells #[.int .i64 2, .slice none 0 0] 44)
  have hb3 := below_alloc1 w2 (Obj.cells #[.int .i64 2, .slice none 0 0] 44)
  rw [e3', ebl] at hg3
  rw [e3'] at hb3
  have hW2 := below_up HB.out hb2
  have HS : Hid (LS W bl 0 w3) := Lib.hid ⟨2, none, 0, 0, [], hg3, ⟨⟨List.Pairwise.nil, by simp, by simp⟩, by simp, .inl ⟨rfl, rfl⟩⟩, below_up hW2 hb3⟩
  have HBL := Lib.hid (show W.heap.size ≤ bl by rw [← ebl]; exact hW2.size)
  have HE := Lib.hid (And.intro e3' ebl)
  clear hg3 hb3 hb2 hW2 CO e3' ebl e1 e2 e3 i1 i2 i3 i4
  go_upto_region 5 with fail
  rw [HE.out.1, HE.out.2]
  clear HE
  go_wp2_with fail
  go_loopg [21] n (fun gh v21 wr => ∃ (j : Nat), j ≤ n ∧ n - j ≤ gh ∧ v21 = .int .i64 j ∧ Hid (LS W bl j wr))
  case atStart => exact ⟨0, Nat.zero_le _, by omega, rfl, HS⟩
  case round =>
    clear HS
    obtain ⟨j, hj, hg, rfl, hI⟩ := hrel
    by_cases hlt : j < n
    · obtain ⟨D, a, l, cc, P, hbl, hLA, hB⟩ := hI.out
      obtain ⟨x, hx⟩ : ∃ x, xs[j]? = some x := ⟨_, List.getElem?_eq_getElem (by have := HN.out.2.1; omega)⟩
      obtain ⟨ab, ao, rfl, abl, c0⟩ := (HN.out.2.2.below hB) j x hx
      unfold inI at c0
      have i1 : IntKind.i64.wrap ((j : Int) + 1) = ((j + 1 : Nat) : Int) := by have := HN.out.1; rw [IntKind.wrap_i64]; omega
      have l1 : (j : Int) < n := by omega
      have HG := Lib.hid (show j + 1 ≤ n ∧ j < n by omega)
      by_cases h8 : j < 8
      · obtain ⟨r, s, t, r5, e1, e2, e3, i2, i3, i4, _⟩ := rem_of x 5 (by omega) (by omega)
        rw [show ((5 : Nat) : Int) = 5 from rfl] at e1 e2 e3
        have l8 : (j : Int) < 8 := by omega
        obtain ⟨x1, ex1⟩ : ∃ x1, j + 1 = x1 := ⟨_, rfl⟩
        have i5 : IntKind.u32.wrap ((x1 : Nat) : Int) = ((x1 : Nat) : Int) := by rw [IntKind.wrap_u32]; omega
        have hkb := kb_step j h8
        have CW := Lib.hid (with_m x1 (r : Int) hLA (by omega) (by omega) (by omega))
        rw [ex1] at i1
        have k0 : wr.cell? ⟨bl, 0, none⟩ = some (.int .i64 D) := by rw [cell_of_row _ _ _ _ _ (0, 0) hbl]; rfl
        have k1 : wr.cell? ⟨bl, 1, none⟩ = some (.slice a l cc) := by rw [cell_of_row _ _ _ _ _ (0, 0) hbl]; rfl
        have H1 := Lib.hid (And.intro hbl (And.intro hB (And.intro hkb.1 ex1)))
        clear hbl hLA hB hx abl hkb h8 hlt hj r5 ex1 hI
        go_wp2_with fail
        refine CW.out.mono ?_; rintro e w5 ⟨a', l', c', rfl, hL, hb5⟩
        obtain ⟨hbl, hB, hk, hx1⟩ := H1.out
        have g5 := (hb5.block bl (Array.getElem?_eq_some_iff.1 hbl).1).trans hbl
        have m0 : w5.cell? ⟨bl, 0, none⟩ = some (.int .i64 D) := by rw [cell_of_row _ _ _ _ _ (0, 0) g5]; rfl
        have m1 : w5.cell? ⟨bl, 1, none⟩ = some (.slice a l cc) := by rw [cell_of_row _ _ _ _ _ (0, 0) g5]; rfl
        have f0 : w5.frozen? ⟨bl, 0, none⟩ = false := frozen_of_row _ _ _ _ _ g5
        have f1 : w5.frozen? ⟨bl, 1, none⟩ = false := frozen_of_row _ _ _ _ _ g5
        have HLS : Hid (LS W bl (j + 1) ((w5.setCell ⟨bl, 0, none⟩ (.int .i64 D)).setCell ⟨bl, 1, none⟩ (.slice a' l' c'))) := Lib.hid ⟨D, a', l', c', _, put2 g5 _ _, (hL.other g5 _ _).mono hk, below_put2 (below_up hB hb5) HBL.out _ _⟩
        rw [hx1] at HLS
        have HX := Lib.hid hx1
        clear hbl hB hk hx1 g5 hL hb5 CW H1 k0 k1
        go_wp2_with fail
        go_roundg (n - (j + 1))
        case rel => exact ⟨x1, by have := HX.out; have := HG.out; omega, by have := HX.out; omega, by first | rfl | simp, HLS⟩
        case measure => have := HG.out; omega
      · have l8 : ¬ (j : Int) < 8 := by omega
        have HLS : Hid (LS W bl (j + 1) wr) := Lib.hid (by
          obtain ⟨D, a, l, cc, P, h1, h2, h3⟩ := hI.out
          exact ⟨D, a, l, cc, P, h1, by rw [kb_far (by omega)]; exact h2, h3⟩)
        clear hbl hLA hB hx abl h8 hlt hj hI
        go_wp2_with fail
        go_roundg (n - (j + 1))
        case rel => exact ⟨j + 1, HG.out.1, Nat.le_refl _, by first | rfl | simp, HLS⟩
        case measure => have := HG.out; omega
    · obtain rfl : j = n := by omega
      obtain ⟨D, a, l, cc, P, hbl, hLA, hB⟩ := hI.out
      have k0 : wr.cell? ⟨bl, 0, none⟩ = some (.int .i64 D) := by rw [cell_of_row _ _ _ _ _ (0, 0) hbl]; rfl
      have k1 : wr.cell? ⟨bl, 1, none⟩ = some (.slice a l cc) := by rw [cell_of_row _ _ _ _ _ (0, 0) hbl]; rfl
      have HKB := Lib.hid (kb_le j)
      have hlt0 := (Array.getElem?_eq_some_iff.1 hbl).1
      obtain ⟨W9, e9⟩ : ∃ W9, (wr.alloc (Obj.cells ((((Try.zeroCells60.setIfInBounds 2 (.int .u64 3)).setIfInBounds 3 (.int .i64 kd)).setIfInBounds 4 (.int .i64 D)).setIfInBounds 5 (.slice a l cc)) 60)).alloc (Obj.cells #[.int .i64 D, .slice a l cc] 44) = W9 := ⟨_, rfl⟩
      obtain ⟨bo, ebo⟩ : ∃ bo, wr.heap.size = bo := ⟨_, rfl⟩
      obtain ⟨bw, ebw⟩ : ∃ bw, wr.heap.size + 1 = bw := ⟨_, rfl⟩
      have hb9 : Below wr.heap.size wr W9 := by rw [← e9]; exact ((Below.refl _ _).alloc (Nat.le_refl _) _).alloc (by simp) _
      have hOL : OL W9 bo kd D a l cc := by rw [← e9, ← ebo]; exact ol_new.below (below_alloc1 _ _)
      have hbw : W9.heap[bw]? = some (Obj.cells #[.int .i64 D, .slice a l cc] 44) := by
        rw [← e9, ← ebw]
        have := heap_alloc_new (wr.alloc (Obj.cells ((((Try.zeroCells60.setIfInBounds 2 (.int .u64 3)).setIfInBounds 3 (.int .i64 kd)).setIfInBounds 4 (.int .i64 D)).setIfInBounds 5 (.slice a l cc)) 60)) (Obj.cells #[.int .i64 D, .slice a l cc] 44)
        rw [World.size_alloc] at this
        exact this
      have hbl9 := (hb9.block bl (Array.getElem?_eq_some_iff.1 hbl).1).trans hbl
      have hLA9 := hLA.below hb9
      have hB9 := below_up hB hb9
      have hne : bo ≠ bw := by omega
      have hWw : W.heap.size ≤ bw := by have := hB.size; omega
      have HE9 := Lib.hid (And.intro e9 (And.intro ebo ebw))
      clear hbl hLA hB hb9 e9 ebo ebw hlt hg hj hI ekd
      go_upto_region 13 with fail
      rw [HE9.out.1, HE9.out.2.2, HE9.out.2.1]
      clear HE9 k0 k1 hlt0
      by_cases h35 : kd = 3 ∨ kd = 5
      · rcases h35 with rfl | rfl
        · have HQ := Lib.hid (show lkD 3 D = Lab.turn 0 2 D ∧ lkP 3 D P = Lab.tn 0 2 D P from ⟨rfl, rfl⟩)
          have CR := Lib.hid (rest_m hLA9 (by have := HKB.out; omega))
          have k0 : W9.cell? ⟨bl, 0, none⟩ = some (.int .i64 D) := by rw [cell_of_row _ _ _ _ _ (0, 0) hbl9]; rfl
          have k1 : W9.cell? ⟨bl, 1, none⟩ = some (.slice a l cc) := by rw [cell_of_row _ _ _ _ _ (0, 0) hbl9]; rfl
          have H9 := Lib.hid (And.intro hOL (And.intro hbw (And.intro hLA9 (And.intro hB9 (And.intro hne hWw)))))
          clear hOL hbw hbl9 hLA9 hB9 hne hWw
          go_wp2_with fail
          refine CR.out.mono ?_; rintro e w10 ⟨a', l', c', rfl, hL, hb10⟩
          clear CR k0 k1
          obtain ⟨hOL, hbw, hLA9, hB9, hne, hWw⟩ := H9.out
          have g10 := (hb10.block bw (Array.getElem?_eq_some_iff.1 hbw).1).trans hbw
          have m0 : w10.cell? ⟨bw, 0, none⟩ = some (.int .i64 D) := by rw [cell_of_row _ _ _ _ _ (0, 0) g10]; rfl
          have m1 : w10.cell? ⟨bw, 1, none⟩ = some (.slice a l cc) := by rw [cell_of_row _ _ _ _ _ (0, 0) g10]; rfl
          have f0 : w10.frozen? ⟨bw, 0, none⟩ = false := frozen_of_row _ _ _ _ _ g10
          have f1 : w10.frozen? ⟨bw, 1, none⟩ = false := frozen_of_row _ _ _ _ _ g10
          obtain ⟨W11, e11⟩ : ∃ W11, (w10.setCell ⟨bw, 0, none⟩ (.int .i64 (Lab.turn 0 2 D))).setCell ⟨bw, 1, none⟩ (.slice a' l' c') = W11 := ⟨_, rfl⟩
          have hg11 : W11.heap[bw]? = some (Obj.cells #[.int .i64 (Lab.turn 0 2 D), .slice a' l' c'] 44) := by rw [← e11]; exact put2 g10 _ _
          have hOL11 : OL W11 bo 3 D a l cc := by rw [← e11]; exact (hOL.below hb10).put hne _ _
          have hLA11 : LA (kb j) W11 D a l cc P := by rw [← e11]; exact (hLA9.below hb10).other g10 _ _
          have hLW11 : LA (kb j + kb j) W11 (Lab.turn 0 2 D) a' l' c' (Lab.tn 0 2 D P) := by rw [← e11]; exact hL.other g10 _ _
          have HBX := Lib.hid (show Below W.heap.size W W11 by rw [← e11]; exact below_put2 (below_up hB9 hb10) hWw _ _)
          have HF := Lib.hid (fun (wS : World) (hS : Below W11.heap.size W11 wS) => (by
            have r := (hS.block bw (Array.getElem?_eq_some_iff.1 hg11).1).trans hg11
            exact ⟨by rw [cell_of_row _ _ _ _ _ (0, 0) r]; rfl, by rw [cell_of_row _ _ _ _ _ (0, 0) r]; rfl⟩ : wS.cell? ⟨bw, 0, none⟩ = some (.int .i64 (Lab.turn 0 2 D)) ∧ wS.cell? ⟨bw, 1, none⟩ = some (.slice a' l' c')))
          have CL := Lib.hid (fun wS (hS : Below W11.heap.size W11 wS) => look_any (hOL11.below hS) (hLA11.below hS) (by have := HKB.out; omega))
          have CC := Lib.hid (fun wS (hS : Below W11.heap.size W11 wS) => cost_any (hOL11.below hS))
          have HW := Lib.hid hLW11
          clear hOL hbw hLA9 hB9 hne hWw g10 hL hb10 hg11 hOL11 hLA11 hLW11 H9
          go_upto_region 18 with fail
          refine region_AU (Z := fun j => false) (S := fun w' => Below W11.heap.size W11 w') (by kernel_rfl) ((Below.refl _ _).drew) (fun hHeld => ?_)
          refine AUS_take (by kernel_rfl) rfl (i := 0) (oi := _) (v := ?vw101) rfl (by kernel_rfl) (by kernel_rfl) (by kernel_rfl) (fun _ _ _ h => h) (Or.inl ⟨by rfl, ?hz101⟩) hHeld ?rst101
          case hz101 => (intro wS hSw; clear hSw; go_simp; try with_reducible rfl)
          simp only [Act.put, List.getElem_toArray, List.getElem_cons_zero, List.getElem_cons_succ, List.setIfInBounds_toArray, List.set_cons_zero, List.set_cons_succ]
          refine AUS_take (by kernel_rfl) rfl (i := 2) (oi := _) (v := ?vw102) rfl (by kernel_rfl) (by kernel_rfl) (by kernel_rfl) (fun _ _ _ h => h) (Or.inl ⟨by rfl, ?hz102⟩) hHeld ?rst102
          case hz102 => (intro wS hSw; obtain ⟨f1, f2⟩ := HF.out wS hSw; clear hSw; go_simp; try with_reducible rfl)
          simp only [Act.put, List.getElem_toArray, List.getElem_cons_zero, List.getElem_cons_succ, List.setIfInBounds_toArray, List.set_cons_zero, List.set_cons_succ]
          refine AU_one (i := 1) (o := _) (by kernel_rfl) rfl (fun K hK => ?_)
          have HH := Lib.hid hHeld
          have C := Lib.hid (CL.out _ hHeld)
          clear hHeld
          go_simp
          refine C.out.mono ?_
          clear C
          rintro e w7 ⟨a7, l7, c7, rfl, hL7, hb7⟩
          have hHeld := HH.out.trans (hb7.mono HH.out.size)
          have CS := Lib.hid (same_yes7 (HQ.out) (lsame_m hL7 (HW.out.below hHeld)))
          have H7 := Lib.hid hHeld
          clear HH hL7 hb7
          refine hK.out _ _ (fun _ => hHeld) ?_
          clear hK K
          try simp only [Act.put, List.getElem_toArray, List.getElem_cons_zero, List.getElem_cons_succ, List.setIfInBounds_toArray, List.set_cons_zero, List.set_cons_succ]
          refine AU_one (i := 3) (o := _) (by kernel_rfl) rfl (fun K hK => ?_)
          clear hHeld
          go_simp
          refine CS.out.mono ?_
          clear CS
          rintro e w8 ⟨rfl, hb8⟩
          have hHeld := H7.out.trans (hb8.mono H7.out.size)
          clear hb8 H7
          refine hK.out _ _ (fun _ => hHeld) ?_
          clear hK K
          try simp only [Act.put, List.getElem_toArray, List.getElem_cons_zero, List.getElem_cons_succ, List.setIfInBounds_toArray, List.set_cons_zero, List.set_cons_succ]
          refine AUS_take (by kernel_rfl) rfl (i := 4) (oi := _) (v := ?vw103) rfl (by kernel_rfl) (by kernel_rfl) (by kernel_rfl) (fun _ _ _ h => h) (Or.inl ⟨by rfl, ?hz103⟩) hHeld ?rst103
          case hz103 => (intro wS hSw; clear hSw; go_simp; try with_reducible rfl)
          simp only [Act.put, List.getElem_toArray, List.getElem_cons_zero, List.getElem_cons_succ, List.setIfInBounds_toArray, List.set_cons_zero, List.set_cons_succ]
          refine AUS_take (by kernel_rfl) rfl (i := 5) (oi := _) (v := ?vw104) rfl (by kernel_rfl) (by kernel_rfl) (by kernel_rfl) (fun _ _ _ h => h) (Or.inl ⟨by rfl, ?hz104⟩) hHeld ?rst104
          case hz104 => (intro wS hSw; clear hSw; go_simp; try with_reducible rfl)
          simp only [Act.put, List.getElem_toArray, List.getElem_cons_zero, List.getElem_cons_succ, List.setIfInBounds_toArray, List.set_cons_zero, List.set_cons_succ]
          refine AUS_take (by kernel_rfl) rfl (i := 7) (oi := _) (v := ?vw105) rfl (by kernel_rfl) (by kernel_rfl) (by kernel_rfl) (fun _ _ _ h => h) (Or.inl ⟨by rfl, ?hz105⟩) hHeld ?rst105
          case hz105 => (intro wS hSw; clear hSw; go_simp; try with_reducible rfl)
          simp only [Act.put, List.getElem_toArray, List.getElem_cons_zero, List.getElem_cons_succ, List.setIfInBounds_toArray, List.set_cons_zero, List.set_cons_succ]
          refine AU_one (i := 6) (o := _) (by kernel_rfl) rfl (fun K hK => ?_)
          have H7 := Lib.hid hHeld
          have C := Lib.hid (CC.out _ hHeld)
          clear hHeld
          go_simp
          refine C.out.mono ?_
          clear C CC
          rintro e w9 ⟨rfl, rfl⟩
          have hHeld := H7.out
          clear H7
          refine hK.out _ _ (fun _ => hHeld) ?_
          clear hK K
          try simp only [Act.put, List.getElem_toArray, List.getElem_cons_zero, List.getElem_cons_succ, List.setIfInBounds_toArray, List.set_cons_zero, List.set_cons_succ]
          refine AUS_take (by kernel_rfl) rfl (i := 8) (oi := _) (v := ?vw106) rfl (by kernel_rfl) (by kernel_rfl) (by kernel_rfl) (fun _ _ _ h => h) (Or.inl ⟨by rfl, ?hz106⟩) hHeld ?rst106
          case hz106 => (intro wS hSw; clear hSw; go_simp; try with_reducible rfl)
          simp only [Act.put, List.getElem_toArray, List.getElem_cons_zero, List.getElem_cons_succ, List.setIfInBounds_toArray, List.set_cons_zero, List.set_cons_succ]
          refine AUS_take (by kernel_rfl) rfl (i := 9) (oi := _) (v := ?vw107) rfl (by kernel_rfl) (by kernel_rfl) (by kernel_rfl) (fun _ _ _ h => h) (Or.inl ⟨by rfl, ?hz107⟩) hHeld ?rst107
          case hz107 => (intro wS hSw; clear hSw; go_simp; try with_reducible rfl)
          simp only [Act.put, List.getElem_toArray, List.getElem_cons_zero, List.getElem_cons_succ, List.setIfInBounds_toArray, List.set_cons_zero, List.set_cons_succ]
          refine AUS_take (by kernel_rfl) rfl (i := 10) (oi := _) (v := ?vw108) rfl (by kernel_rfl) (by kernel_rfl) (by kernel_rfl) (fun _ _ _ h => h) (Or.inl ⟨by rfl, ?hz108⟩) hHeld ?rst108
          case hz108 => (intro wS hSw; clear hSw; go_simp; try with_reducible rfl)
          simp only [Act.put, List.getElem_toArray, List.getElem_cons_zero, List.getElem_cons_succ, List.setIfInBounds_toArray, List.set_cons_zero, List.set_cons_succ]
          have HFIN := Lib.hid (below_up HBX.out hHeld)
          refine AU_done (by kernel_rfl) ?_ _
          simp only [OnlyN]
          clear hHeld
          go_wp2_with fail
          go_ret
          exact ⟨rfl, HFIN.out⟩
        · have HQ := Lib.hid (show lkD 5 D = Lab.turn 0 2 D ∧ lkP 5 D P = Lab.tn 0 2 D P from ⟨rfl, rfl⟩)
          have CR := Lib.hid (rest_m hLA9 (by have := HKB.out; omega))
          have k0 : W9.cell? ⟨bl, 0, none⟩ = some (.int .i64 D) := by rw [cell_of_row _ _ _ _ _ (0, 0) hbl9]; rfl
          have k1 : W9.cell? ⟨bl, 1, none⟩ = some (.slice a l cc) := by rw [cell_of_row _ _ _ _ _ (0, 0) hbl9]; rfl
          have H9 := Lib.hid (And.intro hOL (And.intro hbw (And.intro hLA9 (And.intro hB9 (And.intro hne hWw)))))
          clear hOL hbw hbl9 hLA9 hB9 hne hWw
          go_wp2_with fail
          refine CR.out.mono ?_; rintro e w10 ⟨a', l', c', rfl, hL, hb10⟩
          clear CR k0 k1
          obtain ⟨hOL, hbw, hLA9, hB9, hne, hWw⟩ := H9.out
          have g10 := (hb10.block bw (Array.getElem?_eq_some_iff.1 hbw).1).trans hbw
          have m0 : w10.cell? ⟨bw, 0, none⟩ = some (.int .i64 D) := by rw [cell_of_row _ _ _ _ _ (0, 0) g10]; rfl
          have m1 : w10.cell? ⟨bw, 1, none⟩ = some (.slice a l cc) := by rw [cell_of_row _ _ _ _ _ (0, 0) g10]; rfl
          have f0 : w10.frozen? ⟨bw, 0, none⟩ = false := frozen_of_row _ _ _ _ _ g10
          have f1 : w10.frozen? ⟨bw, 1, none⟩ = false := frozen_of_row _ _ _ _ _ g10
          obtain ⟨W11, e11⟩ : ∃ W11, (w10.setCell ⟨bw, 0, none⟩ (.int .i64 (Lab.turn 0 2 D))).setCell ⟨bw, 1, none⟩ (.slice a' l' c') = W11 := ⟨_, rfl⟩
          have hg11 : W11.heap[bw]? = some (Obj.cells #[.int .i64 (Lab.turn 0 2 D), .slice a' l' c'] 44) := by rw [← e11]; exact put2 g10 _ _
          have hOL11 : OL W11 bo 5 D a l cc := by rw [← e11]; exact (hOL.below hb10).put hne _ _
          have hLA11 : LA (kb j) W11 D a l cc P := by rw [← e11]; exact (hLA9.below hb10).other g10 _ _
          have hLW11 : LA (kb j + kb j) W11 (Lab.turn 0 2 D) a' l' c' (Lab.tn 0 2 D P) := by rw [← e11]; exact hL.other g10 _ _
          have HBX := Lib.hid (show Below W.heap.size W W11 by rw [← e11]; exact below_put2 (below_up hB9 hb10) hWw _ _)
          have HF := Lib.hid (fun (wS : World) (hS : Below W11.heap.size W11 wS) => (by
            have r := (hS.block bw (Array.getElem?_eq_some_iff.1 hg11).1).trans hg11
            exact ⟨by rw [cell_of_row _ _ _ _ _ (0, 0) r]; rfl, by rw [cell_of_row _ _ _ _ _ (0, 0) r]; rfl⟩ : wS.cell? ⟨bw, 0, none⟩ = some (.int .i64 (Lab.turn 0 2 D)) ∧ wS.cell? ⟨bw, 1, none⟩ = some (.slice a' l' c')))
          have CL := Lib.hid (fun wS (hS : Below W11.heap.size W11 wS) => look_any (hOL11.below hS) (hLA11.below hS) (by have := HKB.out; omega))
          have CC := Lib.hid (fun wS (hS : Below W11.heap.size W11 wS) => cost_any (hOL11.below hS))
          have HW := Lib.hid hLW11
          clear hOL hbw hLA9 hB9 hne hWw g10 hL hb10 hg11 hOL11 hLA11 hLW11 H9
          go_upto_region 18 with fail
          refine region_AU (Z := fun j => false) (S := fun w' => Below W11.heap.size W11 w') (by kernel_rfl) ((Below.refl _ _).drew) (fun hHeld => ?_)
          refine AUS_take (by kernel_rfl) rfl (i := 0) (oi := _) (v := ?vw201) rfl (by kernel_rfl) (by kernel_rfl) (by kernel_rfl) (fun _ _ _ h => h) (Or.inl ⟨by rfl, ?hz201⟩) hHeld ?rst201
          case hz201 => (intro wS hSw; clear hSw; go_simp; try with_reducible rfl)
          simp only [Act.put, List.getElem_toArray, List.getElem_cons_zero, List.getElem_cons_succ, List.setIfInBounds_toArray, List.set_cons_zero, List.set_cons_succ]
          refine AUS_take (by kernel_rfl) rfl (i := 2) (oi := _) (v := ?vw202) rfl (by kernel_rfl) (by kernel_rfl) (by kernel_rfl) (fun _ _ _ h => h) (Or.inl ⟨by rfl, ?hz202⟩) hHeld ?rst202
          case hz202 => (intro wS hSw; obtain ⟨f1, f2⟩ := HF.out wS hSw; clear hSw; go_simp; try with_reducible rfl)
          simp only [Act.put, List.getElem_toArray, List.getElem_cons_zero, List.getElem_cons_succ, List.setIfInBounds_toArray, List.set_cons_zero, List.set_cons_succ]
          refine AU_one (i := 1) (o := _) (by kernel_rfl) rfl (fun K hK => ?_)
          have HH := Lib.hid hHeld
          have C := Lib.hid (CL.out _ hHeld)
          clear hHeld
          go_simp
          refine C.out.mono ?_
          clear C
          rintro e w7 ⟨a7, l7, c7, rfl, hL7, hb7⟩
          have hHeld := HH.out.trans (hb7.mono HH.out.size)
          have CS := Lib.hid (same_yes7 (HQ.out) (lsame_m hL7 (HW.out.below hHeld)))
          have H7 := Lib.hid hHeld
          clear HH hL7 hb7
          refine hK.out _ _ (fun _ => hHeld) ?_
          clear hK K
          try simp only [Act.put, List.getElem_toArray, List.getElem_cons_zero, List.getElem_cons_succ, List.setIfInBounds_toArray, List.set_cons_zero, List.set_cons_succ]
          refine AU_one (i := 3) (o := _) (by kernel_rfl) rfl (fun K hK => ?_)
          clear hHeld
          go_simp
          refine CS.out.mono ?_
          clear CS
          rintro e w8 ⟨rfl, hb8⟩
          have hHeld := H7.out.trans (hb8.mono H7.out.size)
          clear hb8 H7
          refine hK.out _ _ (fun _ => hHeld) ?_
          clear hK K
          try simp only [Act.put, List.getElem_toArray, List.getElem_cons_zero, List.getElem_cons_succ, List.setIfInBounds_toArray, List.set_cons_zero, List.set_cons_succ]
          refine AUS_take (by kernel_rfl) rfl (i := 4) (oi := _) (v := ?vw203) rfl (by kernel_rfl) (by kernel_rfl) (by kernel_rfl) (fun _ _ _ h => h) (Or.inl ⟨by rfl, ?hz203⟩) hHeld ?rst203
          case hz203 => (intro wS hSw; clear hSw; go_simp; try with_reducible rfl)
          simp only [Act.put, List.getElem_toArray, List.getElem_cons_zero, List.getElem_cons_succ, List.setIfInBounds_toArray, List.set_cons_zero, List.set_cons_succ]
          refine AUS_take (by kernel_rfl) rfl (i := 5) (oi := _) (v := ?vw204) rfl (by kernel_rfl) (by kernel_rfl) (by kernel_rfl) (fun _ _ _ h => h) (Or.inl ⟨by rfl, ?hz204⟩) hHeld ?rst204
          case hz204 => (intro wS hSw; clear hSw; go_simp; try with_reducible rfl)
          simp only [Act.put, List.getElem_toArray, List.getElem_cons_zero, List.getElem_cons_succ, List.setIfInBounds_toArray, List.set_cons_zero, List.set_cons_succ]
          refine AUS_take (by kernel_rfl) rfl (i := 7) (oi := _) (v := ?vw205) rfl (by kernel_rfl) (by kernel_rfl) (by kernel_rfl) (fun _ _ _ h => h) (Or.inl ⟨by rfl, ?hz205⟩) hHeld ?rst205
          case hz205 => (intro wS hSw; clear hSw; go_simp; try with_reducible rfl)
          simp only [Act.put, List.getElem_toArray, List.getElem_cons_zero, List.getElem_cons_succ, List.setIfInBounds_toArray, List.set_cons_zero, List.set_cons_succ]
          refine AU_one (i := 6) (o := _) (by kernel_rfl) rfl (fun K hK => ?_)
          have H7 := Lib.hid hHeld
          have C := Lib.hid (CC.out _ hHeld)
          clear hHeld
          go_simp
          refine C.out.mono ?_
          clear C CC
          rintro e w9 ⟨rfl, rfl⟩
          have hHeld := H7.out
          clear H7
          refine hK.out _ _ (fun _ => hHeld) ?_
          clear hK K
          try simp only [Act.put, List.getElem_toArray, List.getElem_cons_zero, List.getElem_cons_succ, List.setIfInBounds_toArray, List.set_cons_zero, List.set_cons_succ]
          refine AUS_take (by kernel_rfl) rfl (i := 8) (oi := _) (v := ?vw206) rfl (by kernel_rfl) (by kernel_rfl) (by kernel_rfl) (fun _ _ _ h => h) (Or.inl ⟨by rfl, ?hz206⟩) hHeld ?rst206
          case hz206 => (intro wS hSw; clear hSw; go_simp; try with_reducible rfl)
          simp only [Act.put, List.getElem_toArray, List.getElem_cons_zero, List.getElem_cons_succ, List.setIfInBounds_toArray, List.set_cons_zero, List.set_cons_succ]
          refine AUS_take (by kernel_rfl) rfl (i := 9) (oi := _) (v := ?vw207) rfl (by kernel_rfl) (by kernel_rfl) (by kernel_rfl) (fun _ _ _ h => h) (Or.inl ⟨by rfl, ?hz207⟩) hHeld ?rst207
          case hz207 => (intro wS hSw; clear hSw; go_simp; try with_reducible rfl)
          simp only [Act.put, List.getElem_toArray, List.getElem_cons_zero, List.getElem_cons_succ, List.setIfInBounds_toArray, List.set_cons_zero, List.set_cons_succ]
          refine AUS_take (by kernel_rfl) rfl (i := 10) (oi := _) (v := ?vw208) rfl (by kernel_rfl) (by kernel_rfl) (by kernel_rfl) (fun _ _ _ h => h) (Or.inl ⟨by rfl, ?hz208⟩) hHeld ?rst208
          case hz208 => (intro wS hSw; clear hSw; go_simp; try with_reducible rfl)
          simp only [Act.put, List.getElem_toArray, List.getElem_cons_zero, List.getElem_cons_succ, List.setIfInBounds_toArray, List.set_cons_zero, List.set_cons_succ]
          have HFIN := Lib.hid (below_up HBX.out hHeld)
          refine AU_done (by kernel_rfl) ?_ _
          simp only [OnlyN]
          clear hHeld
          go_wp2_with fail
          go_ret
          exact ⟨rfl, HFIN.out⟩
      · have hk3 : ¬ kd = 3 := fun e => h35 (.inl e)
        have hk5 : ¬ kd = 5 := fun e => h35 (.inr e)
        have hat : ¬ atRest kd = true := by unfold atRest; simp [hk3, hk5]
        have HQ := Lib.hid (show lkD kd D = D ∧ lkP kd D P = P by unfold lkD lkP; rw [if_neg hat, if_neg hat]; exact ⟨rfl, rfl⟩)
        have HC := Lib.hid (show (if kd = 3 then (9 : Int) else 1) = 1 from if_neg hk3)
        have q3 : (kd == 3) = false := by simpa using hk3
        have q5 : (kd == 5) = false := by simpa using hk5
        have HBX := Lib.hid hB9
        have HF := Lib.hid (fun (wS : World) (hS : Below W9.heap.size W9 wS) => (by
          have r := (hS.block bw (Array.getElem?_eq_some_iff.1 hbw).1).trans hbw
          exact ⟨by rw [cell_of_row _ _ _ _ _ (0, 0) r]; rfl, by rw [cell_of_row _ _ _ _ _ (0, 0) r]; rfl⟩ : wS.cell? ⟨bw, 0, none⟩ = some (.int .i64 D) ∧ wS.cell? ⟨bw, 1, none⟩ = some (.slice a l cc)))
        have CL := Lib.hid (fun wS (hS : Below W9.heap.size W9 wS) => look_any (hOL.below hS) (hLA9.below hS) (by have := HKB.out; omega))
        have CC := Lib.hid (fun wS (hS : Below W9.heap.size W9 wS) => cost_any (hOL.below hS))
        have HW := Lib.hid hLA9
        rw [HC.out] at CC
        clear hOL hbw hbl9 hLA9 hB9 hne hWw hk3 hk5 hat h35 HC
        go_upto_region 18 with fail
        refine region_AU (Z := fun j => false) (S := fun w' => Below W9.heap.size W9 w') (by kernel_rfl) ((Below.refl _ _).drew) (fun hHeld => ?_)
        refine AUS_take (by kernel_rfl) rfl (i := 0) (oi := _) (v := ?vw301) rfl (by kernel_rfl) (by kernel_rfl) (by kernel_rfl) (fun _ _ _ h => h) (Or.inl ⟨by rfl, ?hz301⟩) hHeld ?rst301
        case hz301 => (intro wS hSw; clear hSw; go_simp; try with_reducible rfl)
        simp only [Act.put, List.getElem_toArray, List.getElem_cons_zero, List.getElem_cons_succ, List.setIfInBounds_toArray, List.set_cons_zero, List.set_cons_succ]
        refine AUS_take (by kernel_rfl) rfl (i := 2) (oi := _) (v := ?vw302) rfl (by kernel_rfl) (by kernel_rfl) (by kernel_rfl) (fun _ _ _ h => h) (Or.inl ⟨by rfl, ?hz302⟩) hHeld ?rst302
        case hz302 => (intro wS hSw; obtain ⟨f1, f2⟩ := HF.out wS hSw; clear hSw; go_simp; try with_reducible rfl)
        simp only [Act.put, List.getElem_toArray, List.getElem_cons_zero, List.getElem_cons_succ, List.setIfInBounds_toArray, List.set_cons_zero, List.set_cons_succ]
        refine AU_one (i := 1) (o := _) (by kernel_rfl) rfl (fun K hK => ?_)
        have HH := Lib.hid hHeld
        have C := Lib.hid (CL.out _ hHeld)
        clear hHeld
        go_simp
        refine C.out.mono ?_
        clear C
        rintro e w7 ⟨a7, l7, c7, rfl, hL7, hb7⟩
        have hHeld := HH.out.trans (hb7.mono HH.out.size)
        have CS := Lib.hid (same_yes7 (HQ.out) (lsame_m hL7 (HW.out.below hHeld)))
        have H7 := Lib.hid hHeld
        clear HH hL7 hb7
        refine hK.out _ _ (fun _ => hHeld) ?_
        clear hK K
        try simp only [Act.put, List.getElem_toArray, List.getElem_cons_zero, List.getElem_cons_succ, List.setIfInBounds_toArray, List.set_cons_zero, List.set_cons_succ]
        refine AU_one (i := 3) (o := _) (by kernel_rfl) rfl (fun K hK => ?_)
        clear hHeld
        go_simp
        refine CS.out.mono ?_
        clear CS
        rintro e w8 ⟨rfl, hb8⟩
        have hHeld := H7.out.trans (hb8.mono H7.out.size)
        clear hb8 H7
        refine hK.out _ _ (fun _ => hHeld) ?_
        clear hK K
        try simp only [Act.put, List.getElem_toArray, List.getElem_cons_zero, List.getElem_cons_succ, List.setIfInBounds_toArray, List.set_cons_zero, List.set_cons_succ]
        refine AUS_take (by kernel_rfl) rfl (i := 4) (oi := _) (v := ?vw303) rfl (by kernel_rfl) (by kernel_rfl) (by kernel_rfl) (fun _ _ _ h => h) (Or.inl ⟨by rfl, ?hz303⟩) hHeld ?rst303
        case hz303 => (intro wS hSw; clear hSw; go_simp; try with_reducible rfl)
        simp only [Act.put, List.getElem_toArray, List.getElem_cons_zero, List.getElem_cons_succ, List.setIfInBounds_toArray, List.set_cons_zero, List.set_cons_succ]
        refine AUS_take (by kernel_rfl) rfl (i := 5) (oi := _) (v := ?vw304) rfl (by kernel_rfl) (by kernel_rfl) (by kernel_rfl) (fun _ _ _ h => h) (Or.inl ⟨by rfl, ?hz304⟩) hHeld ?rst304
        case hz304 => (intro wS hSw; clear hSw; go_simp; try with_reducible rfl)
        simp only [Act.put, List.getElem_toArray, List.getElem_cons_zero, List.getElem_cons_succ, List.setIfInBounds_toArray, List.set_cons_zero, List.set_cons_succ]
        refine AUS_take (by kernel_rfl) rfl (i := 7) (oi := _) (v := ?vw305) rfl (by kernel_rfl) (by kernel_rfl) (by kernel_rfl) (fun _ _ _ h => h) (Or.inl ⟨by rfl, ?hz305⟩) hHeld ?rst305
        case hz305 => (intro wS hSw; clear hSw; go_simp; try with_reducible rfl)
        simp only [Act.put, List.getElem_toArray, List.getElem_cons_zero, List.getElem_cons_succ, List.setIfInBounds_toArray, List.set_cons_zero, List.set_cons_succ]
        refine AU_one (i := 6) (o := _) (by kernel_rfl) rfl (fun K hK => ?_)
        have H7 := Lib.hid hHeld
        have C := Lib.hid (CC.out _ hHeld)
        clear hHeld
        go_simp
        refine C.out.mono ?_
        clear C CC
        rintro e w9 ⟨rfl, rfl⟩
        have hHeld := H7.out
        clear H7
        refine hK.out _ _ (fun _ => hHeld) ?_
        clear hK K
        try simp only [Act.put, List.getElem_toArray, List.getElem_cons_zero, List.getElem_cons_succ, List.setIfInBounds_toArray, List.set_cons_zero, List.set_cons_succ]
        refine AUS_take (by kernel_rfl) rfl (i := 8) (oi := _) (v := ?vw306) rfl (by kernel_rfl) (by kernel_rfl) (by kernel_rfl) (fun _ _ _ h => h) (Or.inl ⟨by rfl, ?hz306⟩) hHeld ?rst306
        case hz306 => (intro wS hSw; clear hSw; go_simp; try with_reducible rfl)
        simp only [Act.put, List.getElem_toArray, List.getElem_cons_zero, List.getElem_cons_succ, List.setIfInBounds_toArray, List.set_cons_zero, List.set_cons_succ]
        refine AUS_take (by kernel_rfl) rfl (i := 9) (oi := _) (v := ?vw307) rfl (by kernel_rfl) (by kernel_rfl) (by kernel_rfl) (fun _ _ _ h => h) (Or.inl ⟨by rfl, ?hz307⟩) hHeld ?rst307
        case hz307 => (intro wS hSw; clear hSw; go_simp; try with_reducible rfl)
        simp only [Act.put, List.getElem_toArray, List.getElem_cons_zero, List.getElem_cons_succ, List.setIfInBounds_toArray, List.set_cons_zero, List.set_cons_succ]
        refine AUS_take (by kernel_rfl) rfl (i := 10) (oi := _) (v := ?vw308) rfl (by kernel_rfl) (by kernel_rfl) (by kernel_rfl) (fun _ _ _ h => h) (Or.inl ⟨by rfl, ?hz308⟩) hHeld ?rst308
        case hz308 => (intro wS hSw; clear hSw; go_simp; try with_reducible rfl)
        simp only [Act.put, List.getElem_toArray, List.getElem_cons_zero, List.getElem_cons_succ, List.setIfInBounds_toArray, List.set_cons_zero, List.set_cons_succ]
        have HFIN := Lib.hid (below_up HBX.out hHeld)
        refine AU_done (by kernel_rfl) ?_ _
        simp only [OnlyN]
        clear hHeld
        go_wp2_with fail
        go_ret
        exact ⟨rfl, HFIN.out⟩
end Go.Proofs.Ytodionedjokdmaa
