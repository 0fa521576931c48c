/- insertionSort. -/
import Derived.Test.YtodionedjokdmaaJa
set_option linter.unusedVariables false
set_option linter.unusedSimpArgs false
namespace Go.Proofs.Ytodionedjokdmaa
open Go.RowKit
set_option linter.unusedVariables false
set_option linter.unusedSimpArgs false
set_option maxHeartbeats 2000000 in
set_option maxRecDepth 100000 in
theorem insert_any {w : World} {g o n c : Nat} {f : Nat → Int} (a b : Nat) (h : AR w g o n f) (hb : b ≤ n) (hn : n ≤ 1000) (ha : a ≤ n) :
    Calls Try.prog 56 #[.slice (some ⟨g, o, none⟩) n c, .int .i64 a, .int .i64 b] w fun e w' => e = .returned (.tuple #[]) ∧ Turn [g] w w' ∧ ∃ f', AR w' g o n f' ∧ Rl a b f f' ∧ Srt a b f' := by
  have H := Lib.hid h
  have HN := Lib.hid (And.intro hb (And.intro hn ha))
  have CL := Lib.hid less_any
  obtain ⟨a1, ea⟩ : ∃ a1, a + 1 = a1 := ⟨_, rfl⟩
  have HA := Lib.hid ea
  have i1 : IntKind.i64.wrap ((a : Int) + 1) = (a1 : Int) := by rw [IntKind.wrap_i64]; omega
  have H0 : Hid (Turn [g] w w ∧ AR w g o n f ∧ Rl a b f f ∧ Srt a a1 f) := Lib.hid ⟨Turn.refl _ _, h, Rl.refl _ _ _, fun i j h1 h2 h3 => by omega⟩
  clear h ea hb hn ha
  go_enter Try.func56, Try.ntmps56
  go_wp2_with fail
  clear i1
  go_loopg [6] (n + 2) (fun gh v6 wr => ∃ i : Nat, n + 2 - i ≤ gh ∧ v6 = .int .i64 i ∧ a1 ≤ i ∧ i ≤ n + 1 ∧ ∃ fr, Hid (Turn [g] w wr ∧ AR wr g o n fr ∧ Rl a b f fr ∧ Srt a i fr))
  case atStart => exact ⟨a1, by omega, rfl, Nat.le_refl _, by have := HA.out; have := HN.out; omega, f, H0⟩
  case round =>
    clear H0
    obtain ⟨i, hg, rfl, h1, h2, fr, hI⟩ := hrel
    by_cases hlt : i < b
    · have l1 : (i : Int) < b := by omega
      have HI := Lib.hid (And.intro hlt (And.intro h1 h2))
      have hS : Hid (Turn [g] w wr ∧ AR wr g o n fr ∧ Rl a b f fr ∧ Ins a i i fr) := Lib.hid ⟨hI.out.1, hI.out.2.1, hI.out.2.2.1, Ins.start hI.out.2.2.2⟩
      clear hlt h1 h2 hI
      go_wp2_with fail
      go_loopg [7] i (fun gh v7 wr => ∃ j : Nat, j ≤ gh ∧ v7 = .int .i64 j ∧ a ≤ j ∧ j ≤ i ∧ ∃ fr, Hid (Turn [g] w wr ∧ AR wr g o n fr ∧ Rl a b f fr ∧ Ins a i j fr))
      case atStart => exact ⟨i, Nat.le_refl _, rfl, by have := HI.out; have := HA.out; omega, Nat.le_refl _, _, hS⟩
      case round =>
        clear hS
        obtain ⟨j, hgj, rfl, k1, k2, fs, hJ⟩ := hrel
        have hn := HN.out
        have hi := HI.out
        by_cases haj : a < j
        · have q1 : (j : Int) > a := by omega
          have q2 : (a : Int) < j := q1
          obtain ⟨j1, ej⟩ : ∃ j1, j = j1 + 1 := ⟨j - 1, by omega⟩
          have q3 : IntKind.i64.wrap ((j : Int) - 1) = (j1 : Int) := by rw [IntKind.wrap_i64]; omega
          have q4 : (j : Int) < n := by omega
          have q5 : (j1 : Int) < n := by omega
          have q6 : (0 : Int) ≤ j1 := by omega
          have c0 := hJ.out.2.1.cell (k := j) (by omega)
          have c1 := hJ.out.2.1.cell (k := j1) (by omega)
          have f0 := hJ.out.2.1.frozen (o + j)
          have f1 := hJ.out.2.1.frozen (o + j1)
          have HJ := Lib.hid (show j1 < n ∧ j < n ∧ a ≤ j1 ∧ j = j1 + 1 ∧ j ≤ i ∧ i < b from ⟨by omega, by omega, by omega, ej, k2, hi.1⟩)
          have CX := fun W => less_any (fs j) (fs j1) W
          obtain ⟨X, eX⟩ : ∃ X, fs j = X := ⟨_, rfl⟩
          obtain ⟨Y, eY⟩ : ∃ Y, fs j1 = Y := ⟨_, rfl⟩
          rw [eX] at c0
          rw [eY] at c1
          rw [eX, eY] at CX
          have EX := Lib.hid (And.intro eX eY)
          by_cases hxy : X < Y
          · simp only [decide_eq_true hxy] at CX
            have CX := Lib.hid CX
            have HX := Lib.hid hxy
            have cS := set_other (g := g) (show o + j ≠ o + j1 by omega)
            clear eX eY hxy hn hi ej haj k1 k2
            go_upto_region 4 with fail
            go_quiet (first | (go_at_call 62; with_reducible exact Calls.quiet_of_same (CX.out _)))
            rename_i nq
            go_upto_region 6 with fail
            go_region
            have HS := Lib.hid (show Turn [g] w (((wr.drewN (nq + 1)).setCell ⟨g, o + j, none⟩ (.int .u64 Y)).setCell ⟨g, o + j1, none⟩ (.int .u64 X)) ∧ AR (((wr.drewN (nq + 1)).setCell ⟨g, o + j, none⟩ (.int .u64 Y)).setCell ⟨g, o + j1, none⟩ (.int .u64 X)) g o n (swp fs j j1) ∧ Rl a b f (swp fs j j1) ∧ Ins a i j1 (swp fs j j1) from by
              obtain ⟨e1, e2⟩ := EX.out
              obtain ⟨g1, g2, g3, g4, g5, g6⟩ := HJ.out
              refine ⟨(hJ.out.1.drewN _).next (turn_swap _ _ _ _ _ _), ?_, hJ.out.2.2.1.trans (Rl.swap fs ⟨by omega, by omega⟩ ⟨by omega, by omega⟩), ?_⟩
              · rw [← e1, ← e2]; exact (hJ.out.2.1.drewN _).swap g2 g1
              · have h4 := hJ.out.2.2.2
                have hxy := HX.out
                rw [← e1, ← e2] at hxy
                subst g4
                exact h4.step g3 g5 hxy)
            have HG := Lib.hid (show a ≤ j1 ∧ j1 ≤ i ∧ j1 < j from by have := HJ.out; omega)
            clear c0 c1 f0 f1 cS
            go_wp2_with fail
            go_roundg j1
            case rel => exact ⟨j1, Nat.le_refl _, by first | rfl | simp, HG.out.1, HG.out.2.1, _, HS⟩
            case measure => have := HG.out; omega
          · simp only [decide_eq_false hxy] at CX
            have CX := Lib.hid CX
            have HX := Lib.hid (show Srt a (i + 1) fs from hJ.out.2.2.2.stop ⟨by omega, k2⟩ (.inr ⟨j1, ej, by rw [eX, eY]; exact hxy⟩))
            clear eX eY hxy hn hi ej haj k1 k2 f0 f1
            go_upto_region 4 with fail
            go_quiet (first | (go_at_call 62; with_reducible exact Calls.quiet_of_same (CX.out _)))
            rename_i nq
            have HS := Lib.hid (show Turn [g] w (wr.drewN nq) ∧ AR (wr.drewN nq) g o n fs ∧ Rl a b f fs ∧ Srt a (i + 1) fs from ⟨hJ.out.1.drewN nq, hJ.out.2.1.drewN nq, hJ.out.2.2.1, HX.out⟩)
            have i1 : IntKind.i64.wrap ((i : Int) + 1) = ((i + 1 : Nat) : Int) := by have := HI.out; have := HN.out; rw [IntKind.wrap_i64]; omega
            clear c0 c1
            go_wp2_with fail
            go_roundg (n + 2 - (i + 1))
            case rel => exact ⟨i + 1, Nat.le_refl _, by first | rfl | simp, by have := HI.out; omega, by have := HI.out; have := HN.out; omega, _, HS⟩
            case measure => have := HI.out; have := HN.out; omega
        · have q1 : ¬ (j : Int) > a := by omega
          have q2 : ¬ (a : Int) < j := q1
          have HX := Lib.hid (show Srt a (i + 1) fs from hJ.out.2.2.2.stop ⟨k1, k2⟩ (.inl (by omega)))
          clear hn hi haj k1 k2
          go_upto_region 4 with fail
          refine region_AU (Z := fun j => false) (S := fun _ => True) (by kernel_rfl) trivial (fun hHeld => ?_)
          refine AUS_take (by kernel_rfl) rfl (i := 0) (oi := _) (v := ?vwa0) rfl (by kernel_rfl) (by kernel_rfl) (by kernel_rfl) (fun _ _ _ h => h) (Or.inl ⟨by rfl, ?hza0⟩) hHeld ?rsta0
          case hza0 => (intro wS hSw; clear hSw; go_simp; try with_reducible rfl)
          simp only [Act.put, List.getElem_toArray, List.getElem_cons_zero, List.getElem_cons_succ, List.setIfInBounds_toArray, List.set_cons_zero, List.set_cons_succ]
          refine AUS_take (by kernel_rfl) rfl (i := 1) (oi := _) (v := ?vwa1) rfl (by kernel_rfl) (by kernel_rfl) (by kernel_rfl) (fun _ _ _ h => h) (Or.inl ⟨by rfl, ?hza1⟩) hHeld ?rsta1
          case hza1 => (intro wS hSw; clear hSw; go_simp; try with_reducible rfl)
          simp only [Act.put, List.getElem_toArray, List.getElem_cons_zero, List.getElem_cons_succ, List.setIfInBounds_toArray, List.set_cons_zero, List.set_cons_succ]
          refine AUS_take (by kernel_rfl) rfl (i := 2) (oi := _) (v := ?vwa2) rfl (by kernel_rfl) (by kernel_rfl) (by kernel_rfl) (fun _ _ _ h => h) (Or.inl ⟨by rfl, ?hza2⟩) hHeld ?rsta2
          case hza2 => (intro wS hSw; clear hSw; go_simp; try with_reducible rfl)
          simp only [Act.put, List.getElem_toArray, List.getElem_cons_zero, List.getElem_cons_succ, List.setIfInBounds_toArray, List.set_cons_zero, List.set_cons_succ]
          refine AUS_take (by kernel_rfl) rfl (i := 3) (oi := _) (v := ?vwa3) rfl (by kernel_rfl) (by kernel_rfl) (by kernel_rfl) (fun _ _ _ h => h) (Or.inl ⟨by rfl, ?hza3⟩) hHeld ?rsta3
          case hza3 => (intro wS hSw; clear hSw; go_simp; try with_reducible rfl)
          simp only [Act.put, List.getElem_toArray, List.getElem_cons_zero, List.getElem_cons_succ, List.setIfInBounds_toArray, List.set_cons_zero, List.set_cons_succ]
          refine AUS_take (by kernel_rfl) rfl (i := 4) (oi := _) (v := undef) rfl (by kernel_rfl) (by kernel_rfl) (by kernel_rfl) (fun _ _ _ h => h) (Or.inr ⟨by rfl, rfl⟩) hHeld ?rsta4
          try simp only [Act.put, List.getElem_toArray, List.getElem_cons_zero, List.getElem_cons_succ, List.setIfInBounds_toArray, List.set_cons_zero, List.set_cons_succ]
          refine AUS_take (by kernel_rfl) rfl (i := 5) (oi := _) (v := undef) rfl (by kernel_rfl) (by kernel_rfl) (by kernel_rfl) (fun _ _ _ h => h) (Or.inr ⟨by rfl, rfl⟩) hHeld ?rsta5
          try simp only [Act.put, List.getElem_toArray, List.getElem_cons_zero, List.getElem_cons_succ, List.setIfInBounds_toArray, List.set_cons_zero, List.set_cons_succ]
          refine AUS_take (by kernel_rfl) rfl (i := 6) (oi := _) (v := undef) rfl (by kernel_rfl) (by kernel_rfl) (by kernel_rfl) (fun _ _ _ h => h) (Or.inr ⟨by rfl, rfl⟩) hHeld ?rsta6
          try simp only [Act.put, List.getElem_toArray, List.getElem_cons_zero, List.getElem_cons_succ, List.setIfInBounds_toArray, List.set_cons_zero, List.set_cons_succ]
          refine AUS_take (by kernel_rfl) rfl (i := 7) (oi := _) (v := undef) rfl (by kernel_rfl) (by kernel_rfl) (by kernel_rfl) (fun _ _ _ h => h) (Or.inr ⟨by rfl, rfl⟩) hHeld ?rsta7
          try simp only [Act.put, List.getElem_toArray, List.getElem_cons_zero, List.getElem_cons_succ, List.setIfInBounds_toArray, List.set_cons_zero, List.set_cons_succ]
          refine AUS_take (by kernel_rfl) rfl (i := 8) (oi := _) (v := undef) rfl (by kernel_rfl) (by kernel_rfl) (by kernel_rfl) (fun _ _ _ h => h) (Or.inr ⟨by rfl, rfl⟩) hHeld ?rsta8
          try simp only [Act.put, List.getElem_toArray, List.getElem_cons_zero, List.getElem_cons_succ, List.setIfInBounds_toArray, List.set_cons_zero, List.set_cons_succ]
          refine AUS_take (by kernel_rfl) rfl (i := 9) (oi := _) (v := undef) rfl (by kernel_rfl) (by kernel_rfl) (by kernel_rfl) (fun _ _ _ h => h) (Or.inr ⟨by rfl, rfl⟩) hHeld ?rsta9
          try simp only [Act.put, List.getElem_toArray, List.getElem_cons_zero, List.getElem_cons_succ, List.setIfInBounds_toArray, List.set_cons_zero, List.set_cons_succ]
          refine AUS_take (by kernel_rfl) rfl (i := 10) (oi := _) (v := undef) rfl (by kernel_rfl) (by kernel_rfl) (by kernel_rfl) (fun _ _ _ h => h) (Or.inr ⟨by rfl, rfl⟩) hHeld ?rsta10
          try simp only [Act.put, List.getElem_toArray, List.getElem_cons_zero, List.getElem_cons_succ, List.setIfInBounds_toArray, List.set_cons_zero, List.set_cons_succ]
          refine AUS_take (by kernel_rfl) rfl (i := 11) (oi := _) (v := undef) rfl (by kernel_rfl) (by kernel_rfl) (by kernel_rfl) (fun _ _ _ h => h) (Or.inr ⟨by rfl, rfl⟩) hHeld ?rsta11
          try simp only [Act.put, List.getElem_toArray, List.getElem_cons_zero, List.getElem_cons_succ, List.setIfInBounds_toArray, List.set_cons_zero, List.set_cons_succ]
          refine AUS_take (by kernel_rfl) rfl (i := 12) (oi := _) (v := undef) rfl (by kernel_rfl) (by kernel_rfl) (by kernel_rfl) (fun _ _ _ h => h) (Or.inr ⟨by rfl, rfl⟩) hHeld ?rsta12
          try simp only [Act.put, List.getElem_toArray, List.getElem_cons_zero, List.getElem_cons_succ, List.setIfInBounds_toArray, List.set_cons_zero, List.set_cons_succ]
          refine AUS_take (by kernel_rfl) rfl (i := 13) (oi := _) (v := undef) rfl (by kernel_rfl) (by kernel_rfl) (by kernel_rfl) (fun _ _ _ h => h) (Or.inr ⟨by rfl, rfl⟩) hHeld ?rsta13
          try simp only [Act.put, List.getElem_toArray, List.getElem_cons_zero, List.getElem_cons_succ, List.setIfInBounds_toArray, List.set_cons_zero, List.set_cons_succ]
          refine AUS_take (by kernel_rfl) rfl (i := 14) (oi := _) (v := ?vwa14) rfl (by kernel_rfl) (by kernel_rfl) (by kernel_rfl) (fun _ _ _ h => h) (Or.inl ⟨by rfl, ?hza14⟩) hHeld ?rsta14
          case hza14 => (intro wS hSw; clear hSw; go_simp; try with_reducible rfl)
          simp only [Act.put, List.getElem_toArray, List.getElem_cons_zero, List.getElem_cons_succ, List.setIfInBounds_toArray, List.set_cons_zero, List.set_cons_succ]
          refine AU_done (by kernel_rfl) ?_ _
          simp only [OnlyN]
          have HS := Lib.hid (show Turn [g] w wr.drew ∧ AR wr.drew g o n fs ∧ Rl a b f fs ∧ Srt a (i + 1) fs from ⟨hJ.out.1.drew, hJ.out.2.1.drew, hJ.out.2.2.1, HX.out⟩)
          have i1 : IntKind.i64.wrap ((i : Int) + 1) = ((i + 1 : Nat) : Int) := by have := HI.out; have := HN.out; rw [IntKind.wrap_i64]; omega
          go_wp2_with fail
          go_roundg (n + 2 - (i + 1))
          case rel => exact ⟨i + 1, Nat.le_refl _, by first | rfl | simp, by have := HI.out; omega, by have := HI.out; have := HN.out; omega, _, HS⟩
          case measure => have := HI.out; have := HN.out; omega
    · have l1 : ¬ (i : Int) < b := by omega
      have HE := Lib.hid (show Srt a b fr from fun p q k1 k2 k3 => hI.out.2.2.2 p q k1 k2 (by omega))
      clear hlt h1 h2 hg
      go_wp2_with fail
      exact bodyPost_end (results_none rfl _ _ _) rfl ⟨rfl, hI.out.1, fr, hI.out.2.1, hI.out.2.2.1, HE.out⟩
end Go.Proofs.Ytodionedjokdmaa
