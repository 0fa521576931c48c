/- partialInsertionSort. -/
import Derived.Test.YtodionedjokdmaaGa
import Derived.Test.YtodionedjokdmaaJl
set_option linter.unusedVariables false
set_option linter.unusedSimpArgs false
namespace Go.Proofs.Ytodionedjokdmaa
open Go.RowKit
set_option linter.unusedVariables false
set_option linter.unusedSimpArgs false
def PEnd2 (w : World) (g o n a b : Nat) (f : Nat → Int) (w' : World) (e : Ending) : Prop := ∃ r f', e = .returned (.bool r) ∧ Q3 w g o n a b f f' w' ∧ Told r a b f'
theorem Srt.swp_out {a b i j : Nat} {f : Nat → Int} (h : Srt a b f) (hi : b ≤ i) (hj : b ≤ j) : Srt a b (swp f i j) := fun p q h1 h2 h3 => by
  rw [swp_o f (by omega) (by omega), swp_o f (by omega) (by omega)]; exact h p q h1 h2 h3
theorem Srt.less {a b b' : Nat} {f : Nat → Int} (h : Srt a b f) (hb : b' ≤ b) : Srt a b' f := fun p q h1 h2 h3 => h p q h1 h2 (by omega)
set_option maxHeartbeats 8000000 in
set_option maxRecDepth 100000 in
theorem partial50_any {w : World} {g o n c : Nat} {f : Nat → Int} (a b : Nat) (h : AR w g o n f) (hb : b ≤ n) (hn : n ≤ 1000) (h50 : a + 50 ≤ b) (hlo : Lo a b f) :
    Calls Try.prog 61 #[.slice (some ⟨g, o, none⟩) n c, .int .i64 a, .int .i64 b] w fun e w' => PEnd2 w g o n a b f w' e := by
  have HN := Lib.hid (And.intro hb (And.intro hn h50))
  have HLO := Lib.hid hlo
  obtain ⟨a1, ea⟩ : ∃ a1, a + 1 = a1 := ⟨_, rfl⟩
  have HA := Lib.hid ea
  have i1 := w_add1 ea (by omega)
  obtain ⟨l, el⟩ : ∃ l, a + l = b := ⟨b - a, by omega⟩
  have WL := Lib.hid (show IntKind.i64.wrap ((b : Int) - (a : Int)) = (l : Int) ∧ ¬ (l : Int) < 50 from ⟨w_subN el (by omega), by omega⟩)
  have H0 := Lib.hid (show Q3 w g o n a b f f w ∧ Srt a a1 f from ⟨Q3.start h, fun i j h1 h2 h3 => by omega⟩)
  clear h ea hb hn h50 hlo el
  go_enter Try.func61, Try.ntmps61
  go_wp2_with fail
  clear i1
  go_loopg [7, 8] 6 (fun gh v7 v8 wr => ∃ i k : Nat, 6 - k ≤ gh ∧ v7 = .int .i64 i ∧ v8 = .int .i64 k ∧ k ≤ 5 ∧ a1 ≤ i ∧ i ≤ b ∧ ∃ fr, Hid (Q3 w g o n a b f fr wr ∧ Srt a i fr))
  case atStart => exact ⟨a1, 0, by omega, rfl, rfl, by omega, Nat.le_refl _, by have := HA.out; have := HN.out; omega, f, H0⟩
  case round =>
    clear H0
    obtain ⟨i0, k, hgo, rfl, rfl, hk, h1, h2, fr, hI⟩ := hrel
    by_cases hk5 : k < 5
    · have l5 : (k : Int) < 5 := by omega
      have HK := Lib.hid (And.intro hgo (And.intro hk5 (And.intro h1 h2)))
      have ik := w_add1 (x := k) rfl (by omega)
      clear hgo hk hk5 h1 h2
      go_wp2_with fail
      go_loopg [7] (n + 2) (fun gh v7 wx => ∃ i : Nat, n + 2 - i ≤ gh ∧ v7 = .int .i64 i ∧ i0 ≤ i ∧ i ≤ b ∧ Hid (Q3 w g o n a b f fr wx ∧ Srt a i fr))
      case atStart => exact ⟨i0, by omega, rfl, Nat.le_refl _, HK.out.2.2.2, hI⟩
      case round =>
        clear hI
        obtain ⟨i, hg, rfl, h1, h2, hI⟩ := hrel
        have hn := HN.out
        have ha := HA.out
        have hkk := HK.out
        by_cases hlt : i < b
        · have l1 : (i : Int) < b := by omega
          have q9 : ((i : Int) == b) = false := by rw [beq_eq_false_iff_ne]; omega
          obtain ⟨j1, ej⟩ : ∃ j1, i = j1 + 1 := ⟨i - 1, by omega⟩
          have q3 := w_sub1 (x := i) ej.symm (by omega)
          have q4 : (i : Int) < n := by omega
          have q5 : (j1 : Int) < n := by omega
          have q6 : (0 : Int) ≤ j1 := by omega
          have hr := hI.out.1.r
          have c0 := hr.cell (k := i) (by omega)
          have c1 := hr.cell (k := j1) (by omega)
          have HJ := Lib.hid (show a ≤ j1 ∧ i = j1 + 1 ∧ i < b ∧ a1 ≤ i from ⟨by omega, ej, hlt, by omega⟩)
          have CX := fun W => less_any (fr i) (fr j1) W
          obtain ⟨X, eX⟩ : ∃ X, fr i = X := ⟨_, rfl⟩
          obtain ⟨Y, eY⟩ : ∃ Y, fr j1 = Y := ⟨_, rfl⟩
          rw [eX] at c0
          rw [eY] at c1
          rw [eX, eY] at CX
          by_cases hxy : X < Y
          · simp only [decide_eq_true hxy] at CX
            have CX := Lib.hid CX
            have f0 := hr.frozen (o + i)
            have f1 := hr.frozen (o + j1)
            obtain ⟨wl, nl⟩ := WL.out
            have HS := Lib.hid (fun q => show Q3 w g o n a b f (swp fr i j1) (((World.drewN _ q).setCell ⟨g, o + i, none⟩ (.int .u64 Y)).setCell ⟨g, o + j1, none⟩ (.int .u64 X)) ∧ Srt a j1 (swp fr i j1) from
              ⟨by have := (hI.out.1.drewN q).swap hn.1 (i := i) (j := j1) ⟨by omega, hlt⟩ ⟨by omega, by omega⟩; rw [eX, eY] at this; exact this, (hI.out.2.less (by omega)).swp_out (by omega) (by omega)⟩)
            have cS := set_other (g := g) (show o + i ≠ o + j1 by omega)
            obtain ⟨d, ed⟩ : ∃ d, a + d = i := ⟨i - a, by omega⟩
            have wd := w_subN ed (by omega)
            have HD := Lib.hid ed
            obtain ⟨q2, eq2⟩ : ∃ q2, decide ((d : Int) ≥ 2) = q2 := ⟨_, rfl⟩
            have eq2' : decide ((2 : Int) ≤ d) = q2 := eq2
            have HQ := Lib.hid (show (q2 = true ↔ 2 ≤ d) from by rw [← eq2, decide_eq_true_iff]; omega)
            clear eX eY hxy hn ha hkk ej hlt h1 h2 hr ed
            go_upto_region 5 with fail
            go_quiet (first | (go_at_call 62; with_reducible exact Calls.quiet_of_same (CX.out _)))
            rename_i nq
            go_upto_region 11 with fail
            go_region
            have HS2 := Lib.hid (HS.out (nq + 1))
            clear c0 c1 f0 f1 cS HS wl nl q9 hI
            go_upto_if 61 with fail
            clear wd eq2 eq2'
            go_cut [9] from 13 to 132 (fun v wx => ∃ f2, Hid (Q3 w g o n a b f f2 wx ∧ Srt a i f2))
            case first =>
              cases q2 with
              | true =>
                go_wp2_with fail
                go_loopg [9] (n + 2) (fun gh v wx => ∃ j : Nat, j ≤ gh ∧ v = .int .i64 j ∧ a ≤ j ∧ j ≤ j1 ∧ ∃ fs, Hid (Q3 w g o n a b f fs wx ∧ Ins a j1 j fs))
                case atStart => exact ⟨j1, by have := HJ.out; have := HN.out; omega, rfl, HJ.out.1, Nat.le_refl _, _, Lib.hid ⟨HS2.out.1, Ins.start HS2.out.2⟩⟩
                case round =>
                  clear HS2
                  obtain ⟨j, hgj, rfl, k1, k3, fs, hJ⟩ := hrel
                  have hj := HJ.out
                  have hn := HN.out
                  by_cases hj1 : 1 ≤ j
                  · have m1 : (j : Int) ≥ 1 := by omega
                    have m1' : (1 : Int) ≤ j := m1
                    obtain ⟨y, ey⟩ : ∃ y, y + 1 = j := ⟨j - 1, by omega⟩
                    have q3 := w_sub1 ey (by omega)
                    have q4 : (j : Int) < n := by omega
                    have q5 : (y : Int) < n := by omega
                    have q6 : (0 : Int) ≤ y := by omega
                    have hr := hJ.out.1.r
                    have c0 := hr.cell (k := j) (by omega)
                    have c1 := hr.cell (k := y) (by omega)
                    have CX := fun W => less_any (fs j) (fs y) W
                    obtain ⟨X, eX⟩ : ∃ X, fs j = X := ⟨_, rfl⟩
                    obtain ⟨Y, eY⟩ : ∃ Y, fs y = Y := ⟨_, rfl⟩
                    rw [eX] at c0
                    rw [eY] at c1
                    rw [eX, eY] at CX
                    by_cases hxy : X < Y
                    · simp only [decide_eq_true hxy] at CX
                      have CX := Lib.hid CX
                      have f0 := hr.frozen (o + j)
                      have f1 := hr.frozen (o + y)
                      have hay : a ≤ y := by
                        rcases Nat.lt_or_ge y a with hya | hya
                        · have hja : j = a := by omega
                          have := HLO.out.rl hJ.out.1.l y j (by omega) (by omega) (by omega)
                          omega
                        · exact hya
                      have HS := Lib.hid (fun q => show Q3 w g o n a b f (swp fs j y) (((World.drewN _ q).setCell ⟨g, o + j, none⟩ (.int .u64 Y)).setCell ⟨g, o + y, none⟩ (.int .u64 X)) ∧ Ins a j1 y (swp fs j y) from
                        ⟨by have := (hJ.out.1.drewN q).swap hn.1 (i := j) (j := y) ⟨by omega, by omega⟩ ⟨by omega, by omega⟩; rw [eX, eY] at this; exact this, by
                          have h4 := hJ.out.2
                          subst ey
                          exact h4.step hay k3 (by rw [eX, eY]; exact hxy)⟩)
                      have HG := Lib.hid (show a ≤ y ∧ y ≤ j1 ∧ y < j from ⟨hay, by omega, by omega⟩)
                      have cS := set_other (g := g) (show o + j ≠ o + y by omega)
                      clear eX eY hxy hn hj ey hj1 k1 k3 hr hay
                      go_upto_region 16 with fail
                      go_quiet (first | (go_at_call 62; with_reducible exact Calls.quiet_of_same (CX.out _)))
                      go_upto_region 17 with fail
                      go_region
                      have HS3 := Lib.hid (HS.out (nq + 1))
                      clear c0 c1 f0 f1 cS HS
                      go_wp2_with fail
                      go_roundg y
                      case rel => exact ⟨y, Nat.le_refl _, by first | rfl | simp, HG.out.1, HG.out.2.1, _, HS3⟩
                      case measure => have := HG.out; omega
                    · simp only [decide_eq_false hxy] at CX
                      have CX := Lib.hid CX
                      have HS := Lib.hid (fun q => show Q3 w g o n a b f fs (World.drewN _ q) ∧ Srt a i fs from ⟨hJ.out.1.drewN q, by
                        have := hJ.out.2.stop ⟨k1, k3⟩ (.inr ⟨y, ey.symm, by rw [eX, eY]; exact hxy⟩)
                        rw [hj.2.1]; exact this⟩)
                      clear eX eY hxy hn hj ey hj1 k1 k3 hr
                      go_upto_region 16 with fail
                      go_quiet (first | (go_at_call 62; with_reducible exact Calls.quiet_of_same (CX.out _)))
                      have HS3 := Lib.hid (HS.out nq)
                      clear c0 c1 HS
                      go_wp2_with fail
                      go_meet
                      exact ⟨fs, HS3⟩
                  · have m1 : ¬ (j : Int) ≥ 1 := by omega
                    have m1' : ¬ (1 : Int) ≤ j := m1
                    have HS3 := Lib.hid (show Q3 w g o n a b f fs _ ∧ Srt a i fs from ⟨hJ.out.1, by
                      have := hJ.out.2.stop ⟨k1, k3⟩ (.inl (by omega))
                      rw [hj.2.1]; exact this⟩)
                    clear hn hj hj1 k1 k3
                    go_wp2_with fail
                    go_meet
                    exact ⟨fs, HS3⟩
              | false =>
                have HS3 := Lib.hid (show Q3 w g o n a b f (swp fr i j1) _ ∧ Srt a i (swp fr i j1) from ⟨HS2.out.1, fun p q p1 p2 p3 => by
                  have := HD.out
                  have : ¬ 2 ≤ d := fun h => (by have := HQ.out.2 h; cases this)
                  omega⟩)
                go_wp2_with fail
                go_meet
                exact ⟨_, HS3⟩
            case rest =>
              obtain ⟨f2, hI⟩ := hcut
              clear HS2
              have hj := HJ.out
              have hn := HN.out
              have ha := HA.out
              obtain ⟨d2, ed2⟩ : ∃ d2, i + d2 = b := ⟨b - i, by omega⟩
              have wd := w_subN ed2 (by omega)
              have hkk := HK.out
              by_cases h2 : 2 ≤ d2
              · have k2 : (d2 : Int) ≥ 2 := by omega
                have k2' : (2 : Int) ≤ d2 := k2
                have i3 := w_add1 (x := i) rfl (by omega)
                clear hj hn ha ed2 h2 hkk
                go_wp2_with fail
                clear i3
                go_loopg [10] (n + 2) (fun gh v wx => ∃ j : Nat, n + 2 - j ≤ gh ∧ v = .int .i64 j ∧ i + 1 ≤ j ∧ j ≤ b ∧ ∃ fs, Hid (Q3 w g o n a b f fs wx ∧ Srt a i fs))
                case atStart => exact ⟨i + 1, by omega, by first | rfl | simp, Nat.le_refl _, by have := HJ.out; omega, _, hI⟩
                case round =>
                  clear hI wd
                  obtain ⟨j, hgj, rfl, k1, k3, fs, hJ⟩ := hrel
                  have hj := HJ.out
                  have hn := HN.out
                  have hkk := HK.out
                  by_cases hj1 : j < b
                  · have m1 : (j : Int) < b := by omega
                    obtain ⟨y, ey⟩ : ∃ y, y + 1 = j := ⟨j - 1, by omega⟩
                    have q3 := w_sub1 ey (by omega)
                    have q4 : (j : Int) < n := by omega
                    have q5 : (y : Int) < n := by omega
                    have q6 : (0 : Int) ≤ y := by omega
                    have hr := hJ.out.1.r
                    have c0 := hr.cell (k := j) (by omega)
                    have c1 := hr.cell (k := y) (by omega)
                    have CX := fun W => less_any (fs j) (fs y) W
                    obtain ⟨X, eX⟩ : ∃ X, fs j = X := ⟨_, rfl⟩
                    obtain ⟨Y, eY⟩ : ∃ Y, fs y = Y := ⟨_, rfl⟩
                    rw [eX] at c0
                    rw [eY] at c1
                    rw [eX, eY] at CX
                    by_cases hxy : X < Y
                    · simp only [decide_eq_true hxy] at CX
                      have CX := Lib.hid CX
                      have f0 := hr.frozen (o + j)
                      have f1 := hr.frozen (o + y)
                      have HS := Lib.hid (fun q => show Q3 w g o n a b f (swp fs j y) (((World.drewN _ q).setCell ⟨g, o + j, none⟩ (.int .u64 Y)).setCell ⟨g, o + y, none⟩ (.int .u64 X)) ∧ Srt a i (swp fs j y) from
                        ⟨by have := (hJ.out.1.drewN q).swap hn.1 (i := j) (j := y) ⟨by omega, by omega⟩ ⟨by omega, by omega⟩; rw [eX, eY] at this; exact this, hJ.out.2.swp_out (by omega) (by omega)⟩)
                      have HG := Lib.hid (show i + 1 ≤ j + 1 ∧ j + 1 ≤ b ∧ j < n from ⟨by omega, by omega, by omega⟩)
                      have i4 := w_add1 (x := j) rfl (by omega)
                      have cS := set_other (g := g) (show o + j ≠ o + y by omega)
                      clear eX eY hxy hn hj ey hj1 k1 k3 hr hkk
                      go_upto_region 22 with fail
                      go_quiet (first | (go_at_call 62; with_reducible exact Calls.quiet_of_same (CX.out _)))
                      go_upto_region 23 with fail
                      go_region
                      have HS3 := Lib.hid (HS.out (nq + 1))
                      clear c0 c1 f0 f1 cS HS
                      go_wp2_with fail
                      go_roundg (n + 2 - (j + 1))
                      case rel => exact ⟨j + 1, Nat.le_refl _, by first | rfl | simp, HG.out.1, HG.out.2.1, _, HS3⟩
                      case measure => have := HG.out; omega
                    · simp only [decide_eq_false hxy] at CX
                      have CX := Lib.hid CX
                      have HS := Lib.hid (fun q => show Q3 w g o n a b f fs (World.drewN _ q) ∧ Srt a i fs from ⟨hJ.out.1.drewN q, hJ.out.2⟩)
                      clear eX eY hxy hn hj ey hj1 k1 k3 hr hkk
                      go_upto_region 22 with fail
                      go_quiet (first | (go_at_call 62; with_reducible exact Calls.quiet_of_same (CX.out _)))
                      have HS3 := Lib.hid (HS.out nq)
                      clear c0 c1 HS
                      go_wp2_with fail
                      go_roundg (6 - (k + 1))
                      case rel => exact ⟨i, k + 1, Nat.le_refl _, rfl, by first | rfl | simp, by have := HK.out; omega, HJ.out.2.2.2, Nat.le_of_lt HJ.out.2.2.1, _, HS3⟩
                      case measure => have := HK.out; omega
                  · have m1 : ¬ (j : Int) < b := by omega
                    clear hn hj hj1 k1 k3 hkk
                    go_wp2_with fail
                    go_roundg (6 - (k + 1))
                    case rel => exact ⟨i, k + 1, Nat.le_refl _, rfl, by first | rfl | simp, by have := HK.out; omega, HJ.out.2.2.2, Nat.le_of_lt HJ.out.2.2.1, _, hJ⟩
                    case measure => have := HK.out; omega
              · have k2 : ¬ (d2 : Int) ≥ 2 := by omega
                have k2' : ¬ (2 : Int) ≤ d2 := k2
                clear hj hn ha ed2 h2 hkk
                go_wp2_with fail
                go_roundg (6 - (k + 1))
                case rel => exact ⟨i, k + 1, Nat.le_refl _, rfl, by first | rfl | simp, by have := HK.out; omega, HJ.out.2.2.2, Nat.le_of_lt HJ.out.2.2.1, _, hI⟩
                case measure => have := HK.out; omega
          · simp only [decide_eq_false hxy] at CX
            have CX := Lib.hid CX
            have HS := Lib.hid (fun q => show Q3 w g o n a b f fr (World.drewN _ q) ∧ Srt a (i + 1) fr from ⟨hI.out.1.drewN q, hI.out.2.snoc ej (by omega) (by rw [eX, eY]; exact hxy)⟩)
            have HG := Lib.hid (show i0 ≤ i + 1 ∧ i + 1 ≤ b ∧ i < n from ⟨by omega, by omega, by omega⟩)
            have i2 := w_add1 (x := i) rfl (by omega)
            clear eX eY hxy hn ha ej hlt h1 h2 hr hkk hI
            go_upto_region 5 with fail
            go_quiet (first | (go_at_call 62; with_reducible exact Calls.quiet_of_same (CX.out _)))
            rename_i nq
            have HS3 := Lib.hid (HS.out nq)
            clear c0 c1 HS
            go_wp2_with fail
            go_roundg (n + 2 - (i + 1))
            case rel => exact ⟨i + 1, Nat.le_refl _, by first | rfl | simp, HG.out.1, HG.out.2.1, HS3⟩
            case measure => have := HG.out; omega
        · have l1 : ¬ (i : Int) < b := by omega
          have hib : i = b := by omega
          have q9 : ((i : Int) == b) = true := by rw [hib]; simp
          have HB := Lib.hid (show Q3 w g o n a b f fr (World.drew _) ∧ Srt a b fr from ⟨hI.out.1.drew, by rw [← hib]; exact hI.out.2⟩)
          clear hn ha hlt h1 h2 hib hkk hI hg
          go_upto_region 5 with fail
          refine region_AU (Z := fun j => false) (S := fun _ => True) (by kernel_rfl) trivial (fun hHeld => ?_)
          refine AUS_take (by kernel_rfl) rfl (i := 0) (oi := _) (v := ?vwa0) rfl (by kernel_rfl) (by kernel_rfl) (by kernel_rfl) (fun _ _ _ h => h) (Or.inl ⟨by rfl, ?hza0⟩) hHeld ?rsta0
          case hza0 => (intro wS hSw; clear hSw; go_simp; try with_reducible rfl)
          simp only [Act.put, List.getElem_toArray, List.getElem_cons_zero, List.getElem_cons_succ, List.setIfInBounds_toArray, List.set_cons_zero, List.set_cons_succ]
          refine AUS_take (by kernel_rfl) rfl (i := 1) (oi := _) (v := ?vwa1) rfl (by kernel_rfl) (by kernel_rfl) (by kernel_rfl) (fun _ _ _ h => h) (Or.inl ⟨by rfl, ?hza1⟩) hHeld ?rsta1
          case hza1 => (intro wS hSw; clear hSw; go_simp; try with_reducible rfl)
          simp only [Act.put, List.getElem_toArray, List.getElem_cons_zero, List.getElem_cons_succ, List.setIfInBounds_toArray, List.set_cons_zero, List.set_cons_succ]
          refine AUS_take (by kernel_rfl) rfl (i := 2) (oi := _) (v := ?vwa2) rfl (by kernel_rfl) (by kernel_rfl) (by kernel_rfl) (fun _ _ _ h => h) (Or.inl ⟨by rfl, ?hza2⟩) hHeld ?rsta2
          case hza2 => (intro wS hSw; clear hSw; go_simp; try with_reducible rfl)
          simp only [Act.put, List.getElem_toArray, List.getElem_cons_zero, List.getElem_cons_succ, List.setIfInBounds_toArray, List.set_cons_zero, List.set_cons_succ]
          refine AUS_take (by kernel_rfl) rfl (i := 3) (oi := _) (v := ?vwa3) rfl (by kernel_rfl) (by kernel_rfl) (by kernel_rfl) (fun _ _ _ h => h) (Or.inl ⟨by rfl, ?hza3⟩) hHeld ?rsta3
          case hza3 => (intro wS hSw; clear hSw; go_simp; try with_reducible rfl)
          simp only [Act.put, List.getElem_toArray, List.getElem_cons_zero, List.getElem_cons_succ, List.setIfInBounds_toArray, List.set_cons_zero, List.set_cons_succ]
          refine AUS_take (by kernel_rfl) rfl (i := 4) (oi := _) (v := undef) rfl (by kernel_rfl) (by kernel_rfl) (by kernel_rfl) (fun _ _ _ h => h) (Or.inr ⟨by rfl, rfl⟩) hHeld ?rsta4
          try simp only [Act.put, List.getElem_toArray, List.getElem_cons_zero, List.getElem_cons_succ, List.setIfInBounds_toArray, List.set_cons_zero, List.set_cons_succ]
          refine AUS_take (by kernel_rfl) rfl (i := 5) (oi := _) (v := undef) rfl (by kernel_rfl) (by kernel_rfl) (by kernel_rfl) (fun _ _ _ h => h) (Or.inr ⟨by rfl, rfl⟩) hHeld ?rsta5
          try simp only [Act.put, List.getElem_toArray, List.getElem_cons_zero, List.getElem_cons_succ, List.setIfInBounds_toArray, List.set_cons_zero, List.set_cons_succ]
          refine AUS_take (by kernel_rfl) rfl (i := 6) (oi := _) (v := undef) rfl (by kernel_rfl) (by kernel_rfl) (by kernel_rfl) (fun _ _ _ h => h) (Or.inr ⟨by rfl, rfl⟩) hHeld ?rsta6
          try simp only [Act.put, List.getElem_toArray, List.getElem_cons_zero, List.getElem_cons_succ, List.setIfInBounds_toArray, List.set_cons_zero, List.set_cons_succ]
          refine AUS_take (by kernel_rfl) rfl (i := 7) (oi := _) (v := undef) rfl (by kernel_rfl) (by kernel_rfl) (by kernel_rfl) (fun _ _ _ h => h) (Or.inr ⟨by rfl, rfl⟩) hHeld ?rsta7
          try simp only [Act.put, List.getElem_toArray, List.getElem_cons_zero, List.getElem_cons_succ, List.setIfInBounds_toArray, List.set_cons_zero, List.set_cons_succ]
          refine AUS_take (by kernel_rfl) rfl (i := 8) (oi := _) (v := undef) rfl (by kernel_rfl) (by kernel_rfl) (by kernel_rfl) (fun _ _ _ h => h) (Or.inr ⟨by rfl, rfl⟩) hHeld ?rsta8
          try simp only [Act.put, List.getElem_toArray, List.getElem_cons_zero, List.getElem_cons_succ, List.setIfInBounds_toArray, List.set_cons_zero, List.set_cons_succ]
          refine AUS_take (by kernel_rfl) rfl (i := 9) (oi := _) (v := undef) rfl (by kernel_rfl) (by kernel_rfl) (by kernel_rfl) (fun _ _ _ h => h) (Or.inr ⟨by rfl, rfl⟩) hHeld ?rsta9
          try simp only [Act.put, List.getElem_toArray, List.getElem_cons_zero, List.getElem_cons_succ, List.setIfInBounds_toArray, List.set_cons_zero, List.set_cons_succ]
          refine AUS_take (by kernel_rfl) rfl (i := 10) (oi := _) (v := undef) rfl (by kernel_rfl) (by kernel_rfl) (by kernel_rfl) (fun _ _ _ h => h) (Or.inr ⟨by rfl, rfl⟩) hHeld ?rsta10
          try simp only [Act.put, List.getElem_toArray, List.getElem_cons_zero, List.getElem_cons_succ, List.setIfInBounds_toArray, List.set_cons_zero, List.set_cons_succ]
          refine AUS_take (by kernel_rfl) rfl (i := 11) (oi := _) (v := undef) rfl (by kernel_rfl) (by kernel_rfl) (by kernel_rfl) (fun _ _ _ h => h) (Or.inr ⟨by rfl, rfl⟩) hHeld ?rsta11
          try simp only [Act.put, List.getElem_toArray, List.getElem_cons_zero, List.getElem_cons_succ, List.setIfInBounds_toArray, List.set_cons_zero, List.set_cons_succ]
          refine AUS_take (by kernel_rfl) rfl (i := 12) (oi := _) (v := undef) rfl (by kernel_rfl) (by kernel_rfl) (by kernel_rfl) (fun _ _ _ h => h) (Or.inr ⟨by rfl, rfl⟩) hHeld ?rsta12
          try simp only [Act.put, List.getElem_toArray, List.getElem_cons_zero, List.getElem_cons_succ, List.setIfInBounds_toArray, List.set_cons_zero, List.set_cons_succ]
          refine AUS_take (by kernel_rfl) rfl (i := 13) (oi := _) (v := undef) rfl (by kernel_rfl) (by kernel_rfl) (by kernel_rfl) (fun _ _ _ h => h) (Or.inr ⟨by rfl, rfl⟩) hHeld ?rsta13
          try simp only [Act.put, List.getElem_toArray, List.getElem_cons_zero, List.getElem_cons_succ, List.setIfInBounds_toArray, List.set_cons_zero, List.set_cons_succ]
          refine AUS_take (by kernel_rfl) rfl (i := 14) (oi := _) (v := undef) rfl (by kernel_rfl) (by kernel_rfl) (by kernel_rfl) (fun _ _ _ h => h) (Or.inr ⟨by rfl, rfl⟩) hHeld ?rsta14
          try simp only [Act.put, List.getElem_toArray, List.getElem_cons_zero, List.getElem_cons_succ, List.setIfInBounds_toArray, List.set_cons_zero, List.set_cons_succ]
          refine AUS_take (by kernel_rfl) rfl (i := 15) (oi := _) (v := ?vwa15) rfl (by kernel_rfl) (by kernel_rfl) (by kernel_rfl) (fun _ _ _ h => h) (Or.inl ⟨by rfl, ?hza15⟩) hHeld ?rsta15
          case hza15 => (intro wS hSw; clear hSw; go_simp; try with_reducible rfl)
          simp only [Act.put, List.getElem_toArray, List.getElem_cons_zero, List.getElem_cons_succ, List.setIfInBounds_toArray, List.set_cons_zero, List.set_cons_succ]
          refine AU_done (by kernel_rfl) ?_ _
          simp only [OnlyN]
          go_wp2_with fail
          go_ret
          exact ⟨true, fr, rfl, HB.out.1, fun _ => HB.out.2⟩
    · have l5 : ¬ (k : Int) < 5 := by omega
      clear hgo hk hk5 h1 h2
      go_wp2_with fail
      go_ret
      exact ⟨false, fr, rfl, hI.out.1, fun h => (by cases h)⟩
theorem partial2_any {w : World} {g o n c : Nat} {f : Nat → Int} (a b : Nat) (h : AR w g o n f) (hb : b ≤ n) (hn : n ≤ 1000) (hab : a < b) (hlo : Lo a b f) :
    Calls Try.prog 61 #[.slice (some ⟨g, o, none⟩) n c, .int .i64 a, .int .i64 b] w fun e w' => PEnd2 w g o n a b f w' e := by
  by_cases h50 : b - a < 50
  · refine (partial_any (c := c) a b h hb hn hab h50).mono ?_
    rintro e w' ⟨⟨r, rfl, hr⟩, hbl⟩
    exact ⟨r, f, rfl, ⟨Turn.of_below hbl, h.below hbl, Rl.refl _ _ _⟩, hr⟩
  · exact partial50_any a b h hb hn (by omega) hlo
end Go.Proofs.Ytodionedjokdmaa
