/- ConfigLimits: the walk. -/
import Derived.Test.YtmadldgajjgbmaaHb
set_option linter.unusedVariables false
set_option linter.unusedSimpArgs false
namespace Go.Proofs.Ytmadldgajjgbmaa
open Go.RowKit
set_option linter.unusedVariables false
set_option linter.unusedSimpArgs false
theorem one_slot {w : World} {SL : Nat} {t : Int} (hS : w.heap[SL]? = some (Obj.cells #[.int .u64 0, .int .i64 t] 49)) (ht : Bi t) : CfR w (some ⟨SL, 0, none⟩) none 1 0 [⟨0, t⟩] [] :=
  ⟨⟨rfl, by decide⟩, fun i x hi => by
    match i, hi with
    | 0, hi =>
      obtain rfl : (⟨0, t⟩ : Sl) = x := by simpa using hi
      refine ⟨SL, 0, rfl, (Array.getElem?_eq_some_iff.1 hS).1, fun j u hu => ?_⟩
      rw [cell_of_row _ _ _ _ _ (0, 0) hS]
      simpa [encSl, inU] using hu, fun x hx => by
    obtain rfl : x = ⟨0, t⟩ := by simpa using hx
    exact ⟨by show (0 : Int) ≤ 18446744073709551615; decide, ht⟩, ⟨rfl, by decide⟩, LV.nil _ _, fun o ho => by cases ho⟩
theorem one_obj {w : World} {SL OB : Nat} {o : Ov} (hS : w.heap[SL]? = some (Obj.cells #[.int .u64 0, .int .i64 1] 49)) (hO : w.heap[OB]? = some (Obj.cells (arO o) 44)) (hr : o.Rd w) : CfR w (some ⟨SL, 0, none⟩) (some ⟨OB, 0, none⟩) 1 1 [⟨0, 1⟩] [o] := by
  have h := one_slot hS (by unfold Bi; decide)
  refine ⟨h.n1, h.r1, h.o1, ⟨rfl, by decide⟩, fun i x hi => ?_, fun x hx => ?_⟩
  · match i, hi with
    | 0, hi =>
      obtain rfl : o = x := by simpa using hi
      refine ⟨OB, 0, rfl, (Array.getElem?_eq_some_iff.1 hO).1, fun j u hu => ?_⟩
      rw [cell_of_row _ _ _ _ _ (0, 0) hO]
      have : (arO o).toList = encO o := rfl
      rw [← this] at hu
      simpa using hu
  · obtain rfl : x = o := by simpa using hx
    exact hr
/-- While slots are filled, while objects come. -/
def L3 (W : World) (C NB n k : Nat) (w : World) : Prop := Below W.heap.size W w ∧ w.heap[C]? = some (Obj.cells #[.int .i64 1, .int .i64 100, .int .i64 9, .slice (some ⟨NB, 0, none⟩) n n, .slice none 0 0] 29) ∧ ∃ cur, w.heap[NB]? = some (Obj.cells cur 49) ∧ Sls n k cur
def L5 (W : World) (C SL k : Nat) (w : World) : Prop := Below W.heap.size W w ∧ w.heap[SL]? = some (Obj.cells #[.int .u64 0, .int .i64 1] 49) ∧ ∃ vo, w.heap[C]? = some (Obj.cells #[.int .i64 1, .int .i64 100, .int .i64 9, .slice (some ⟨SL, 0, none⟩) 1 1, vo] 29) ∧ RV (fun b => W.heap.size ≤ b) 44 12 encO w vo (List.replicate k dvo)
set_option maxHeartbeats 8000000 in
set_option maxRecDepth 100000 in
theorem limits_all (which more : Int) (W : World) : Calls Try.prog 6 #[.int .i64 which, .int .i64 more] W (BB W true) := by
  obtain ⟨m, em, hm⟩ : ∃ m : Nat, bits .and .i64 more 1 = (m : Int) ∧ (m = 0 ∨ m = 1) := ⟨(more % 2).toNat, by rw [i64_and1]; omega, by omega⟩
  obtain ⟨r1, er1, hr1⟩ : ∃ r1, which.tmod 7 = r1 ∧ -7 < r1 ∧ r1 < 7 := ⟨_, rfl, by have := Int.lt_tmod_of_pos which (b := 7) (by decide); have := Int.tmod_lt_of_pos which (b := 7) (by decide); omega⟩
  obtain ⟨r, er, hr⟩ : ∃ r : Int, (r1 + 7).tmod 7 = r ∧ 0 ≤ r ∧ r < 7 := ⟨_, rfl, by rw [Int.tmod_eq_emod_of_nonneg (by omega)]; omega⟩
  have i1 : IntKind.i64.wrap r1 = r1 := by rw [IntKind.wrap_i64]; omega
  have i2 : IntKind.i64.wrap (r1 + 7) = r1 + 7 := by rw [IntKind.wrap_i64]; omega
  have i3 : IntKind.i64.wrap r = r := by rw [IntKind.wrap_i64]; omega
  have HM := Lib.hid hm
  have HR := Lib.hid hr
  have CF := Lib.hid (fit_any W)
  clear hr1 hm hr
  go_enter Try.func6, Try.ntmps6
  go_wp2_with fail
  refine CF.out.mono ?_; rintro e w1 ⟨rfl, hb⟩
  have HB1 := Lib.hid hb
  clear hb CF
  go_upto_region 5 with fail
  obtain ⟨SL, eSL⟩ : ∃ SL, w1.heap.size = SL := ⟨_, rfl⟩
  obtain ⟨w2, e2⟩ : ∃ w2, w1.alloc (Obj.cells #[.int .u64 0, .int .i64 1] 49) = w2 := ⟨_, rfl⟩
  obtain ⟨C, eC⟩ : ∃ C, w2.heap.size = C := ⟨_, rfl⟩
  obtain ⟨w3, e3⟩ : ∃ w3, w2.alloc (Obj.cells #[.int .i64 1, .int .i64 100, .int .i64 9, .slice (some ⟨SL, 0, none⟩) 1 1, .slice none 0 0] 29) = w3 := ⟨_, rfl⟩
  have hC1 : SL + 1 = C := by rw [← eC, ← e2, ← eSL]; simp
  have hb2 : Below w1.heap.size w1 w2 := by rw [← e2]; exact below_alloc1 w1 _
  have hS2 : w2.heap[SL]? = some (Obj.cells #[.int .u64 0, .int .i64 1] 49) := by rw [← e2, ← eSL]; exact heap_alloc_new w1 _
  have hb3 : Below w2.heap.size w2 w3 := by rw [← e3]; exact below_alloc1 w2 _
  have hC3 : w3.heap[C]? = some (Obj.cells #[.int .i64 1, .int .i64 100, .int .i64 9, .slice (some ⟨SL, 0, none⟩) 1 1, .slice none 0 0] 29) := by rw [← e3, ← eC]; exact heap_alloc_new w2 _
  try rw [eSL]
  try rw [e2]
  try rw [hC1]
  try rw [e3]
  have hS3 : w3.heap[SL]? = some (Obj.cells #[.int .u64 0, .int .i64 1] 49) := (hb3.block _ (Array.getElem?_eq_some_iff.1 hS2).1).trans hS2
  have hB3 : Below W.heap.size W w3 := HB1.out.trans ((hb2.trans (hb3.mono hb2.size)).mono HB1.out.size)
  have hn : W.heap.size ≤ SL ∧ W.heap.size ≤ C ∧ SL ≠ C ∧ C < w3.heap.size := ⟨by rw [← eSL]; exact HB1.out.size, by have := HB1.out.size; omega, by omega, (Array.getElem?_eq_some_iff.1 hC3).1⟩
  have HS := Lib.hid (And.intro hC3 (And.intro hS3 (And.intro hB3 hn)))
  clear hb2 hb3 hS2 hS3 hB3 hn e2 e3 eSL eC hC1 hC3
  go_upto_block 0 with fail
  clear em er er1 i1 i2 i3
  have g0 : w3.cell? ⟨C, 0, none⟩ = some (.int .i64 1) := by rw [cell_of_row _ _ _ _ _ (0, 0) HS.out.1]; rfl
  have g1 : w3.cell? ⟨C, 1, none⟩ = some (.int .i64 100) := by rw [cell_of_row _ _ _ _ _ (0, 0) HS.out.1]; rfl
  have g2 : w3.cell? ⟨C, 2, none⟩ = some (.int .i64 9) := by rw [cell_of_row _ _ _ _ _ (0, 0) HS.out.1]; rfl
  have g3 : w3.cell? ⟨C, 3, none⟩ = some (.slice (some ⟨SL, 0, none⟩) 1 1) := by rw [cell_of_row _ _ _ _ _ (0, 0) HS.out.1]; rfl
  have g4 : w3.cell? ⟨C, 4, none⟩ = some (.slice none 0 0) := by rw [cell_of_row _ _ _ _ _ (0, 0) HS.out.1]; rfl
  have gf : ∀ i, w3.frozen? ⟨C, i, none⟩ = false := fun i => frozen_of_row _ _ _ _ _ HS.out.1
  have s1 : w3.cell? ⟨SL, 1, none⟩ = some (.int .i64 1) := by rw [cell_of_row _ _ _ _ _ (0, 0) HS.out.2.1]; rfl
  have sf : ∀ i, w3.frozen? ⟨SL, i, none⟩ = false := fun i => frozen_of_row _ _ _ _ _ HS.out.2.1
  have hm1 : m ≤ 1 := by have := HM.out; omega
  have j0 : IntKind.i64.wrap (4 + (m : Int)) = 4 + m := by rw [IntKind.wrap_i64]; omega
  have j1 : IntKind.i64.wrap (4096 + (m : Int)) = 4096 + m := by rw [IntKind.wrap_i64]; omega
  have j2 : IntKind.i64.wrap (4194302 + (m : Int)) = 4194302 + m := by rw [IntKind.wrap_i64]; omega
  have j3 : IntKind.i64.wrap (8 + (m : Int)) = ((8 + m : Nat) : Int) := by rw [IntKind.wrap_i64]; omega
  have j4 : IntKind.i64.wrap (16 + (m : Int)) = 16 + m := by rw [IntKind.wrap_i64]; omega
  have j5 : IntKind.i64.wrap (64 + (m : Int)) = ((64 + m : Nat) : Int) := by rw [IntKind.wrap_i64]; omega
  clear hm1
  go_cut [6] from 18 to 78 (fun v6 wx => ∃ co fr nm A1 l1 c1 A2 l2 c2 xs ovs, Hid (Below W.heap.size W wx ∧ wx.heap[C]? = some (Obj.cells #[.int .i64 co, .int .i64 fr, .int .i64 nm, .slice A1 l1 c1, .slice A2 l2 c2] 29) ∧ CfR wx A1 A2 l1 l2 xs ovs ∧ l2 ≤ c2 ∧ rightB co fr nm xs (ovs.map Ov.m) = decide (m = 0)))
  case first =>
    rcases (by have := HR.out; omega : r = 0 ∨ r = 1 ∨ r = 2 ∨ r = 3 ∨ r = 4 ∨ r = 5 ∨ r = 6) with h | h | h | h | h | h | h <;> subst h
    · clear j1 j2 j3 j4 j5
      go_wp2_with fail
      go_meet
      have h1 := heap_setCell_same w3 C 0 _ 29 (.int .i64 (4 + m)) HS.out.1
      have h2 := (heap_setCell_other w3 ⟨C, 0, none⟩ SL (.int .i64 (4 + m)) HS.out.2.2.2.2.2.1).trans HS.out.2.1
      exact ⟨_, _, _, _, _, _, _, _, _, _, _, Lib.hid ⟨HS.out.2.2.1.setCell (p := ⟨C, 0, none⟩) HS.out.2.2.2.2.1 _, h1, one_slot h2 (by unfold Bi; decide), Nat.le_refl _, right_cores m HM.out⟩⟩
    · clear j0 j2 j3 j4 j5
      go_wp2_with fail
      go_meet
      have h1 := heap_setCell_same w3 C 1 _ 29 (.int .i64 (4096 + m)) HS.out.1
      have h2 := (heap_setCell_other w3 ⟨C, 1, none⟩ SL (.int .i64 (4096 + m)) HS.out.2.2.2.2.2.1).trans HS.out.2.1
      exact ⟨_, _, _, _, _, _, _, _, _, _, _, Lib.hid ⟨HS.out.2.2.1.setCell (p := ⟨C, 1, none⟩) HS.out.2.2.2.2.1 _, h1, one_slot h2 (by unfold Bi; decide), Nat.le_refl _, right_frames m HM.out⟩⟩
    · clear j0 j1 j3 j4 j5
      go_wp2_with fail
      go_meet
      have h1 := heap_setCell_same w3 C 2 _ 29 (.int .i64 (4194302 + m)) HS.out.1
      have h2 := (heap_setCell_other w3 ⟨C, 2, none⟩ SL (.int .i64 (4194302 + m)) HS.out.2.2.2.2.2.1).trans HS.out.2.1
      exact ⟨_, _, _, _, _, _, _, _, _, _, _, Lib.hid ⟨HS.out.2.2.1.setCell (p := ⟨C, 2, none⟩) HS.out.2.2.2.2.1 _, h1, one_slot h2 (by unfold Bi; decide), Nat.le_refl _, right_names m HM.out⟩⟩
    · clear j0 j1 j2 j4 j5
      obtain ⟨n, en⟩ : ∃ n, 8 + m = n := ⟨_, rfl⟩
      have hn9 : n ≤ 9 := by have := HM.out; omega
      have hq0 : Sls n 0 (madeCells #[.int .u64 0, .int .i64 0] (n * 2)) := by rw [← en]; exact sls_m HM.out
      have HN := Lib.hid (And.intro en hn9)
      rw [en] at j3
      obtain ⟨NB, eN⟩ : ∃ NB, w3.heap.size = NB := ⟨_, rfl⟩
      obtain ⟨w4, e4⟩ : ∃ w4, w3.alloc (Obj.cells (madeCells #[.int .u64 0, .int .i64 0] (n * 2)) 49) = w4 := ⟨_, rfl⟩
      have hms := run_slots w3 n (by omega)
      rw [e4, eN] at hms
      have hb4 : Below w3.heap.size w3 w4 := by rw [← e4]; exact below_alloc1 w3 _
      have hN4 : w4.heap[NB]? = some (Obj.cells (madeCells #[.int .u64 0, .int .i64 0] (n * 2)) 49) := by rw [← e4, ← eN]; exact heap_alloc_new w3 _
      have hC4 := (hb4.block _ HS.out.2.2.2.2.2.2).trans HS.out.1
      have hB4 : Below W.heap.size W w4 := HS.out.2.2.1.trans (hb4.mono HS.out.2.2.1.size)
      have hNC : NB ≠ C := by have := HS.out.2.2.2.2.2.2; omega
      have hNW : W.heap.size ≤ NB := by rw [← eN]; exact HS.out.2.2.1.size
      have h1 := heap_setCell_same w4 C 3 _ 29 (.slice (some ⟨NB, 0, none⟩) n n) hC4
      have h3 := (heap_setCell_other w4 ⟨C, 3, none⟩ NB (.slice (some ⟨NB, 0, none⟩) n n) hNC).trans hN4
      have HF := Lib.hid (show L3 W C NB n 0 _ from ⟨hB4.setCell (p := ⟨C, 3, none⟩) HS.out.2.2.2.2.1 (.slice (some ⟨NB, 0, none⟩) n n), h1, _, h3, hq0⟩)
      have HNN := Lib.hid (And.intro hNC hNW)
      have gf4 : ∀ i, w4.frozen? ⟨C, i, none⟩ = false := fun i => frozen_of_row _ _ _ _ _ hC4
      have g34 : w4.cell? ⟨C, 3, none⟩ = some (.slice (some ⟨SL, 0, none⟩) 1 1) := by rw [cell_of_row _ _ _ _ _ (0, 0) hC4]; rfl
      obtain ⟨w5, e5⟩ : ∃ w5, w4.setCell ⟨C, 3, none⟩ (.slice (some ⟨NB, 0, none⟩) n n) = w5 := ⟨_, rfl⟩
      rw [e5] at HF
      have g35 : w5.cell? ⟨C, 3, none⟩ = some (.slice (some ⟨NB, 0, none⟩) n n) := by rw [cell_of_row _ _ _ _ _ (0, 0) HF.out.2.1]; rfl
      clear hb4 hN4 hC4 hB4 hNC hNW h1 h3 g0 g1 g2 g3 g4 gf s1 sf hq0 en e4 eN hn9
      go_wp2_with fail
      go_loopg [6, 48] n (fun gh v6 vi wr => ∃ k : Nat, k ≤ n ∧ n - k ≤ gh ∧ vi = .int .i64 k ∧ Hid (L3 W C NB n k wr))
      case atStart => exact ⟨0, by omega, by omega, rfl, HF⟩
      case round =>
        obtain ⟨k, hk, hg, rfl, hI⟩ := hrel
        clear hms gf4 g34 e5 g35 j3
        by_cases hlt : k < n
        · have l1 : (k : Int) < n := by omega
          have iw : IntKind.i64.wrap ((k : Int) + 1) = ((k + 1 : Nat) : Int) := by have := HN.out.2; rw [IntKind.wrap_i64]; omega
          obtain ⟨b1, b2, cur, b3, b4⟩ := hI.out
          have c3 : wr.cell? ⟨C, 3, none⟩ = some (.slice (some ⟨NB, 0, none⟩) n n) := by rw [cell_of_row _ _ _ _ _ (0, 0) b2]; rfl
          have c1 : wr.cell? ⟨NB, k * 2 + 1, none⟩ = some (.int .i64 0) := by rw [cell_of_row _ _ _ _ _ (0, 0) b3, (b4.2 k hlt).2, if_neg (by omega)]
          have f1 : ∀ i, wr.frozen? ⟨NB, i, none⟩ = false := fun i => frozen_of_row _ _ _ _ _ b3
          have h1 := heap_setCell_same wr NB (k * 2 + 1) _ 49 (.int .i64 1) b3
          have h2 := (heap_setCell_other wr ⟨NB, k * 2 + 1, none⟩ C (.int .i64 1) (Ne.symm HNN.out.1)).trans b2
          have HF2 := Lib.hid (show L3 W C NB n (k + 1) _ from ⟨b1.setCell (p := ⟨NB, k * 2 + 1, none⟩) HNN.out.2 (.int .i64 1), h2, _, h1, b4.set hlt⟩)
          have HG := Lib.hid (And.intro hg hlt)
          clear b1 b2 b3 b4 h1 h2 hg hlt hk hI HF
          go_wp2_with fail
          go_roundg (n - (k + 1))
          case rel => exact ⟨k + 1, HG.out.2, Nat.le_refl _, by first | rfl | simp, HF2⟩
          case measure => have := HG.out; omega
        · have l1 : ¬ (k : Int) < n := by omega
          obtain rfl : k = n := by omega
          clear hlt hg hk HF
          go_wp2_with fail
          go_meet
          obtain ⟨b1, b2, cur, b3, b4⟩ := hI.out
          have hd := one_slot (w := wr) (SL := NB) (t := 1)
          exact ⟨_, _, _, _, _, _, none, 0, 0, List.replicate k ⟨0, 1⟩, [], Lib.hid ⟨b1, b2, ⟨⟨by simp, by have := HN.out.2; omega⟩, b4.lv b3, fun x hx => by
            obtain rfl := List.eq_of_mem_replicate hx
            exact ⟨by show (0 : Int) ≤ 18446744073709551615; decide, by unfold Bi; decide⟩, ⟨rfl, by decide⟩, LV.nil _ _, fun o ho => by cases ho⟩, Nat.le_refl _, by rw [← HN.out.1]; exact right_slots m HM.out⟩⟩
    · clear j0 j1 j2 j3 j5
      go_wp2_with fail
      go_meet
      have h1 := heap_setCell_same w3 SL 1 _ 49 (.int .i64 (16 + m)) HS.out.2.1
      have h2 := (heap_setCell_other w3 ⟨SL, 1, none⟩ C (.int .i64 (16 + m)) HS.out.2.2.2.2.2.1.symm).trans HS.out.1
      exact ⟨_, _, _, _, _, _, _, _, _, _, _, Lib.hid ⟨HS.out.2.2.1.setCell (p := ⟨SL, 1, none⟩) HS.out.2.2.2.1 _, h2, one_slot h1 (by have := HM.out; unfold Bi; omega), Nat.le_refl _, right_ticks m HM.out⟩⟩
    · clear j0 j1 j2 j3 j4
      obtain ⟨n, en⟩ : ∃ n, 64 + m = n := ⟨_, rfl⟩
      have hn9 : n ≤ 65 := by have := HM.out; omega
      have HN := Lib.hid (And.intro en hn9)
      rw [en] at j5
      have HF := Lib.hid (show L5 W C SL 0 w3 from ⟨HS.out.2.2.1, HS.out.2.1, _, HS.out.1, RV.nil _ _⟩)
      clear hn9 en g0 g1 g2 g3 g4 gf s1 sf
      go_wp2_with fail
      go_loopg [69] n (fun gh vi wr => ∃ k : Nat, k ≤ n ∧ n - k ≤ gh ∧ vi = .int .i64 k ∧ Hid (L5 W C SL k wr))
      case atStart => exact ⟨0, by omega, by omega, rfl, HF⟩
      case round =>
        obtain ⟨k, hk, hg, rfl, hI⟩ := hrel
        clear j5
        by_cases hlt : k < n
        · have l1 : (k : Int) < n := by omega
          have iw : IntKind.i64.wrap ((k : Int) + 1) = ((k + 1 : Nat) : Int) := by have := HN.out.2; rw [IntKind.wrap_i64]; omega
          obtain ⟨b1, b2, vo, b3, b4⟩ := hI.out
          obtain ⟨v', w5, hrun, hrv, S, hT, hSS⟩ := app_ob (w := wr) 27 dvo b4 (by rw [List.length_replicate]; have := HN.out.2; omega)
          obtain ⟨A', c', ev', _⟩ := hrv.form
          obtain ⟨l', el'⟩ : ∃ l', (List.replicate k dvo ++ [dvo]).length = l' := ⟨_, rfl⟩
          rw [el'] at ev'
          subst ev'
          have c4 : wr.cell? ⟨C, 4, none⟩ = some vo := by rw [cell_of_row _ _ _ _ _ (0, 0) b3]; rfl
          have hk2 : ∀ b cur u, u ≠ 44 → wr.heap[b]? = some (Obj.cells cur u) → w5.heap[b]? = some (Obj.cells cur u) := fun b cur u hu hb => (hT.block b (Array.getElem?_eq_some_iff.1 hb).1 fun hm => by
            obtain ⟨_, cur', h2⟩ := hSS b hm
            exact hu (cells_ty hb h2)).trans hb
          have hC5 := hk2 C _ _ (by decide) b3
          have hS5 := hk2 SL _ _ (by decide) b2
          have h1 := heap_setCell_same w5 C 4 _ 29 (.slice A' l' c') hC5
          have h2 := (heap_setCell_other w5 ⟨C, 4, none⟩ SL (.slice A' l' c') HS.out.2.2.2.2.2.1).trans hS5
          have hbw := (b1.trans (hT.below b1.size fun b hb => (hSS b hb).1)).setCell (p := ⟨C, 4, none⟩) HS.out.2.2.2.2.1 (.slice A' l' c')
          have hrv2 : RV (fun b => W.heap.size ≤ b) 44 12 encO (w5.setCell ⟨C, 4, none⟩ (.slice A' l' c')) (.slice A' l' c') (List.replicate (k + 1) dvo) := by
            rw [List.replicate_succ']
            refine hrv.keep fun b cur h1 hb => ⟨by rcases h1 with h | h; exact h; exact Nat.le_trans b1.size h, heap_setCell_other _ _ _ _ fun e => ?_⟩
            rw [e] at hb
            exact absurd (cells_ty hb hC5) (by decide)
          have f5 : ∀ i, w5.frozen? ⟨C, i, none⟩ = false := fun i => frozen_of_row _ _ _ _ _ hC5
          have c5 : w5.cell? ⟨C, 4, none⟩ = some vo := by rw [cell_of_row _ _ _ _ _ (0, 0) hC5]; rfl
          have HF2 := Lib.hid (show L5 W C SL (k + 1) _ from ⟨hbw, h2, _, h1, hrv2⟩)
          have HR2 := Lib.hid hrun
          have HG := Lib.hid (And.intro hg hlt)
          clear b1 b2 b3 b4 h1 h2 hg hlt hk hI HF hrun hrv hT hSS hk2 hC5 hS5 hbw hrv2
          go_wp2_with (at_builtin; refine wpList_append_by rfl (.tmp 72) (.tmp 75) _ _ rfl _ _ _ rfl rfl w5 HR2.out ?_)
          go_roundg (n - (k + 1))
          case rel => exact ⟨k + 1, HG.out.2, Nat.le_refl _, by first | rfl | simp, HF2⟩
          case measure => have := HG.out; omega
        · have l1 : ¬ (k : Int) < n := by omega
          obtain rfl : k = n := by omega
          clear hlt hg hk HF
          go_wp2_with fail
          go_meet
          obtain ⟨b1, b2, vo, b3, b4⟩ := hI.out
          obtain ⟨A2, c2, rfl, hc, _, hlv⟩ := b4.form
          rw [List.length_replicate] at b3 hc
          have hs := one_slot b2 (by unfold Bi; decide)
          exact ⟨_, _, _, _, _, _, A2, k, c2, [⟨0, 1⟩], List.replicate k dvo, Lib.hid ⟨b1, b3, ⟨hs.n1, hs.r1, hs.o1, ⟨by simp, by have := HN.out.2; omega⟩, hlv, fun o ho => by
            obtain rfl := List.eq_of_mem_replicate ho
            exact nil_rd _ ⟨rfl, rfl⟩ ⟨rfl, rfl⟩ ⟨rfl, rfl⟩ ⟨rfl, rfl⟩⟩, hc, by rw [List.map_replicate, ← HN.out.1]; exact right_objs m HM.out⟩⟩
    · clear j0 j1 j2 j3 j5
      obtain ⟨w4, e4⟩ : ∃ w4, w3.alloc (Obj.cells (arO ⟨⟨2, 0, 2, [], 0, [], 16 + m, 0, [], [], 0, 0⟩, ⟨none, 0, 0⟩, ⟨none, 0, 0⟩, ⟨none, 0, 0⟩, ⟨none, 0, 0⟩⟩) 44) = w4 := ⟨_, rfl⟩
      obtain ⟨OB, eO⟩ : ∃ OB, w3.heap.size = OB := ⟨_, rfl⟩
      have hb4 : Below w3.heap.size w3 w4 := by rw [← e4]; exact below_alloc1 w3 _
      have hO4 : w4.heap[OB]? = some (Obj.cells (arO ⟨⟨2, 0, 2, [], 0, [], 16 + m, 0, [], [], 0, 0⟩, ⟨none, 0, 0⟩, ⟨none, 0, 0⟩, ⟨none, 0, 0⟩, ⟨none, 0, 0⟩⟩) 44) := by rw [← e4, ← eO]; exact heap_alloc_new w3 _
      have hC4 := (hb4.block _ HS.out.2.2.2.2.2.2).trans HS.out.1
      have hS4 := (hb4.block _ (Array.getElem?_eq_some_iff.1 HS.out.2.1).1).trans HS.out.2.1
      have hB4 : Below W.heap.size W w4 := HS.out.2.2.1.trans (hb4.mono HS.out.2.2.1.size)
      have hOC : OB ≠ C := by have := HS.out.2.2.2.2.2.2; omega
      have h1 := heap_setCell_same w4 C 4 _ 29 (.slice (some ⟨OB, 0, none⟩) 1 1) hC4
      have h2 := (heap_setCell_other w4 ⟨C, 4, none⟩ SL (.slice (some ⟨OB, 0, none⟩) 1 1) HS.out.2.2.2.2.2.1).trans hS4
      have h3 := (heap_setCell_other w4 ⟨C, 4, none⟩ OB (.slice (some ⟨OB, 0, none⟩) 1 1) hOC).trans hO4
      have HF := Lib.hid (And.intro (hB4.setCell (p := ⟨C, 4, none⟩) HS.out.2.2.2.2.1 (.slice (some ⟨OB, 0, none⟩) 1 1)) (And.intro h1 (one_obj h2 h3 (nil_rd _ ⟨rfl, rfl⟩ ⟨rfl, rfl⟩ ⟨rfl, rfl⟩ ⟨rfl, rfl⟩))))
      have gf4 : ∀ i, w4.frozen? ⟨C, i, none⟩ = false := fun i => frozen_of_row _ _ _ _ _ hC4
      have g44 : w4.cell? ⟨C, 4, none⟩ = some (.slice none 0 0) := by rw [cell_of_row _ _ _ _ _ (0, 0) hC4]; rfl
      unfold arO at e4
      try simp only at e4
      clear hb4 hO4 hC4 hS4 hB4 hOC h1 h2 h3 g0 g1 g2 g3 g4 gf s1 sf
      go_wp2_with fail
      go_meet
      exact ⟨_, _, _, _, _, _, _, _, _, _, _, Lib.hid ⟨HF.out.1, HF.out.2.1, HF.out.2.2, Nat.le_refl _, right_seg m HM.out⟩⟩
  case rest =>
    obtain ⟨co, fr, nm, A1, l1, c1, A2, l2, c2, xs, ovs, hI⟩ := hcut
    have CR := cright_any (co := co) (fr := fr) (nm := nm) (c1 := c1) hI.out.2.2.1 hI.out.2.2.2.1
    rw [hI.out.2.2.2.2] at CR
    have CR := Lib.hid CR
    have g0 : wc.cell? ⟨C, 0, none⟩ = some (.int .i64 co) := by rw [cell_of_row _ _ _ _ _ (0, 0) hI.out.2.1]; rfl
    have g1 : wc.cell? ⟨C, 1, none⟩ = some (.int .i64 fr) := by rw [cell_of_row _ _ _ _ _ (0, 0) hI.out.2.1]; rfl
    have g2 : wc.cell? ⟨C, 2, none⟩ = some (.int .i64 nm) := by rw [cell_of_row _ _ _ _ _ (0, 0) hI.out.2.1]; rfl
    have g3 : wc.cell? ⟨C, 3, none⟩ = some (.slice A1 l1 c1) := by rw [cell_of_row _ _ _ _ _ (0, 0) hI.out.2.1]; rfl
    have g4 : wc.cell? ⟨C, 4, none⟩ = some (.slice A2 l2 c2) := by rw [cell_of_row _ _ _ _ _ (0, 0) hI.out.2.1]; rfl
    go_wp2_with fail
    refine CR.out.mono ?_; rintro e w5 ⟨rfl, hb⟩
    have HB5 := Lib.hid (hI.out.1.trans (hb.mono hI.out.1.size))
    clear hb CR hI g0 g1 g2 g3 g4
    rcases HM.out with rfl | rfl
    · go_wp2_with fail
      go_ret
      exact ⟨rfl, HB5.out⟩
    · go_wp2_with fail
      go_ret
      exact ⟨rfl, HB5.out⟩
theorem li_law (x0 x1 : Int) (W : World) (_ : -9223372036854775808 ≤ x0 ∧ x0 ≤ 9223372036854775807) (_ : -9223372036854775808 ≤ x1 ∧ x1 ≤ 9223372036854775807) : Calls Try.prog 6 #[.int .i64 x0, .int .i64 x1] W fun e w' => e = .returned (.bool true) ∧ Below W.heap.size W w' := limits_all x0 x1 W
end Go.Proofs.Ytmadldgajjgbmaa
