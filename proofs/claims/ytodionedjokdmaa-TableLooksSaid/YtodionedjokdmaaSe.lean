import Derived.Test.YtodionedjokdmaaSa
namespace Go.Proofs.Ytodionedjokdmaa
open Go.RowKit
set_option linter.unusedVariables false
set_option linter.unusedSimpArgs false
attribute [local go_sem] Oper.semAt_some

/-- What a round of the loop over both labels keeps. -/
def KpB (n₀ B1 B2 : Nat) (W W' : World) : Prop := Below n₀ W W' ∧ (∀ o, W.heap[B1]? = some o → W'.heap[B1]? = some o) ∧ (∀ o, W.heap[B2]? = some o → W'.heap[B2]? = some o)
def encs (t : Nat × Int × Int) : Array Value := #[.int .u32 (t.1 : Int), .agg #[.int .i64 t.2.1, .int .i64 t.2.2]]
theorem grown_of_below {w w' : World} (hb : Below w.heap.size w w') : w.grownBy w' none := ⟨hb.os, hb.tape, hb.output, hb.size, fun k hk _ => hb.block k hk⟩
theorem fresh2 (w : World) (t : TypeId) (a b u v : Value) :
    (w.alloc (Obj.cells #[a, b] t)).cell? ⟨w.heap.size, 0, none⟩ = some a ∧ (w.alloc (Obj.cells #[a, b] t)).frozen? ⟨w.heap.size, 0, none⟩ = false ∧
    ((w.alloc (Obj.cells #[a, b] t)).setCell ⟨w.heap.size, 0, none⟩ u).cell? ⟨w.heap.size, 1, none⟩ = some b ∧ ((w.alloc (Obj.cells #[a, b] t)).setCell ⟨w.heap.size, 0, none⟩ u).frozen? ⟨w.heap.size, 1, none⟩ = false ∧
    (((w.alloc (Obj.cells #[a, b] t)).setCell ⟨w.heap.size, 0, none⟩ u).setCell ⟨w.heap.size, 1, none⟩ v).heap[w.heap.size]? = some (Obj.cells #[u, v] t) := by
  have h := heap_alloc_new w (Obj.cells #[a, b] t)
  have h1 := heap_setCell_same _ _ 0 _ t u h
  have h2 := heap_setCell_same _ _ 1 _ t v h1
  refine ⟨by rw [cell_of_row _ _ 0 _ t (0, 0) h]; rfl, frozen_of_row _ _ 0 _ t h, by rw [cell_of_row _ _ 1 _ t (0, 0) h1]; rfl, frozen_of_row _ _ 1 _ t h1, ?_⟩
  simpa using h2
set_option maxRecDepth 100000 in
set_option maxHeartbeats 4000000 in
theorem iter_in (n l B1 B2 n₀ : Nat) (hn : 1 ≤ n) (D E : Int) (v1 v2 : Value) (ps qs : List (Nat × Int)) (J Jx : List (Nat × Int × Int) → World → Prop) (W : World)
    (hJ : AbidesFrom W.heap.size J) (h0 : J [] W) (k1 : W.heap[B1]? = some (Obj.cells #[.int .i64 D, v1] 44)) (k2 : W.heap[B2]? = some (Obj.cells #[.int .i64 E, v2] 44)) (hn₀ : n₀ ≤ W.heap.size)
    (r1 : RC n₀ W v1 ps) (r2 : RC n₀ W v2 qs)
    (hY : ∀ pre t W1, J pre W1 → pre.length < (Lab.zipm D E ps qs).length → YieldAt Fence.wide (n - 1) Try.prog l (encs t) W1 fun e W' =>
      (e = .returned (.bool true) ∧ J (pre ++ [t]) W' ∧ KpB n₀ B1 B2 W1 W') ∨ (e = .returned (.bool false) ∧ Jx (pre ++ [t]) W')) :
    CallsIn Fence.wide n Try.prog 54 #[.func (.yield l) #[] #[], .pointer (some ⟨B1, 0, none⟩), .pointer (some ⟨B2, 0, none⟩)] W fun e W' => (∃ v, e = .returned v) ∧
      ((∃ ys, ys = Lab.zipm D E ps qs ∧ J ys W') ∨ (∃ pre, pre <+: Lab.zipm D E ps qs ∧ Jx pre W')) := by
  have HY := Lib.hid hY
  have HJ := Lib.hid hJ
  have H0 := Lib.hid h0
  have K := Lib.hid (And.intro k1 k2)
  have R1 := Lib.hid r1
  have R2 := Lib.hid r2
  have d1 : W.cell? ⟨B1, 1, none⟩ = some v1 := by rw [cell_of_row _ _ 1 _ 44 (0, 0) k1]; rfl
  have d2 : W.cell? ⟨B2, 1, none⟩ = some v2 := by rw [cell_of_row _ _ 1 _ 44 (0, 0) k2]; rfl
  clear hY hJ h0 r1 r2 k1 k2
  obtain ⟨a1, m1, c1, e1⟩ : ∃ a m c, v1 = .slice a m c := by rcases R1.out with ⟨h, _⟩ | ⟨b, off, cap, h, _⟩ <;> exact ⟨_, _, _, h⟩
  obtain ⟨a2, m2, c2, e2⟩ : ∃ a m c, v2 = .slice a m c := by rcases R2.out with ⟨h, _⟩ | ⟨b, off, cap, h, _⟩ <;> exact ⟨_, _, _, h⟩
  subst e1 e2
  refine callsIn_wide.2 ?_
  go_enter Try.func54, Try.ntmps54
  go_wp2
  go_quiet (fail)
  go_wp2_with fail
  go_loopg [4, 5] (ps.length + qs.length) (fun g p q wr => ∃ pre xs ys, Hid (Lab.zipm D E ps qs = pre ++ Lab.zipm D E xs ys) ∧ Hid (g = xs.length + ys.length) ∧ Hid (RC n₀ wr p xs) ∧ Hid (RC n₀ wr q ys) ∧ Hid (J pre wr) ∧
    Hid (n₀ ≤ wr.heap.size ∧ wr.heap[B1]? = some (Obj.cells #[.int .i64 D, .slice a1 m1 c1] 44) ∧ wr.heap[B2]? = some (Obj.cells #[.int .i64 E, .slice a2 m2 c2] 44)))
  case atStart => exact ⟨[], ps, qs, Lib.hid rfl, Lib.hid rfl, Lib.hid (R1.out.below (below_drewN (Below.refl _ _) _)), Lib.hid (R2.out.below (below_drewN (Below.refl _ _) _)), Lib.hid (HJ.out _ _ _ none H0.out (grown_of_below (below_drewN (Below.refl _ _) _)) (by simp)), Lib.hid ⟨hn₀, K.out⟩⟩
  case round =>
    obtain ⟨pre, xs, ys, hz, hg, hp, hq, hJs, hk⟩ := hrel
    have w1 : wr.cell? ⟨B1, 0, none⟩ = some (.int .i64 D) := by rw [cell_of_row _ _ 0 _ 44 (0, 0) hk.out.2.1]; rfl
    have w2 : wr.cell? ⟨B2, 0, none⟩ = some (.int .i64 E) := by rw [cell_of_row _ _ 0 _ 44 (0, 0) hk.out.2.2]; rfl
    cases xs with
    | nil =>
      cases ys with
      | nil =>
        obtain ⟨ap, cp, rfl⟩ := hp.out.nil
        obtain ⟨aq, cq, rfl⟩ := hq.out.nil
        have hz7 : Hid (Lab.zipm D E ps qs = pre) := Lib.hid (by rw [hz.out, Lab.zipm_nn]; simp)
        go_wp2_with fail
        go_end0
        exact ⟨⟨_, rfl⟩, .inl ⟨_, rfl, by rw [hz7.out]; exact hJs.out⟩⟩
      | cons y ys =>
        obtain ⟨y1, y2⟩ := y
        obtain ⟨ap, cp, rfl⟩ := hp.out.nil
        obtain ⟨b2, o2, cap2, o2', rfl, hb2, hcap2, h1, h2, hsl2, hrest2⟩ := hq.out.cons
        have HP := Lib.hid hp.out
        have HQ := Lib.hid hq.out
        have HR2 := Lib.hid hrest2
        have C1 := Lib.hid (first_q ap cp b2 o2 ys.length cap2 y1 wr h1)
        have HZ' : Hid (Lab.zipm D E ps qs = pre ++ (y1, D, y2) :: Lab.zipm D E [] ys) := Lib.hid (by rw [hz.out, Lab.zipm_nc])
        obtain ⟨n2, en2⟩ : ∃ n2, ys.length = n2 := ⟨_, rfl⟩
        rw [en2] at C1 hsl2 HR2 HQ ⊢
        have EN2 := Lib.hid en2
        clear hp hq hz hrest2 en2
        go_wp2_with fail
        refine C1.out.mono ?_
        rintro e wq ⟨rfl, hwq⟩
        have hsz : wq.heap.size = wr.heap.size := by obtain ⟨_, rfl⟩ := hwq; rfl
        have g1 : wq.cell? ⟨B1, 0, none⟩ = some (.int .i64 D) := by obtain ⟨_, rfl⟩ := hwq; exact w1
        have g2 : wq.cell? ⟨B2, 0, none⟩ = some (.int .i64 E) := by obtain ⟨_, rfl⟩ := hwq; exact w2
        have hbel : Below wr.heap.size wr wq := by obtain ⟨_, rfl⟩ := hwq; exact below_drewN (Below.refl _ _) _
        obtain ⟨s0, s1, s2, s3, _⟩ := fresh2 wq 126 (.int .i64 0) (.int .i64 0) (.int .i64 D) (.int .i64 E)
        clear hwq
        have HB := Lib.hid hbel
        have HZ := Lib.hid hsz
        clear hbel hsz
        have hW5 : Below wr.heap.size wr (wq.alloc (Obj.cells #[.int .i64 D, .int .i64 E] 126)) := HB.out.alloc (by rw [HZ.out]; exact Nat.le_refl _) _
        have k5 := heap_alloc_new wq (Obj.cells #[.int .i64 D, .int .i64 E] 126)
        go_upto_region 4 with fail
        obtain ⟨W5, e5⟩ : ∃ W5, W5 = wq.alloc (Obj.cells #[.int .i64 D, .int .i64 E] 126) := ⟨_, rfl⟩
        rw [← e5] at hW5 k5 ⊢
        clear e5 s0 s1 s2 s3 g1 g2 w1 w2
        have hbw2 : b2 < wr.heap.size := by have := hk.out.1; omega
        have q3 : W5.cell? ⟨b2, o2, none⟩ = some (.int .u32 y1) := by rw [hW5.cell (p := ⟨b2, _, none⟩) hbw2]; exact h1
        have q4 : W5.cell? ⟨b2, o2 + 1, none⟩ = some (.int .i64 y2) := by rw [hW5.cell (p := ⟨b2, _, none⟩) hbw2]; exact h2
        have q5 : W5.cell? ⟨wq.heap.size, 0, none⟩ = some (.int .i64 D) := by rw [cell_of_row _ _ 0 _ 126 (0, 0) k5]; rfl
        have q6 : W5.cell? ⟨wq.heap.size, 1, none⟩ = some (.int .i64 E) := by rw [cell_of_row _ _ 1 _ 126 (0, 0) k5]; rfl
        have q7 : W5.frozen? ⟨wq.heap.size, 0, none⟩ = false := frozen_of_row _ _ 0 _ 126 k5
        have q8 : W5.frozen? ⟨wq.heap.size, 1, none⟩ = false := frozen_of_row _ _ 1 _ 126 k5
        have HW5 := Lib.hid hW5
        have KW5 := Lib.hid k5
        clear hW5 k5
        go_upto_region 7 with fail
        go_region
        all_goals
          obtain ⟨W6, eW6⟩ : ∃ W6, W6 = (W5.setCell ⟨wq.heap.size, 1, none⟩ (.int .i64 y2)).drew := ⟨_, rfl⟩
          rw [← eW6]
          have k6 : W6.heap[wq.heap.size]? = some (Obj.cells #[.int .i64 D, .int .i64 y2] 126) := by rw [eW6]; have := heap_setCell_same _ _ 1 _ 126 (.int .i64 y2) KW5.out; exact (by simpa using this : (W5.setCell ⟨wq.heap.size, 1, none⟩ (.int .i64 y2)).heap[wq.heap.size]? = _)
          have hW6 : Below wr.heap.size wr W6 := by rw [eW6]; exact (HW5.out.setCell (by rw [HZ.out]; exact Nat.le_refl _) _).drew
          clear eW6 q5 q6 q7 q8 q3 q4
          have q3 : W6.cell? ⟨b2, o2, none⟩ = some (.int .u32 y1) := by rw [hW6.cell (p := ⟨b2, _, none⟩) hbw2]; exact h1
          have q5 : W6.cell? ⟨wq.heap.size, 0, none⟩ = some (.int .i64 D) := by rw [cell_of_row _ _ 0 _ 126 (0, 0) k6]; rfl
          have q6 : W6.cell? ⟨wq.heap.size, 1, none⟩ = some (.int .i64 y2) := by rw [cell_of_row _ _ 1 _ 126 (0, 0) k6]; rfl
          obtain ⟨fn, tmps, assign, body, hy, hR⟩ := HY.out pre (y1, D, y2) W6 (HJ.out _ _ _ none hJs.out (grown_of_below hW6) (by simp)) (by rw [HZ'.out]; simp)
          have HWf := Lib.hid hW6
          clear hW6 k6
          go_upto_region 8 with fail
          refine (wpIn_wide (n := n)).1 ?_
          dsimp only [encs] at hy
          gi_wp2
          refine hR.mono ?_
          rintro e W9 (⟨rfl, hJ7, hk7⟩ | ⟨rfl, hJx⟩)
          · have hB7 : Below n₀ wr W9 := (HWf.out.mono hk.out.1).trans hk7.1
            have hz7 : Hid (Lab.zipm D E ps qs = (pre ++ [(y1, D, y2)]) ++ Lab.zipm D E [] ys) := Lib.hid (by rw [HZ'.out]; simp)
            have hp7 := Lib.hid (HP.out.below hB7)
            have hq7 := Lib.hid (HR2.out W9 hB7)
            have hJ8 := Lib.hid hJ7
            have hk8 : Hid (n₀ ≤ W9.heap.size ∧ W9.heap[B1]? = some (Obj.cells #[.int .i64 D, .slice a1 m1 c1] 44) ∧ W9.heap[B2]? = some (Obj.cells #[.int .i64 E, .slice a2 m2 c2] 44)) :=
              Lib.hid ⟨by have := hB7.size; have := hk.out.1; omega, hk7.2.1 _ (by rw [HWf.out.block _ (Array.getElem?_eq_some_iff.1 hk.out.2.1).1]; exact hk.out.2.1), hk7.2.2 _ (by rw [HWf.out.block _ (Array.getElem?_eq_some_iff.1 hk.out.2.2).1]; exact hk.out.2.2)⟩
            clear hB7 hk7 hJ7
            gi_wp2
            go_wp2_with fail
            go_roundg (([] : List (Nat × Int)).length + ys.length)
            case measure => have := hg.out; simp only [List.length_cons, List.length_nil] at this ⊢; omega
            case rel => exact ⟨_, [], ys, hz7, Lib.hid rfl, hp7, hq7, hJ8, hk8⟩
          · have hJx := Lib.hid hJx
            have hpre := Lib.hid (show pre ++ [(y1, D, y2)] <+: Lab.zipm D E ps qs from ⟨Lab.zipm D E [] ys, by rw [HZ'.out]; simp⟩)
            gi_wp2
            go_wp2_with fail
            refine bodyPost_ret (results_none rfl _ _ _) rfl ?_
            exact ⟨⟨_, rfl⟩, .inr ⟨_, hpre.out, hJx.out⟩⟩
    | cons x xs =>
      obtain ⟨x1, x2⟩ := x
      cases ys with
      | nil =>
        obtain ⟨b1, o1, cap1, o1', rfl, hb1, hcap1, f1, f2, hsl1, hrest1⟩ := hp.out.cons
        obtain ⟨aq, cq, rfl⟩ := hq.out.nil
        have HP := Lib.hid hp.out
        have HQ := Lib.hid hq.out
        have HR1 := Lib.hid hrest1
        have C1 := Lib.hid (first_p aq cq b1 o1 xs.length cap1 x1 wr f1)
        have HZ' : Hid (Lab.zipm D E ps qs = pre ++ (x1, x2, E) :: Lab.zipm D E xs []) := Lib.hid (by rw [hz.out, Lab.zipm_cn])
        obtain ⟨n1, en1⟩ : ∃ n1, xs.length = n1 := ⟨_, rfl⟩
        rw [en1] at C1 hsl1 HR1 HP ⊢
        have EN1 := Lib.hid en1
        clear hp hq hz hrest1 en1
        go_wp2_with fail
        refine C1.out.mono ?_
        rintro e wq ⟨rfl, hwq⟩
        have hsz : wq.heap.size = wr.heap.size := by obtain ⟨_, rfl⟩ := hwq; rfl
        have g1 : wq.cell? ⟨B1, 0, none⟩ = some (.int .i64 D) := by obtain ⟨_, rfl⟩ := hwq; exact w1
        have g2 : wq.cell? ⟨B2, 0, none⟩ = some (.int .i64 E) := by obtain ⟨_, rfl⟩ := hwq; exact w2
        have hbel : Below wr.heap.size wr wq := by obtain ⟨_, rfl⟩ := hwq; exact below_drewN (Below.refl _ _) _
        obtain ⟨s0, s1, s2, s3, _⟩ := fresh2 wq 126 (.int .i64 0) (.int .i64 0) (.int .i64 D) (.int .i64 E)
        clear hwq
        have HB := Lib.hid hbel
        have HZ := Lib.hid hsz
        clear hbel hsz
        have hW5 : Below wr.heap.size wr (wq.alloc (Obj.cells #[.int .i64 D, .int .i64 E] 126)) := HB.out.alloc (by rw [HZ.out]; exact Nat.le_refl _) _
        have k5 := heap_alloc_new wq (Obj.cells #[.int .i64 D, .int .i64 E] 126)
        go_upto_region 4 with fail
        obtain ⟨W5, e5⟩ : ∃ W5, W5 = wq.alloc (Obj.cells #[.int .i64 D, .int .i64 E] 126) := ⟨_, rfl⟩
        rw [← e5] at hW5 k5 ⊢
        clear e5 s0 s1 s2 s3 g1 g2 w1 w2
        have hbw1 : b1 < wr.heap.size := by have := hk.out.1; omega
        have q1 : W5.cell? ⟨b1, o1, none⟩ = some (.int .u32 x1) := by rw [hW5.cell (p := ⟨b1, _, none⟩) hbw1]; exact f1
        have q2 : W5.cell? ⟨b1, o1 + 1, none⟩ = some (.int .i64 x2) := by rw [hW5.cell (p := ⟨b1, _, none⟩) hbw1]; exact f2
        have q5 : W5.cell? ⟨wq.heap.size, 0, none⟩ = some (.int .i64 D) := by rw [cell_of_row _ _ 0 _ 126 (0, 0) k5]; rfl
        have q6 : W5.cell? ⟨wq.heap.size, 1, none⟩ = some (.int .i64 E) := by rw [cell_of_row _ _ 1 _ 126 (0, 0) k5]; rfl
        have q7 : W5.frozen? ⟨wq.heap.size, 0, none⟩ = false := frozen_of_row _ _ 0 _ 126 k5
        have q8 : W5.frozen? ⟨wq.heap.size, 1, none⟩ = false := frozen_of_row _ _ 1 _ 126 k5
        have HW5 := Lib.hid hW5
        have KW5 := Lib.hid k5
        clear hW5 k5
        go_upto_region 5 with fail
        go_region
        all_goals
          obtain ⟨W6, eW6⟩ : ∃ W6, W6 = (W5.setCell ⟨wq.heap.size, 0, none⟩ (.int .i64 x2)).drew := ⟨_, rfl⟩
          rw [← eW6]
          have k6 : W6.heap[wq.heap.size]? = some (Obj.cells #[.int .i64 x2, .int .i64 E] 126) := by rw [eW6]; have := heap_setCell_same _ _ 0 _ 126 (.int .i64 x2) KW5.out; exact (by simpa using this : (W5.setCell ⟨wq.heap.size, 0, none⟩ (.int .i64 x2)).heap[wq.heap.size]? = _)
          have hW6 : Below wr.heap.size wr W6 := by rw [eW6]; exact (HW5.out.setCell (by rw [HZ.out]; exact Nat.le_refl _) _).drew
          clear eW6 q5 q6 q7 q8 q1 q2
          have q1 : W6.cell? ⟨b1, o1, none⟩ = some (.int .u32 x1) := by rw [hW6.cell (p := ⟨b1, _, none⟩) hbw1]; exact f1
          have q5 : W6.cell? ⟨wq.heap.size, 0, none⟩ = some (.int .i64 x2) := by rw [cell_of_row _ _ 0 _ 126 (0, 0) k6]; rfl
          have q6 : W6.cell? ⟨wq.heap.size, 1, none⟩ = some (.int .i64 E) := by rw [cell_of_row _ _ 1 _ 126 (0, 0) k6]; rfl
          obtain ⟨fn, tmps, assign, body, hy, hR⟩ := HY.out pre (x1, x2, E) W6 (HJ.out _ _ _ none hJs.out (grown_of_below hW6) (by simp)) (by rw [HZ'.out]; simp)
          have HWf := Lib.hid hW6
          clear hW6 k6
          go_upto_region 8 with fail
          refine (wpIn_wide (n := n)).1 ?_
          dsimp only [encs] at hy
          gi_wp2
          refine hR.mono ?_
          rintro e W9 (⟨rfl, hJ7, hk7⟩ | ⟨rfl, hJx⟩)
          · have hB7 : Below n₀ wr W9 := (HWf.out.mono hk.out.1).trans hk7.1
            have hz7 : Hid (Lab.zipm D E ps qs = (pre ++ [(x1, x2, E)]) ++ Lab.zipm D E xs []) := Lib.hid (by rw [HZ'.out]; simp)
            have hp7 := Lib.hid (HR1.out W9 hB7)
            have hq7 := Lib.hid (HQ.out.below hB7)
            have hJ8 := Lib.hid hJ7
            have hk8 : Hid (n₀ ≤ W9.heap.size ∧ W9.heap[B1]? = some (Obj.cells #[.int .i64 D, .slice a1 m1 c1] 44) ∧ W9.heap[B2]? = some (Obj.cells #[.int .i64 E, .slice a2 m2 c2] 44)) :=
              Lib.hid ⟨by have := hB7.size; have := hk.out.1; omega, hk7.2.1 _ (by rw [HWf.out.block _ (Array.getElem?_eq_some_iff.1 hk.out.2.1).1]; exact hk.out.2.1), hk7.2.2 _ (by rw [HWf.out.block _ (Array.getElem?_eq_some_iff.1 hk.out.2.2).1]; exact hk.out.2.2)⟩
            clear hB7 hk7 hJ7
            gi_wp2
            go_wp2_with fail
            go_roundg (xs.length + ([] : List (Nat × Int)).length)
            case measure => have := hg.out; simp only [List.length_cons, List.length_nil] at this ⊢; omega
            case rel => exact ⟨_, xs, [], hz7, Lib.hid rfl, hp7, hq7, hJ8, hk8⟩
          · have hJx := Lib.hid hJx
            have hpre := Lib.hid (show pre ++ [(x1, x2, E)] <+: Lab.zipm D E ps qs from ⟨Lab.zipm D E xs [], by rw [HZ'.out]; simp⟩)
            gi_wp2
            go_wp2_with fail
            refine bodyPost_ret (results_none rfl _ _ _) rfl ?_
            exact ⟨⟨_, rfl⟩, .inr ⟨_, hpre.out, hJx.out⟩⟩
      | cons y ys =>
        obtain ⟨y1, y2⟩ := y
        rcases Nat.lt_trichotomy x1 y1 with hlt | hlt | hlt
        · obtain ⟨b1, o1, cap1, o1', rfl, hb1, hcap1, f1, f2, hsl1, hrest1⟩ := hp.out.cons
          obtain ⟨b2, o2, cap2, o2', rfl, hb2, hcap2, h1, h2, hsl2, hrest2⟩ := hq.out.cons
          have HP := Lib.hid hp.out
          have HQ := Lib.hid hq.out
          have HR1 := Lib.hid hrest1
          have HR2 := Lib.hid hrest2
          have C1 := Lib.hid (first_pq b1 o1 xs.length cap1 b2 o2 ys.length cap2 x1 y1 x1 (by omega) wr f1 h1)
          have tf : ((y1 : Int) == (x1 : Int)) = false := by rw [beq_eq_false_iff_ne]; omega
          have HZ' : Hid (Lab.zipm D E ps qs = pre ++ (x1, x2, E) :: Lab.zipm D E xs ((y1, y2) :: ys)) := Lib.hid (by rw [hz.out, Lab.zipm_lt _ _ _ _ hlt])
          clear hlt
          obtain ⟨n1, en1⟩ : ∃ n1, xs.length = n1 := ⟨_, rfl⟩
          rw [en1] at C1 hsl1 HR1 HP ⊢
          have EN1 := Lib.hid en1
          obtain ⟨n2, en2⟩ : ∃ n2, ys.length = n2 := ⟨_, rfl⟩
          rw [en2] at C1 hsl2 HR2 HQ ⊢
          have EN2 := Lib.hid en2
          clear hp hq hz hrest1 en1 hrest2 en2
          go_wp2_with fail
          refine C1.out.mono ?_
          rintro e wq ⟨rfl, hwq⟩
          have hsz : wq.heap.size = wr.heap.size := by obtain ⟨_, rfl⟩ := hwq; rfl
          have g1 : wq.cell? ⟨B1, 0, none⟩ = some (.int .i64 D) := by obtain ⟨_, rfl⟩ := hwq; exact w1
          have g2 : wq.cell? ⟨B2, 0, none⟩ = some (.int .i64 E) := by obtain ⟨_, rfl⟩ := hwq; exact w2
          have hbel : Below wr.heap.size wr wq := by obtain ⟨_, rfl⟩ := hwq; exact below_drewN (Below.refl _ _) _
          obtain ⟨s0, s1, s2, s3, _⟩ := fresh2 wq 126 (.int .i64 0) (.int .i64 0) (.int .i64 D) (.int .i64 E)
          clear hwq
          have HB := Lib.hid hbel
          have HZ := Lib.hid hsz
          clear hbel hsz
          have hW5 : Below wr.heap.size wr (wq.alloc (Obj.cells #[.int .i64 D, .int .i64 E] 126)) := HB.out.alloc (by rw [HZ.out]; exact Nat.le_refl _) _
          have k5 := heap_alloc_new wq (Obj.cells #[.int .i64 D, .int .i64 E] 126)
          go_upto_region 4 with fail
          obtain ⟨W5, e5⟩ : ∃ W5, W5 = wq.alloc (Obj.cells #[.int .i64 D, .int .i64 E] 126) := ⟨_, rfl⟩
          rw [← e5] at hW5 k5 ⊢
          clear e5 s0 s1 s2 s3 g1 g2 w1 w2
          have hbw1 : b1 < wr.heap.size := by have := hk.out.1; omega
          have hbw2 : b2 < wr.heap.size := by have := hk.out.1; omega
          have q1 : W5.cell? ⟨b1, o1, none⟩ = some (.int .u32 x1) := by rw [hW5.cell (p := ⟨b1, _, none⟩) hbw1]; exact f1
          have q2 : W5.cell? ⟨b1, o1 + 1, none⟩ = some (.int .i64 x2) := by rw [hW5.cell (p := ⟨b1, _, none⟩) hbw1]; exact f2
          have q3 : W5.cell? ⟨b2, o2, none⟩ = some (.int .u32 y1) := by rw [hW5.cell (p := ⟨b2, _, none⟩) hbw2]; exact h1
          have q4 : W5.cell? ⟨b2, o2 + 1, none⟩ = some (.int .i64 y2) := by rw [hW5.cell (p := ⟨b2, _, none⟩) hbw2]; exact h2
          have q5 : W5.cell? ⟨wq.heap.size, 0, none⟩ = some (.int .i64 D) := by rw [cell_of_row _ _ 0 _ 126 (0, 0) k5]; rfl
          have q6 : W5.cell? ⟨wq.heap.size, 1, none⟩ = some (.int .i64 E) := by rw [cell_of_row _ _ 1 _ 126 (0, 0) k5]; rfl
          have q7 : W5.frozen? ⟨wq.heap.size, 0, none⟩ = false := frozen_of_row _ _ 0 _ 126 k5
          have q8 : W5.frozen? ⟨wq.heap.size, 1, none⟩ = false := frozen_of_row _ _ 1 _ 126 k5
          have HW5 := Lib.hid hW5
          have KW5 := Lib.hid k5
          clear hW5 k5
          go_upto_region 5 with fail
          go_region
          all_goals
            obtain ⟨W6, eW6⟩ : ∃ W6, W6 = (W5.setCell ⟨wq.heap.size, 0, none⟩ (.int .i64 x2)).drew := ⟨_, rfl⟩
            rw [← eW6]
            have k6 : W6.heap[wq.heap.size]? = some (Obj.cells #[.int .i64 x2, .int .i64 E] 126) := by rw [eW6]; have := heap_setCell_same _ _ 0 _ 126 (.int .i64 x2) KW5.out; exact (by simpa using this : (W5.setCell ⟨wq.heap.size, 0, none⟩ (.int .i64 x2)).heap[wq.heap.size]? = _)
            have hW6 : Below wr.heap.size wr W6 := by rw [eW6]; exact (HW5.out.setCell (by rw [HZ.out]; exact Nat.le_refl _) _).drew
            clear eW6 q5 q6 q7 q8 q1 q2 q3 q4
            have q1 : W6.cell? ⟨b1, o1, none⟩ = some (.int .u32 x1) := by rw [hW6.cell (p := ⟨b1, _, none⟩) hbw1]; exact f1
            have q3 : W6.cell? ⟨b2, o2, none⟩ = some (.int .u32 y1) := by rw [hW6.cell (p := ⟨b2, _, none⟩) hbw2]; exact h1
            have q5 : W6.cell? ⟨wq.heap.size, 0, none⟩ = some (.int .i64 x2) := by rw [cell_of_row _ _ 0 _ 126 (0, 0) k6]; rfl
            have q6 : W6.cell? ⟨wq.heap.size, 1, none⟩ = some (.int .i64 E) := by rw [cell_of_row _ _ 1 _ 126 (0, 0) k6]; rfl
            obtain ⟨fn, tmps, assign, body, hy, hR⟩ := HY.out pre (x1, x2, E) W6 (HJ.out _ _ _ none hJs.out (grown_of_below hW6) (by simp)) (by rw [HZ'.out]; simp)
            have HWf := Lib.hid hW6
            clear hW6 k6
            go_upto_region 8 with fail
            refine (wpIn_wide (n := n)).1 ?_
            dsimp only [encs] at hy
            gi_wp2
            refine hR.mono ?_
            rintro e W9 (⟨rfl, hJ7, hk7⟩ | ⟨rfl, hJx⟩)
            · have hB7 : Below n₀ wr W9 := (HWf.out.mono hk.out.1).trans hk7.1
              have hz7 : Hid (Lab.zipm D E ps qs = (pre ++ [(x1, x2, E)]) ++ Lab.zipm D E xs ((y1, y2) :: ys)) := Lib.hid (by rw [HZ'.out]; simp)
              have hp7 := Lib.hid (HR1.out W9 hB7)
              have hq7 := Lib.hid (HQ.out.below hB7)
              have hJ8 := Lib.hid hJ7
              have hk8 : Hid (n₀ ≤ W9.heap.size ∧ W9.heap[B1]? = some (Obj.cells #[.int .i64 D, .slice a1 m1 c1] 44) ∧ W9.heap[B2]? = some (Obj.cells #[.int .i64 E, .slice a2 m2 c2] 44)) :=
                Lib.hid ⟨by have := hB7.size; have := hk.out.1; omega, hk7.2.1 _ (by rw [HWf.out.block _ (Array.getElem?_eq_some_iff.1 hk.out.2.1).1]; exact hk.out.2.1), hk7.2.2 _ (by rw [HWf.out.block _ (Array.getElem?_eq_some_iff.1 hk.out.2.2).1]; exact hk.out.2.2)⟩
              clear hB7 hk7 hJ7
              gi_wp2
              go_wp2_with fail
              go_roundg (xs.length + ((y1, y2) :: ys).length)
              case measure => have := hg.out; simp only [List.length_cons, List.length_nil] at this ⊢; omega
              case rel => exact ⟨_, xs, ((y1, y2) :: ys), hz7, Lib.hid rfl, hp7, hq7, hJ8, hk8⟩
            · have hJx := Lib.hid hJx
              have hpre := Lib.hid (show pre ++ [(x1, x2, E)] <+: Lab.zipm D E ps qs from ⟨Lab.zipm D E xs ((y1, y2) :: ys), by rw [HZ'.out]; simp⟩)
              gi_wp2
              go_wp2_with fail
              refine bodyPost_ret (results_none rfl _ _ _) rfl ?_
              exact ⟨⟨_, rfl⟩, .inr ⟨_, hpre.out, hJx.out⟩⟩
        · subst hlt
          obtain ⟨b1, o1, cap1, o1', rfl, hb1, hcap1, f1, f2, hsl1, hrest1⟩ := hp.out.cons
          obtain ⟨b2, o2, cap2, o2', rfl, hb2, hcap2, h1, h2, hsl2, hrest2⟩ := hq.out.cons
          have HP := Lib.hid hp.out
          have HQ := Lib.hid hq.out
          have HR1 := Lib.hid hrest1
          have HR2 := Lib.hid hrest2
          have C1 := Lib.hid (first_pq b1 o1 xs.length cap1 b2 o2 ys.length cap2 x1 x1 x1 (by omega) wr f1 h1)
          have HZ' : Hid (Lab.zipm D E ps qs = pre ++ (x1, x2, y2) :: Lab.zipm D E xs ys) := Lib.hid (by rw [hz.out, Lab.zipm_eq D E (p := (x1, x2)) (q := (x1, y2)) xs ys rfl])
          obtain ⟨n1, en1⟩ : ∃ n1, xs.length = n1 := ⟨_, rfl⟩
          rw [en1] at C1 hsl1 HR1 HP ⊢
          have EN1 := Lib.hid en1
          obtain ⟨n2, en2⟩ : ∃ n2, ys.length = n2 := ⟨_, rfl⟩
          rw [en2] at C1 hsl2 HR2 HQ ⊢
          have EN2 := Lib.hid en2
          clear hp hq hz hrest1 en1 hrest2 en2
          go_wp2_with fail
          refine C1.out.mono ?_
          rintro e wq ⟨rfl, hwq⟩
          have hsz : wq.heap.size = wr.heap.size := by obtain ⟨_, rfl⟩ := hwq; rfl
          have g1 : wq.cell? ⟨B1, 0, none⟩ = some (.int .i64 D) := by obtain ⟨_, rfl⟩ := hwq; exact w1
          have g2 : wq.cell? ⟨B2, 0, none⟩ = some (.int .i64 E) := by obtain ⟨_, rfl⟩ := hwq; exact w2
          have hbel : Below wr.heap.size wr wq := by obtain ⟨_, rfl⟩ := hwq; exact below_drewN (Below.refl _ _) _
          obtain ⟨s0, s1, s2, s3, _⟩ := fresh2 wq 126 (.int .i64 0) (.int .i64 0) (.int .i64 D) (.int .i64 E)
          clear hwq
          have HB := Lib.hid hbel
          have HZ := Lib.hid hsz
          clear hbel hsz
          have hW5 : Below wr.heap.size wr (wq.alloc (Obj.cells #[.int .i64 D, .int .i64 E] 126)) := HB.out.alloc (by rw [HZ.out]; exact Nat.le_refl _) _
          have k5 := heap_alloc_new wq (Obj.cells #[.int .i64 D, .int .i64 E] 126)
          go_upto_region 4 with fail
          obtain ⟨W5, e5⟩ : ∃ W5, W5 = wq.alloc (Obj.cells #[.int .i64 D, .int .i64 E] 126) := ⟨_, rfl⟩
          rw [← e5] at hW5 k5 ⊢
          clear e5 s0 s1 s2 s3 g1 g2 w1 w2
          have hbw1 : b1 < wr.heap.size := by have := hk.out.1; omega
          have hbw2 : b2 < wr.heap.size := by have := hk.out.1; omega
          have q1 : W5.cell? ⟨b1, o1, none⟩ = some (.int .u32 x1) := by rw [hW5.cell (p := ⟨b1, _, none⟩) hbw1]; exact f1
          have q2 : W5.cell? ⟨b1, o1 + 1, none⟩ = some (.int .i64 x2) := by rw [hW5.cell (p := ⟨b1, _, none⟩) hbw1]; exact f2
          have q3 : W5.cell? ⟨b2, o2, none⟩ = some (.int .u32 x1) := by rw [hW5.cell (p := ⟨b2, _, none⟩) hbw2]; exact h1
          have q4 : W5.cell? ⟨b2, o2 + 1, none⟩ = some (.int .i64 y2) := by rw [hW5.cell (p := ⟨b2, _, none⟩) hbw2]; exact h2
          have q5 : W5.cell? ⟨wq.heap.size, 0, none⟩ = some (.int .i64 D) := by rw [cell_of_row _ _ 0 _ 126 (0, 0) k5]; rfl
          have q6 : W5.cell? ⟨wq.heap.size, 1, none⟩ = some (.int .i64 E) := by rw [cell_of_row _ _ 1 _ 126 (0, 0) k5]; rfl
          have q7 : W5.frozen? ⟨wq.heap.size, 0, none⟩ = false := frozen_of_row _ _ 0 _ 126 k5
          have q8 : W5.frozen? ⟨wq.heap.size, 1, none⟩ = false := frozen_of_row _ _ 1 _ 126 k5
          have HW5 := Lib.hid hW5
          have KW5 := Lib.hid k5
          clear hW5 k5
          go_upto_region 5 with fail
          go_region
          all_goals
            obtain ⟨W6, eW6⟩ : ∃ W6, W6 = (W5.setCell ⟨wq.heap.size, 0, none⟩ (.int .i64 x2)).drew := ⟨_, rfl⟩
            rw [← eW6]
            have k6 : W6.heap[wq.heap.size]? = some (Obj.cells #[.int .i64 x2, .int .i64 E] 126) := by rw [eW6]; have := heap_setCell_same _ _ 0 _ 126 (.int .i64 x2) KW5.out; exact (by simpa using this : (W5.setCell ⟨wq.heap.size, 0, none⟩ (.int .i64 x2)).heap[wq.heap.size]? = _)
            have hW6 : Below wr.heap.size wr W6 := by rw [eW6]; exact (HW5.out.setCell (by rw [HZ.out]; exact Nat.le_refl _) _).drew
            clear eW6 q5 q6 q7 q8 q1 q2 q3 q4
            have q1 : W6.cell? ⟨b1, o1, none⟩ = some (.int .u32 x1) := by rw [hW6.cell (p := ⟨b1, _, none⟩) hbw1]; exact f1
            have q2 : W6.cell? ⟨b1, o1 + 1, none⟩ = some (.int .i64 x2) := by rw [hW6.cell (p := ⟨b1, _, none⟩) hbw1]; exact f2
            have q3 : W6.cell? ⟨b2, o2, none⟩ = some (.int .u32 x1) := by rw [hW6.cell (p := ⟨b2, _, none⟩) hbw2]; exact h1
            have q4 : W6.cell? ⟨b2, o2 + 1, none⟩ = some (.int .i64 y2) := by rw [hW6.cell (p := ⟨b2, _, none⟩) hbw2]; exact h2
            have q5 : W6.cell? ⟨wq.heap.size, 0, none⟩ = some (.int .i64 x2) := by rw [cell_of_row _ _ 0 _ 126 (0, 0) k6]; rfl
            have q6 : W6.cell? ⟨wq.heap.size, 1, none⟩ = some (.int .i64 E) := by rw [cell_of_row _ _ 1 _ 126 (0, 0) k6]; rfl
            have q7 : W6.frozen? ⟨wq.heap.size, 0, none⟩ = false := frozen_of_row _ _ 0 _ 126 k6
            have q8 : W6.frozen? ⟨wq.heap.size, 1, none⟩ = false := frozen_of_row _ _ 1 _ 126 k6
            have HW6 := Lib.hid hW6
            have KW6 := Lib.hid k6
            clear hW6 k6
            go_upto_region 7 with fail
            go_region
            all_goals
              obtain ⟨W7, eW7⟩ : ∃ W7, W7 = (W6.setCell ⟨wq.heap.size, 1, none⟩ (.int .i64 y2)).drew := ⟨_, rfl⟩
              rw [← eW7]
              have k7 : W7.heap[wq.heap.size]? = some (Obj.cells #[.int .i64 x2, .int .i64 y2] 126) := by rw [eW7]; have := heap_setCell_same _ _ 1 _ 126 (.int .i64 y2) KW6.out; exact (by simpa using this : (W6.setCell ⟨wq.heap.size, 1, none⟩ (.int .i64 y2)).heap[wq.heap.size]? = _)
              have hW7 : Below wr.heap.size wr W7 := by rw [eW7]; exact (HW6.out.setCell (by rw [HZ.out]; exact Nat.le_refl _) _).drew
              clear eW7 q5 q6 q7 q8 q1 q2 q3 q4
              have q1 : W7.cell? ⟨b1, o1, none⟩ = some (.int .u32 x1) := by rw [hW7.cell (p := ⟨b1, _, none⟩) hbw1]; exact f1
              have q3 : W7.cell? ⟨b2, o2, none⟩ = some (.int .u32 x1) := by rw [hW7.cell (p := ⟨b2, _, none⟩) hbw2]; exact h1
              have q5 : W7.cell? ⟨wq.heap.size, 0, none⟩ = some (.int .i64 x2) := by rw [cell_of_row _ _ 0 _ 126 (0, 0) k7]; rfl
              have q6 : W7.cell? ⟨wq.heap.size, 1, none⟩ = some (.int .i64 y2) := by rw [cell_of_row _ _ 1 _ 126 (0, 0) k7]; rfl
              obtain ⟨fn, tmps, assign, body, hy, hR⟩ := HY.out pre (x1, x2, y2) W7 (HJ.out _ _ _ none hJs.out (grown_of_below hW7) (by simp)) (by rw [HZ'.out]; simp)
              have HWf := Lib.hid hW7
              clear hW7 k7
              go_upto_region 8 with fail
              refine (wpIn_wide (n := n)).1 ?_
              dsimp only [encs] at hy
              gi_wp2
              refine hR.mono ?_
              rintro e W9 (⟨rfl, hJ7, hk7⟩ | ⟨rfl, hJx⟩)
              · have hB7 : Below n₀ wr W9 := (HWf.out.mono hk.out.1).trans hk7.1
                have hz7 : Hid (Lab.zipm D E ps qs = (pre ++ [(x1, x2, y2)]) ++ Lab.zipm D E xs ys) := Lib.hid (by rw [HZ'.out]; simp)
                have hp7 := Lib.hid (HR1.out W9 hB7)
                have hq7 := Lib.hid (HR2.out W9 hB7)
                have hJ8 := Lib.hid hJ7
                have hk8 : Hid (n₀ ≤ W9.heap.size ∧ W9.heap[B1]? = some (Obj.cells #[.int .i64 D, .slice a1 m1 c1] 44) ∧ W9.heap[B2]? = some (Obj.cells #[.int .i64 E, .slice a2 m2 c2] 44)) :=
                  Lib.hid ⟨by have := hB7.size; have := hk.out.1; omega, hk7.2.1 _ (by rw [HWf.out.block _ (Array.getElem?_eq_some_iff.1 hk.out.2.1).1]; exact hk.out.2.1), hk7.2.2 _ (by rw [HWf.out.block _ (Array.getElem?_eq_some_iff.1 hk.out.2.2).1]; exact hk.out.2.2)⟩
                clear hB7 hk7 hJ7
                gi_wp2
                go_wp2_with fail
                go_roundg (xs.length + ys.length)
                case measure => have := hg.out; simp only [List.length_cons, List.length_nil] at this ⊢; omega
                case rel => exact ⟨_, xs, ys, hz7, Lib.hid rfl, hp7, hq7, hJ8, hk8⟩
              · have hJx := Lib.hid hJx
                have hpre := Lib.hid (show pre ++ [(x1, x2, y2)] <+: Lab.zipm D E ps qs from ⟨Lab.zipm D E xs ys, by rw [HZ'.out]; simp⟩)
                gi_wp2
                go_wp2_with fail
                refine bodyPost_ret (results_none rfl _ _ _) rfl ?_
                exact ⟨⟨_, rfl⟩, .inr ⟨_, hpre.out, hJx.out⟩⟩
        · obtain ⟨b1, o1, cap1, o1', rfl, hb1, hcap1, f1, f2, hsl1, hrest1⟩ := hp.out.cons
          obtain ⟨b2, o2, cap2, o2', rfl, hb2, hcap2, h1, h2, hsl2, hrest2⟩ := hq.out.cons
          have HP := Lib.hid hp.out
          have HQ := Lib.hid hq.out
          have HR1 := Lib.hid hrest1
          have HR2 := Lib.hid hrest2
          have C1 := Lib.hid (first_pq b1 o1 xs.length cap1 b2 o2 ys.length cap2 x1 y1 y1 (by omega) wr f1 h1)
          have tf : ((x1 : Int) == (y1 : Int)) = false := by rw [beq_eq_false_iff_ne]; omega
          have HZ' : Hid (Lab.zipm D E ps qs = pre ++ (y1, D, y2) :: Lab.zipm D E ((x1, x2) :: xs) ys) := Lib.hid (by rw [hz.out, Lab.zipm_gt _ _ _ _ hlt])
          clear hlt
          obtain ⟨n1, en1⟩ : ∃ n1, xs.length = n1 := ⟨_, rfl⟩
          rw [en1] at C1 hsl1 HR1 HP ⊢
          have EN1 := Lib.hid en1
          obtain ⟨n2, en2⟩ : ∃ n2, ys.length = n2 := ⟨_, rfl⟩
          rw [en2] at C1 hsl2 HR2 HQ ⊢
          have EN2 := Lib.hid en2
          clear hp hq hz hrest1 en1 hrest2 en2
          go_wp2_with fail
          refine C1.out.mono ?_
          rintro e wq ⟨rfl, hwq⟩
          have hsz : wq.heap.size = wr.heap.size := by obtain ⟨_, rfl⟩ := hwq; rfl
          have g1 : wq.cell? ⟨B1, 0, none⟩ = some (.int .i64 D) := by obtain ⟨_, rfl⟩ := hwq; exact w1
          have g2 : wq.cell? ⟨B2, 0, none⟩ = some (.int .i64 E) := by obtain ⟨_, rfl⟩ := hwq; exact w2
          have hbel : Below wr.heap.size wr wq := by obtain ⟨_, rfl⟩ := hwq; exact below_drewN (Below.refl _ _) _
          obtain ⟨s0, s1, s2, s3, _⟩ := fresh2 wq 126 (.int .i64 0) (.int .i64 0) (.int .i64 D) (.int .i64 E)
          clear hwq
          have HB := Lib.hid hbel
          have HZ := Lib.hid hsz
          clear hbel hsz
          have hW5 : Below wr.heap.size wr (wq.alloc (Obj.cells #[.int .i64 D, .int .i64 E] 126)) := HB.out.alloc (by rw [HZ.out]; exact Nat.le_refl _) _
          have k5 := heap_alloc_new wq (Obj.cells #[.int .i64 D, .int .i64 E] 126)
          go_upto_region 4 with fail
          obtain ⟨W5, e5⟩ : ∃ W5, W5 = wq.alloc (Obj.cells #[.int .i64 D, .int .i64 E] 126) := ⟨_, rfl⟩
          rw [← e5] at hW5 k5 ⊢
          clear e5 s0 s1 s2 s3 g1 g2 w1 w2
          have hbw1 : b1 < wr.heap.size := by have := hk.out.1; omega
          have hbw2 : b2 < wr.heap.size := by have := hk.out.1; omega
          have q1 : W5.cell? ⟨b1, o1, none⟩ = some (.int .u32 x1) := by rw [hW5.cell (p := ⟨b1, _, none⟩) hbw1]; exact f1
          have q2 : W5.cell? ⟨b1, o1 + 1, none⟩ = some (.int .i64 x2) := by rw [hW5.cell (p := ⟨b1, _, none⟩) hbw1]; exact f2
          have q3 : W5.cell? ⟨b2, o2, none⟩ = some (.int .u32 y1) := by rw [hW5.cell (p := ⟨b2, _, none⟩) hbw2]; exact h1
          have q4 : W5.cell? ⟨b2, o2 + 1, none⟩ = some (.int .i64 y2) := by rw [hW5.cell (p := ⟨b2, _, none⟩) hbw2]; exact h2
          have q5 : W5.cell? ⟨wq.heap.size, 0, none⟩ = some (.int .i64 D) := by rw [cell_of_row _ _ 0 _ 126 (0, 0) k5]; rfl
          have q6 : W5.cell? ⟨wq.heap.size, 1, none⟩ = some (.int .i64 E) := by rw [cell_of_row _ _ 1 _ 126 (0, 0) k5]; rfl
          have q7 : W5.frozen? ⟨wq.heap.size, 0, none⟩ = false := frozen_of_row _ _ 0 _ 126 k5
          have q8 : W5.frozen? ⟨wq.heap.size, 1, none⟩ = false := frozen_of_row _ _ 1 _ 126 k5
          have HW5 := Lib.hid hW5
          have KW5 := Lib.hid k5
          clear hW5 k5
          go_upto_region 7 with fail
          go_region
          all_goals
            obtain ⟨W6, eW6⟩ : ∃ W6, W6 = (W5.setCell ⟨wq.heap.size, 1, none⟩ (.int .i64 y2)).drew := ⟨_, rfl⟩
            rw [← eW6]
            have k6 : W6.heap[wq.heap.size]? = some (Obj.cells #[.int .i64 D, .int .i64 y2] 126) := by rw [eW6]; have := heap_setCell_same _ _ 1 _ 126 (.int .i64 y2) KW5.out; exact (by simpa using this : (W5.setCell ⟨wq.heap.size, 1, none⟩ (.int .i64 y2)).heap[wq.heap.size]? = _)
            have hW6 : Below wr.heap.size wr W6 := by rw [eW6]; exact (HW5.out.setCell (by rw [HZ.out]; exact Nat.le_refl _) _).drew
            clear eW6 q5 q6 q7 q8 q1 q2 q3 q4
            have q1 : W6.cell? ⟨b1, o1, none⟩ = some (.int .u32 x1) := by rw [hW6.cell (p := ⟨b1, _, none⟩) hbw1]; exact f1
            have q3 : W6.cell? ⟨b2, o2, none⟩ = some (.int .u32 y1) := by rw [hW6.cell (p := ⟨b2, _, none⟩) hbw2]; exact h1
            have q5 : W6.cell? ⟨wq.heap.size, 0, none⟩ = some (.int .i64 D) := by rw [cell_of_row _ _ 0 _ 126 (0, 0) k6]; rfl
            have q6 : W6.cell? ⟨wq.heap.size, 1, none⟩ = some (.int .i64 y2) := by rw [cell_of_row _ _ 1 _ 126 (0, 0) k6]; rfl
            obtain ⟨fn, tmps, assign, body, hy, hR⟩ := HY.out pre (y1, D, y2) W6 (HJ.out _ _ _ none hJs.out (grown_of_below hW6) (by simp)) (by rw [HZ'.out]; simp)
            have HWf := Lib.hid hW6
            clear hW6 k6
            go_upto_region 8 with fail
            refine (wpIn_wide (n := n)).1 ?_
            dsimp only [encs] at hy
            gi_wp2
            refine hR.mono ?_
            rintro e W9 (⟨rfl, hJ7, hk7⟩ | ⟨rfl, hJx⟩)
            · have hB7 : Below n₀ wr W9 := (HWf.out.mono hk.out.1).trans hk7.1
              have hz7 : Hid (Lab.zipm D E ps qs = (pre ++ [(y1, D, y2)]) ++ Lab.zipm D E ((x1, x2) :: xs) ys) := Lib.hid (by rw [HZ'.out]; simp)
              have hp7 := Lib.hid (HP.out.below hB7)
              have hq7 := Lib.hid (HR2.out W9 hB7)
              have hJ8 := Lib.hid hJ7
              have hk8 : Hid (n₀ ≤ W9.heap.size ∧ W9.heap[B1]? = some (Obj.cells #[.int .i64 D, .slice a1 m1 c1] 44) ∧ W9.heap[B2]? = some (Obj.cells #[.int .i64 E, .slice a2 m2 c2] 44)) :=
                Lib.hid ⟨by have := hB7.size; have := hk.out.1; omega, hk7.2.1 _ (by rw [HWf.out.block _ (Array.getElem?_eq_some_iff.1 hk.out.2.1).1]; exact hk.out.2.1), hk7.2.2 _ (by rw [HWf.out.block _ (Array.getElem?_eq_some_iff.1 hk.out.2.2).1]; exact hk.out.2.2)⟩
              clear hB7 hk7 hJ7
              gi_wp2
              go_wp2_with fail
              go_roundg (((x1, x2) :: xs).length + ys.length)
              case measure => have := hg.out; simp only [List.length_cons, List.length_nil] at this ⊢; omega
              case rel => exact ⟨_, ((x1, x2) :: xs), ys, hz7, Lib.hid rfl, hp7, hq7, hJ8, hk8⟩
            · have hJx := Lib.hid hJx
              have hpre := Lib.hid (show pre ++ [(y1, D, y2)] <+: Lab.zipm D E ps qs from ⟨Lab.zipm D E ((x1, x2) :: xs) ys, by rw [HZ'.out]; simp⟩)
              gi_wp2
              go_wp2_with fail
              refine bodyPost_ret (results_none rfl _ _ _) rfl ?_
              exact ⟨⟨_, rfl⟩, .inr ⟨_, hpre.out, hJx.out⟩⟩
end Go.Proofs.Ytodionedjokdmaa
