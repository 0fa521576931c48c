/- config.rightKind, rightPlace. -/
import Derived.Test.YtmadldgajjgbmaaDb
import Derived.Test.YtmadldgajjgbmaaVq
set_option linter.unusedVariables false
set_option linter.unusedSimpArgs false
namespace Go.Proofs.Ytmadldgajjgbmaa
open Go.RowKit
set_option linter.unusedVariables false
set_option linter.unusedSimpArgs false
set_option maxHeartbeats 2000000 in
set_option maxRecDepth 100000 in
theorem plain_m {w : World} {D0 : Int} {a0 : Option Addr} {n0 c0 : Nat} {P0 : LP} (h0 : LA 300 w D0 a0 n0 c0 P0) : Calls Try.prog 55 #[.agg #[.int .i64 D0, .slice a0 n0 c0]] w (BB w (pln P0)) := by
  obtain ⟨W0, e0⟩ : ∃ W0, (w.alloc (Obj.cells #[.int .i64 D0, .slice a0 n0 c0] 41)) = W0 := ⟨_, rfl⟩
  have hB : Below w.heap.size w W0 := by rw [← e0]; exact below_alloc1 _ _
  have hk0 : W0.heap[w.heap.size]? = some (Obj.cells #[.int .i64 D0, .slice a0 n0 c0] 41) := by rw [← e0]; exact heap_alloc_new w _
  have z0 : W0.cell? ⟨w.heap.size, 0, none⟩ = some (.int .i64 D0) := by rw [cell_of_row _ _ _ _ _ (0, 0) hk0]; rfl
  have z1 : W0.cell? ⟨w.heap.size, 1, none⟩ = some (.slice a0 n0 c0) := by rw [cell_of_row _ _ _ _ _ (0, 0) hk0]; rfl
  have CC := Lib.hid (owns_m (h0.below hB) (by omega))
  have HB := Lib.hid hB
  clear h0 hB hk0
  go_enter Try.func55, Try.ntmps55
  go_upto_region 1 with fail
  try rw [e0]
  clear e0
  obtain ⟨lo, elo⟩ : ∃ lo, (Lab.owns P0).length = lo := ⟨_, rfl⟩
  have HE := Lib.hid elo
  go_wp2_with fail
  refine CC.out.mono ?_
  clear CC
  rintro e w1 ⟨ao, co, rfl, hor, hb⟩
  have HB1 := Lib.hid (HB.out.trans (hb.mono HB.out.size))
  rw [elo]
  have t1 : (((lo : Nat) : Int) == 0) = decide (lo = 0) := by by_cases h : lo = 0 <;> simp [h]
  have HX := Lib.hid (show pln P0 = decide (lo = 0) by unfold pln; rw [elo])
  clear elo hor hb
  go_wp2_with fail
  go_ret
  exact ⟨ret_b HX.out, HB1.out⟩
/-- An object in a box of its own. -/
structure OBx (W : World) (X : Nat) (o : Ov) (w : World) : Prop where
  b : Below W.heap.size W w
  p : w.heap[X]? = some (Obj.cells (arO o) 44)
  r : o.Rd w
theorem OBx.below {W w w' : World} {X : Nat} {o : Ov} (h : OBx W X o w) (hb : Below w.heap.size w w') : OBx W X o w' :=
  ⟨h.b.trans (hb.mono h.b.size), (hb.block _ (Array.getElem?_eq_some_iff.1 h.p).1).trans h.p, h.r.below hb⟩
theorem OBx.c {W w : World} {X : Nat} {o : Ov} (h : OBx W X o w) (j : Nat) (v : Value) (hv : (arO o)[j]? = some v) : w.cell? ⟨X, j, none⟩ = some v := by rw [cell_of_row _ _ _ _ _ (0, 0) h.p]; exact hv
theorem OBx.new {W : World} {o : Ov} (h : o.Rd W) : OBx W W.heap.size o (W.alloc (Obj.cells (arO o) 44)) :=
  ⟨below_alloc1 _ _, heap_alloc_new W _, h.below (below_alloc1 _ _)⟩
set_option maxHeartbeats 4000000 in
set_option maxRecDepth 100000 in
theorem rkind_1 {W : World} {pa lD cD pg nm sp pc : Int} {la ca da ma : Option Addr} {ln lc cn cc dn dc mn mc n : Nat} {lP cP : LP} {dl : List Nat} {mp : List Mp} (hn : n ≤ 1000)
    (h : Ov.Rd W ⟨⟨1, pa, lD, lP, cD, cP, pg, nm, dl, mp, sp, pc⟩, ⟨la, ln, lc⟩, ⟨ca, cn, cc⟩, ⟨da, dn, dc⟩, ⟨ma, mn, mc⟩⟩) :
    Calls Try.prog 37 #[.agg #[.int .i64 1, .int .i64 pa, .int .i64 lD, .slice la ln lc, .int .i64 cD, .slice ca cn cc, .int .i64 pg, .int .i64 nm, .slice da dn dc, .slice ma mn mc, .int .i64 sp, .int .i64 pc], .int .i64 n] W (BB W (kindB n ⟨1, pa, lD, lP, cD, cP, pg, nm, dl, mp, sp, pc⟩)) := by
  obtain ⟨w0, e0⟩ : ∃ w0, W.alloc (Obj.cells #[.int .i64 1, .int .i64 pa, .int .i64 lD, .slice la ln lc, .int .i64 cD, .slice ca cn cc, .int .i64 pg, .int .i64 nm, .slice da dn dc, .slice ma mn mc, .int .i64 sp, .int .i64 pc] 44) = w0 := ⟨_, rfl⟩
  obtain ⟨X, eX⟩ : ∃ X, W.heap.size = X := ⟨_, rfl⟩
  have HO := Lib.hid (OBx.new h)
  unfold arO at HO
  simp only at HO
  rw [e0, eX] at HO
  obtain ⟨b1, eb1⟩ : ∃ b1, pln lP = b1 := ⟨_, rfl⟩
  have Eb1 := Lib.hid eb1
  obtain ⟨b2, eb2⟩ : ∃ b2, decide (0 ≤ pg ∧ pg ≤ 4096) = b2 := ⟨_, rfl⟩
  have Eb2 := Lib.hid eb2
  obtain ⟨b3, eb3⟩ : ∃ b3, decide (0 ≤ nm ∧ nm ≤ 4194304) = b3 := ⟨_, rfl⟩
  have Eb3 := Lib.hid eb3
  have HX := Lib.hid (show kindB n ⟨1, pa, lD, lP, cD, cP, pg, nm, dl, mp, sp, pc⟩ = (b1 && (b2 && b3)) by
    rw [← eb1, ← eb2, ← eb3, ← Bool.decide_and]
    show (pln lP && _) = _
    congr 1
    exact decide_eq_decide.2 (by simp only; omega))
  clear eb1 eb2 eb3
  have x0 := HO.out.c 0 (.int .i64 1) rfl
  clear h
  go_enter Try.func37, Try.ntmps37
  go_upto_region 1 with fail
  try rw [e0]
  try rw [eX]
  clear e0 eX
  have x2 := HO.out.c 2 (.int .i64 lD) rfl
  have x3 := HO.out.c 3 (.slice la ln lc) rfl
  have C := Lib.hid (plain_m HO.out.r.l)
  rw [Eb1.out] at C
  go_wp2_with fail
  refine C.out.mono ?_; rintro e w1 ⟨rfl, hb⟩
  have HO2 := Lib.hid (HO.out.below hb)
  clear hb C HO x2 x3
  cases b1
  · go_wp2_with fail
    go_ret
    exact ⟨ret_b (HX.out.trans rfl), HO2.out.b⟩
  have x6 := HO2.out.c 6 (.int .i64 pg) rfl
  have C := Lib.hid (within_any w1 pg 0 4096)
  rw [Eb2.out] at C
  go_wp2_with fail
  refine C.out.mono ?_; rintro e w2 ⟨rfl, hb⟩
  have HO3 := Lib.hid (HO2.out.below hb)
  clear hb C HO2 x6
  cases b2
  · go_wp2_with fail
    go_ret
    exact ⟨ret_b (HX.out.trans rfl), HO3.out.b⟩
  have x7 := HO3.out.c 7 (.int .i64 nm) rfl
  have C := Lib.hid (within_any w2 nm 0 4194304)
  rw [Eb3.out] at C
  go_wp2_with fail
  refine C.out.mono ?_; rintro e w3 ⟨rfl, hb⟩
  have HO4 := Lib.hid (HO3.out.below hb)
  clear hb C HO3 x7
  go_wp2_with fail
  go_ret
  exact ⟨ret_b (HX.out.trans rfl), HO4.out.b⟩
set_option maxHeartbeats 4000000 in
set_option maxRecDepth 100000 in
theorem rkind_2 {W : World} {pa lD cD pg nm sp pc : Int} {la ca da ma : Option Addr} {ln lc cn cc dn dc mn mc n : Nat} {lP cP : LP} {dl : List Nat} {mp : List Mp} (hn : n ≤ 1000)
    (h : Ov.Rd W ⟨⟨2, pa, lD, lP, cD, cP, pg, nm, dl, mp, sp, pc⟩, ⟨la, ln, lc⟩, ⟨ca, cn, cc⟩, ⟨da, dn, dc⟩, ⟨ma, mn, mc⟩⟩) :
    Calls Try.prog 37 #[.agg #[.int .i64 2, .int .i64 pa, .int .i64 lD, .slice la ln lc, .int .i64 cD, .slice ca cn cc, .int .i64 pg, .int .i64 nm, .slice da dn dc, .slice ma mn mc, .int .i64 sp, .int .i64 pc], .int .i64 n] W (BB W (kindB n ⟨2, pa, lD, lP, cD, cP, pg, nm, dl, mp, sp, pc⟩)) := by
  obtain ⟨w0, e0⟩ : ∃ w0, W.alloc (Obj.cells #[.int .i64 2, .int .i64 pa, .int .i64 lD, .slice la ln lc, .int .i64 cD, .slice ca cn cc, .int .i64 pg, .int .i64 nm, .slice da dn dc, .slice ma mn mc, .int .i64 sp, .int .i64 pc] 44) = w0 := ⟨_, rfl⟩
  obtain ⟨X, eX⟩ : ∃ X, W.heap.size = X := ⟨_, rfl⟩
  have HO := Lib.hid (OBx.new h)
  unfold arO at HO
  simp only at HO
  rw [e0, eX] at HO
  obtain ⟨b1, eb1⟩ : ∃ b1, pln lP = b1 := ⟨_, rfl⟩
  have Eb1 := Lib.hid eb1
  obtain ⟨b2, eb2⟩ : ∃ b2, decide (0 ≤ pg ∧ pg ≤ 16) = b2 := ⟨_, rfl⟩
  have Eb2 := Lib.hid eb2
  have hdl : dl.length = dn := h.d.1
  have HX := Lib.hid (show kindB n ⟨2, pa, lD, lP, cD, cP, pg, nm, dl, mp, sp, pc⟩ = (b1 && (b2 && decide ((dn : Int) ≤ 64 * pg))) by
    rw [← eb1, ← eb2, ← Bool.decide_and]
    show (pln lP && _) = _
    congr 1
    exact decide_eq_decide.2 (by simp only; omega))
  have HD := Lib.hid (show (¬ (dn : Int) ≤ pg * 64 → (true && (true && decide ((dn : Int) ≤ 64 * pg))) = false) ∧ ((dn : Int) ≤ pg * 64 → (true && (true && decide ((dn : Int) ≤ 64 * pg))) = true) from ⟨fun h => by rw [decide_eq_false (by omega)]; rfl, fun h => by rw [decide_eq_true (by omega)]; rfl⟩)
  clear eb1 eb2 hdl
  have x0 := HO.out.c 0 (.int .i64 2) rfl
  clear h
  go_enter Try.func37, Try.ntmps37
  go_upto_region 1 with fail
  try rw [e0]
  try rw [eX]
  clear e0 eX
  have x2 := HO.out.c 2 (.int .i64 lD) rfl
  have x3 := HO.out.c 3 (.slice la ln lc) rfl
  have C := Lib.hid (plain_m HO.out.r.l)
  rw [Eb1.out] at C
  go_wp2_with fail
  refine C.out.mono ?_; rintro e w1 ⟨rfl, hb⟩
  have HO2 := Lib.hid (HO.out.below hb)
  clear hb C HO x2 x3
  cases b1
  · go_wp2_with fail
    go_ret
    exact ⟨ret_b (HX.out.trans rfl), HO2.out.b⟩
  have x6 := HO2.out.c 6 (.int .i64 pg) rfl
  have C := Lib.hid (within_any w1 pg 0 16)
  rw [Eb2.out] at C
  go_wp2_with fail
  refine C.out.mono ?_; rintro e w2 ⟨rfl, hb⟩
  have HO3 := Lib.hid (HO2.out.below hb)
  clear hb C HO2 x6
  cases b2
  · go_wp2_with fail
    go_ret
    exact ⟨ret_b (HX.out.trans rfl), HO3.out.b⟩
  have hp := Eb2.out
  simp only [decide_eq_true_eq] at hp
  have i0 : IntKind.i64.wrap (pg * 64) = pg * 64 := by rw [IntKind.wrap_i64]; omega
  have x6 := HO3.out.c 6 (.int .i64 pg) rfl
  have x8 := HO3.out.c 8 (.slice da dn dc) rfl
  clear hp
  by_cases hd : (dn : Int) ≤ pg * 64
  · have HZ := Lib.hid (show kindB n ⟨2, pa, lD, lP, cD, cP, pg, nm, dl, mp, sp, pc⟩ = true by rw [HX.out]; exact HD.out.2 hd)
    go_wp2_with fail
    go_ret
    exact ⟨ret_b HZ.out, HO3.out.b⟩
  · have HZ := Lib.hid (show kindB n ⟨2, pa, lD, lP, cD, cP, pg, nm, dl, mp, sp, pc⟩ = false by rw [HX.out]; exact HD.out.1 (by omega))
    go_wp2_with fail
    go_ret
    exact ⟨by first | exact ret_b HZ.out | exact ret_b (HZ.out.trans (decide_eq_false (by omega)).symm), HO3.out.b⟩
set_option maxHeartbeats 4000000 in
set_option maxRecDepth 100000 in
theorem rkind_4 {W : World} {pa lD cD pg nm sp pc : Int} {la ca da ma : Option Addr} {ln lc cn cc dn dc mn mc n : Nat} {lP cP : LP} {dl : List Nat} {mp : List Mp} (hn : n ≤ 1000)
    (h : Ov.Rd W ⟨⟨4, pa, lD, lP, cD, cP, pg, nm, dl, mp, sp, pc⟩, ⟨la, ln, lc⟩, ⟨ca, cn, cc⟩, ⟨da, dn, dc⟩, ⟨ma, mn, mc⟩⟩) :
    Calls Try.prog 37 #[.agg #[.int .i64 4, .int .i64 pa, .int .i64 lD, .slice la ln lc, .int .i64 cD, .slice ca cn cc, .int .i64 pg, .int .i64 nm, .slice da dn dc, .slice ma mn mc, .int .i64 sp, .int .i64 pc], .int .i64 n] W (BB W (kindB n ⟨4, pa, lD, lP, cD, cP, pg, nm, dl, mp, sp, pc⟩)) := by
  obtain ⟨w0, e0⟩ : ∃ w0, W.alloc (Obj.cells #[.int .i64 4, .int .i64 pa, .int .i64 lD, .slice la ln lc, .int .i64 cD, .slice ca cn cc, .int .i64 pg, .int .i64 nm, .slice da dn dc, .slice ma mn mc, .int .i64 sp, .int .i64 pc] 44) = w0 := ⟨_, rfl⟩
  obtain ⟨X, eX⟩ : ∃ X, W.heap.size = X := ⟨_, rfl⟩
  have HO := Lib.hid (OBx.new h)
  unfold arO at HO
  simp only at HO
  rw [e0, eX] at HO
  obtain ⟨b1, eb1⟩ : ∃ b1, pln lP = b1 := ⟨_, rfl⟩
  have Eb1 := Lib.hid eb1
  obtain ⟨b2, eb2⟩ : ∃ b2, mapsB n mp = b2 := ⟨_, rfl⟩
  have Eb2 := Lib.hid eb2
  have HX := Lib.hid (show kindB n ⟨4, pa, lD, lP, cD, cP, pg, nm, dl, mp, sp, pc⟩ = (b1 && b2) by
    rw [← eb1, ← eb2]; rfl)
  clear eb1 eb2
  have x0 := HO.out.c 0 (.int .i64 4) rfl
  clear h
  go_enter Try.func37, Try.ntmps37
  go_upto_region 1 with fail
  try rw [e0]
  try rw [eX]
  clear e0 eX
  have x2 := HO.out.c 2 (.int .i64 lD) rfl
  have x3 := HO.out.c 3 (.slice la ln lc) rfl
  have C := Lib.hid (plain_m HO.out.r.l)
  rw [Eb1.out] at C
  go_wp2_with fail
  refine C.out.mono ?_; rintro e w1 ⟨rfl, hb⟩
  have HO2 := Lib.hid (HO.out.below hb)
  clear hb C HO x2 x3
  cases b1
  · go_wp2_with fail
    go_ret
    exact ⟨ret_b (HX.out.trans rfl), HO2.out.b⟩
  have x9 := HO2.out.c 9 (.slice ma mn mc) rfl
  have C := Lib.hid (rmaps_any (c := mc) (n := n) HO2.out.r.p.1 HO2.out.r.p.2.2.2.2 (by omega) HO2.out.r.p.2.2.2.1 HO2.out.r.p.2.2.1)
  rw [Eb2.out] at C
  go_wp2_with fail
  refine C.out.mono ?_; rintro e w2 ⟨rfl, hb⟩
  have HO3 := Lib.hid (HO2.out.below hb)
  clear hb C HO2 x9
  go_wp2_with fail
  go_ret
  exact ⟨ret_b (HX.out.trans rfl), HO3.out.b⟩
set_option maxHeartbeats 4000000 in
set_option maxRecDepth 100000 in
theorem rkind_3 {W : World} {pa lD cD pg nm sp pc : Int} {la ca da ma : Option Addr} {ln lc cn cc dn dc mn mc n : Nat} {lP cP : LP} {dl : List Nat} {mp : List Mp} (hn : n ≤ 1000)
    (h : Ov.Rd W ⟨⟨3, pa, lD, lP, cD, cP, pg, nm, dl, mp, sp, pc⟩, ⟨la, ln, lc⟩, ⟨ca, cn, cc⟩, ⟨da, dn, dc⟩, ⟨ma, mn, mc⟩⟩) :
    Calls Try.prog 37 #[.agg #[.int .i64 3, .int .i64 pa, .int .i64 lD, .slice la ln lc, .int .i64 cD, .slice ca cn cc, .int .i64 pg, .int .i64 nm, .slice da dn dc, .slice ma mn mc, .int .i64 sp, .int .i64 pc], .int .i64 n] W (BB W (kindB n ⟨3, pa, lD, lP, cD, cP, pg, nm, dl, mp, sp, pc⟩)) := by
  obtain ⟨w0, e0⟩ : ∃ w0, W.alloc (Obj.cells #[.int .i64 3, .int .i64 pa, .int .i64 lD, .slice la ln lc, .int .i64 cD, .slice ca cn cc, .int .i64 pg, .int .i64 nm, .slice da dn dc, .slice ma mn mc, .int .i64 sp, .int .i64 pc] 44) = w0 := ⟨_, rfl⟩
  obtain ⟨X, eX⟩ : ∃ X, W.heap.size = X := ⟨_, rfl⟩
  have HO := Lib.hid (OBx.new h)
  unfold arO at HO
  simp only at HO
  rw [e0, eX] at HO
  obtain ⟨b1, eb1⟩ : ∃ b1, Lab.right cD cP = b1 := ⟨_, rfl⟩
  have Eb1 := Lib.hid eb1
  obtain ⟨b2, eb2⟩ : ∃ b2, lq lD lP cD cP = b2 := ⟨_, rfl⟩
  have Eb2 := Lib.hid eb2
  obtain ⟨b3, eb3⟩ : ∃ b3, decide (0 ≤ pc ∧ pc ≤ 262143) = b3 := ⟨_, rfl⟩
  have Eb3 := Lib.hid eb3
  obtain ⟨b4, eb4⟩ : ∃ b4, decide (0 ≤ sp ∧ sp ≤ n) = b4 := ⟨_, rfl⟩
  have Eb4 := Lib.hid eb4
  have HX := Lib.hid (show kindB n ⟨3, pa, lD, lP, cD, cP, pg, nm, dl, mp, sp, pc⟩ = (b1 && (b2 && (b3 && b4))) by
    rw [← eb1, ← eb2, ← eb3, ← eb4, ← Bool.decide_and]
    show (Lab.right cD cP && (lq lD lP cD cP && _)) = _
    congr 2
    exact decide_eq_decide.2 (by simp only; omega))
  clear eb1 eb2 eb3 eb4
  have x0 := HO.out.c 0 (.int .i64 3) rfl
  clear h
  go_enter Try.func37, Try.ntmps37
  go_upto_region 1 with fail
  try rw [e0]
  try rw [eX]
  clear e0 eX
  have x4 := HO.out.c 4 (.int .i64 cD) rfl
  have x5 := HO.out.c 5 (.slice ca cn cc) rfl
  have C := Lib.hid (right_m HO.out.r.c)
  rw [Eb1.out] at C
  go_wp2_with fail
  refine C.out.mono ?_; rintro e w1 ⟨rfl, hb⟩
  have HO2 := Lib.hid (HO.out.below hb)
  clear hb C HO x4 x5
  cases b1
  · go_wp2_with fail
    go_ret
    exact ⟨ret_b (HX.out.trans rfl), HO2.out.b⟩
  have x2 := HO2.out.c 2 (.int .i64 lD) rfl
  have x3 := HO2.out.c 3 (.slice la ln lc) rfl
  have x4 := HO2.out.c 4 (.int .i64 cD) rfl
  have x5 := HO2.out.c 5 (.slice ca cn cc) rfl
  have C := Lib.hid (leq_m HO2.out.r.l HO2.out.r.c (by omega) (by omega))
  rw [Eb2.out] at C
  go_wp2_with fail
  refine C.out.mono ?_; rintro e w2 ⟨rfl, hb⟩
  have HO3 := Lib.hid (HO2.out.below hb)
  clear hb C HO2 x2 x3 x4 x5
  cases b2
  · go_wp2_with fail
    go_ret
    exact ⟨ret_b (HX.out.trans rfl), HO3.out.b⟩
  have x11 := HO3.out.c 11 (.int .i64 pc) rfl
  have C := Lib.hid (within_any w2 pc 0 262143)
  rw [Eb3.out] at C
  go_wp2_with fail
  refine C.out.mono ?_; rintro e w3 ⟨rfl, hb⟩
  have HO4 := Lib.hid (HO3.out.below hb)
  clear hb C HO3 x11
  cases b3
  · go_wp2_with fail
    go_ret
    exact ⟨ret_b (HX.out.trans rfl), HO4.out.b⟩
  have x10 := HO4.out.c 10 (.int .i64 sp) rfl
  have C := Lib.hid (within_any w3 sp 0 n)
  rw [Eb4.out] at C
  go_wp2_with fail
  refine C.out.mono ?_; rintro e w4 ⟨rfl, hb⟩
  have HO5 := Lib.hid (HO4.out.below hb)
  clear hb C HO4 x10
  go_wp2_with fail
  go_ret
  exact ⟨ret_b (HX.out.trans rfl), HO5.out.b⟩
set_option maxHeartbeats 4000000 in
set_option maxRecDepth 100000 in
theorem rkind_5 {W : World} {pa lD cD pg nm sp pc : Int} {la ca da ma : Option Addr} {ln lc cn cc dn dc mn mc n : Nat} {lP cP : LP} {dl : List Nat} {mp : List Mp} (hn : n ≤ 1000)
    (h : Ov.Rd W ⟨⟨5, pa, lD, lP, cD, cP, pg, nm, dl, mp, sp, pc⟩, ⟨la, ln, lc⟩, ⟨ca, cn, cc⟩, ⟨da, dn, dc⟩, ⟨ma, mn, mc⟩⟩) :
    Calls Try.prog 37 #[.agg #[.int .i64 5, .int .i64 pa, .int .i64 lD, .slice la ln lc, .int .i64 cD, .slice ca cn cc, .int .i64 pg, .int .i64 nm, .slice da dn dc, .slice ma mn mc, .int .i64 sp, .int .i64 pc], .int .i64 n] W (BB W (kindB n ⟨5, pa, lD, lP, cD, cP, pg, nm, dl, mp, sp, pc⟩)) := by
  obtain ⟨w0, e0⟩ : ∃ w0, W.alloc (Obj.cells #[.int .i64 5, .int .i64 pa, .int .i64 lD, .slice la ln lc, .int .i64 cD, .slice ca cn cc, .int .i64 pg, .int .i64 nm, .slice da dn dc, .slice ma mn mc, .int .i64 sp, .int .i64 pc] 44) = w0 := ⟨_, rfl⟩
  obtain ⟨X, eX⟩ : ∃ X, W.heap.size = X := ⟨_, rfl⟩
  have HO := Lib.hid (OBx.new h)
  unfold arO at HO
  simp only at HO
  rw [e0, eX] at HO
  obtain ⟨b1, eb1⟩ : ∃ b1, Lab.right cD cP = b1 := ⟨_, rfl⟩
  have Eb1 := Lib.hid eb1
  obtain ⟨b2, eb2⟩ : ∃ b2, lq lD lP cD cP = b2 := ⟨_, rfl⟩
  have Eb2 := Lib.hid eb2
  obtain ⟨b3, eb3⟩ : ∃ b3, decide (0 ≤ pc ∧ pc ≤ 262143) = b3 := ⟨_, rfl⟩
  have Eb3 := Lib.hid eb3
  obtain ⟨b4, eb4⟩ : ∃ b4, decide (0 ≤ sp ∧ sp ≤ n) = b4 := ⟨_, rfl⟩
  have Eb4 := Lib.hid eb4
  have HX := Lib.hid (show kindB n ⟨5, pa, lD, lP, cD, cP, pg, nm, dl, mp, sp, pc⟩ = (b1 && (b2 && (b3 && b4))) by
    rw [← eb1, ← eb2, ← eb3, ← eb4, ← Bool.decide_and]
    show (Lab.right cD cP && (lq lD lP cD cP && _)) = _
    congr 2
    exact decide_eq_decide.2 (by simp only; omega))
  clear eb1 eb2 eb3 eb4
  have x0 := HO.out.c 0 (.int .i64 5) rfl
  clear h
  go_enter Try.func37, Try.ntmps37
  go_upto_region 1 with fail
  try rw [e0]
  try rw [eX]
  clear e0 eX
  have x4 := HO.out.c 4 (.int .i64 cD) rfl
  have x5 := HO.out.c 5 (.slice ca cn cc) rfl
  have C := Lib.hid (right_m HO.out.r.c)
  rw [Eb1.out] at C
  go_wp2_with fail
  refine C.out.mono ?_; rintro e w1 ⟨rfl, hb⟩
  have HO2 := Lib.hid (HO.out.below hb)
  clear hb C HO x4 x5
  cases b1
  · go_wp2_with fail
    go_ret
    exact ⟨ret_b (HX.out.trans rfl), HO2.out.b⟩
  have x2 := HO2.out.c 2 (.int .i64 lD) rfl
  have x3 := HO2.out.c 3 (.slice la ln lc) rfl
  have x4 := HO2.out.c 4 (.int .i64 cD) rfl
  have x5 := HO2.out.c 5 (.slice ca cn cc) rfl
  have C := Lib.hid (leq_m HO2.out.r.l HO2.out.r.c (by omega) (by omega))
  rw [Eb2.out] at C
  go_wp2_with fail
  refine C.out.mono ?_; rintro e w2 ⟨rfl, hb⟩
  have HO3 := Lib.hid (HO2.out.below hb)
  clear hb C HO2 x2 x3 x4 x5
  cases b2
  · go_wp2_with fail
    go_ret
    exact ⟨ret_b (HX.out.trans rfl), HO3.out.b⟩
  have x11 := HO3.out.c 11 (.int .i64 pc) rfl
  have C := Lib.hid (within_any w2 pc 0 262143)
  rw [Eb3.out] at C
  go_wp2_with fail
  refine C.out.mono ?_; rintro e w3 ⟨rfl, hb⟩
  have HO4 := Lib.hid (HO3.out.below hb)
  clear hb C HO3 x11
  cases b3
  · go_wp2_with fail
    go_ret
    exact ⟨ret_b (HX.out.trans rfl), HO4.out.b⟩
  have x10 := HO4.out.c 10 (.int .i64 sp) rfl
  have C := Lib.hid (within_any w3 sp 0 n)
  rw [Eb4.out] at C
  go_wp2_with fail
  refine C.out.mono ?_; rintro e w4 ⟨rfl, hb⟩
  have HO5 := Lib.hid (HO4.out.below hb)
  clear hb C HO4 x10
  go_wp2_with fail
  go_ret
  exact ⟨ret_b (HX.out.trans rfl), HO5.out.b⟩
set_option maxHeartbeats 4000000 in
set_option maxRecDepth 100000 in
theorem rkind_6 {W : World} {pa lD cD pg nm sp pc : Int} {la ca da ma : Option Addr} {ln lc cn cc dn dc mn mc n : Nat} {lP cP : LP} {dl : List Nat} {mp : List Mp} (hn : n ≤ 1000)
    (h : Ov.Rd W ⟨⟨6, pa, lD, lP, cD, cP, pg, nm, dl, mp, sp, pc⟩, ⟨la, ln, lc⟩, ⟨ca, cn, cc⟩, ⟨da, dn, dc⟩, ⟨ma, mn, mc⟩⟩) :
    Calls Try.prog 37 #[.agg #[.int .i64 6, .int .i64 pa, .int .i64 lD, .slice la ln lc, .int .i64 cD, .slice ca cn cc, .int .i64 pg, .int .i64 nm, .slice da dn dc, .slice ma mn mc, .int .i64 sp, .int .i64 pc], .int .i64 n] W (BB W (kindB n ⟨6, pa, lD, lP, cD, cP, pg, nm, dl, mp, sp, pc⟩)) := by
  obtain ⟨w0, e0⟩ : ∃ w0, W.alloc (Obj.cells #[.int .i64 6, .int .i64 pa, .int .i64 lD, .slice la ln lc, .int .i64 cD, .slice ca cn cc, .int .i64 pg, .int .i64 nm, .slice da dn dc, .slice ma mn mc, .int .i64 sp, .int .i64 pc] 44) = w0 := ⟨_, rfl⟩
  obtain ⟨X, eX⟩ : ∃ X, W.heap.size = X := ⟨_, rfl⟩
  have HO := Lib.hid (OBx.new h)
  unfold arO at HO
  simp only at HO
  rw [e0, eX] at HO
  obtain ⟨b1, eb1⟩ : ∃ b1, pln lP = b1 := ⟨_, rfl⟩
  have Eb1 := Lib.hid eb1
  have HX := Lib.hid (show kindB n ⟨6, pa, lD, lP, cD, cP, pg, nm, dl, mp, sp, pc⟩ = b1 by
    rw [← eb1]; rfl)
  clear eb1
  have x0 := HO.out.c 0 (.int .i64 6) rfl
  clear h
  go_enter Try.func37, Try.ntmps37
  go_upto_region 1 with fail
  try rw [e0]
  try rw [eX]
  clear e0 eX
  have x2 := HO.out.c 2 (.int .i64 lD) rfl
  have x3 := HO.out.c 3 (.slice la ln lc) rfl
  have C := Lib.hid (plain_m HO.out.r.l)
  rw [Eb1.out] at C
  go_wp2_with fail
  refine C.out.mono ?_; rintro e w1 ⟨rfl, hb⟩
  have HO2 := Lib.hid (HO.out.below hb)
  clear hb C HO x2 x3
  go_wp2_with fail
  go_ret
  exact ⟨ret_b (HX.out.trans rfl), HO2.out.b⟩
set_option maxHeartbeats 4000000 in
set_option maxRecDepth 100000 in
theorem rkind_0 {W : World} {kd pa lD cD pg nm sp pc : Int} {la ca da ma : Option Addr} {ln lc cn cc dn dc mn mc n : Nat} {lP cP : LP} {dl : List Nat} {mp : List Mp} (hn : n ≤ 1000)
    (h : Ov.Rd W ⟨⟨kd, pa, lD, lP, cD, cP, pg, nm, dl, mp, sp, pc⟩, ⟨la, ln, lc⟩, ⟨ca, cn, cc⟩, ⟨da, dn, dc⟩, ⟨ma, mn, mc⟩⟩) (hk : kd ≠ 1 ∧ kd ≠ 2 ∧ kd ≠ 3 ∧ kd ≠ 4 ∧ kd ≠ 5 ∧ kd ≠ 6) :
    Calls Try.prog 37 #[.agg #[.int .i64 kd, .int .i64 pa, .int .i64 lD, .slice la ln lc, .int .i64 cD, .slice ca cn cc, .int .i64 pg, .int .i64 nm, .slice da dn dc, .slice ma mn mc, .int .i64 sp, .int .i64 pc], .int .i64 n] W (BB W (kindB n ⟨kd, pa, lD, lP, cD, cP, pg, nm, dl, mp, sp, pc⟩)) := by
  obtain ⟨w0, e0⟩ : ∃ w0, W.alloc (Obj.cells #[.int .i64 kd, .int .i64 pa, .int .i64 lD, .slice la ln lc, .int .i64 cD, .slice ca cn cc, .int .i64 pg, .int .i64 nm, .slice da dn dc, .slice ma mn mc, .int .i64 sp, .int .i64 pc] 44) = w0 := ⟨_, rfl⟩
  obtain ⟨X, eX⟩ : ∃ X, W.heap.size = X := ⟨_, rfl⟩
  have HO := Lib.hid (OBx.new h)
  unfold arO at HO
  simp only at HO
  rw [e0, eX] at HO
  have k1 : (kd == 1) = false := by simp; omega
  have k2 : (kd == 2) = false := by simp; omega
  have k3 : (kd == 3) = false := by simp; omega
  have k4 : (kd == 4) = false := by simp; omega
  have k5 : (kd == 5) = false := by simp; omega
  have k6 : (kd == 6) = false := by simp; omega
  have HX := Lib.hid (show kindB n ⟨kd, pa, lD, lP, cD, cP, pg, nm, dl, mp, sp, pc⟩ = false by
    unfold kindB
    simp only
    rw [if_neg (by omega), if_neg (by omega), if_neg (by omega), if_neg (by omega), if_neg (by omega)])
  clear hk
  have x0 := HO.out.c 0 (.int .i64 kd) rfl
  clear h
  go_enter Try.func37, Try.ntmps37
  go_upto_region 1 with fail
  try rw [e0]
  try rw [eX]
  clear e0 eX
  go_wp2_with fail
  go_ret
  exact ⟨ret_b HX.out, HO.out.b⟩
theorem rkind_any {W : World} {o : Ov} {n : Nat} (hn : n ≤ 1000) (h : o.Rd W) : Calls Try.prog 37 #[.agg (arO o), .int .i64 n] W (BB W (kindB n o.m)) := by
  obtain ⟨⟨kd, pa, lD, lP, cD, cP, pg, nm, dl, mp, sp, pc⟩, ⟨la, ln, lc⟩, ⟨ca, cn, cc⟩, ⟨da, dn, dc⟩, ⟨ma, mn, mc⟩⟩ := o
  by_cases h1 : kd = 1
  · subst h1; exact rkind_1 hn h
  by_cases h2 : kd = 2
  · subst h2; exact rkind_2 hn h
  by_cases h3 : kd = 3
  · subst h3; exact rkind_3 hn h
  by_cases h4 : kd = 4
  · subst h4; exact rkind_4 hn h
  by_cases h5 : kd = 5
  · subst h5; exact rkind_5 hn h
  by_cases h6 : kd = 6
  · subst h6; exact rkind_6 hn h
  · exact rkind_0 hn h ⟨h1, h2, h3, h4, h5, h6⟩
end Go.Proofs.Ytmadldgajjgbmaa
