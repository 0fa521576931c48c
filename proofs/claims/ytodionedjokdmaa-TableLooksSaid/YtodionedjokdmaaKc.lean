/- Look. -/
import Derived.Test.YtodionedjokdmaaKb
set_option linter.unusedVariables false
set_option linter.unusedSimpArgs false
namespace Go.Proofs.Ytodionedjokdmaa
open Go.RowKit
set_option linter.unusedVariables false
set_option linter.unusedSimpArgs false
def lkD (kd D : Int) : Int := if atRest kd = true then Lab.turn 0 2 D else D
def lkP (kd D : Int) (P : LP) : LP := if atRest kd = true then Lab.tn 0 2 D P else P
/-- A label is stored into a variable. -/
theorem put2 {w : World} {g : Nat} {x0 x1 : Value} {T : TypeId} (h : w.heap[g]? = some (Obj.cells #[x0, x1] T)) (v0 v1 : Value) : ((w.setCell ⟨g, 0, none⟩ v0).setCell ⟨g, 1, none⟩ v1).heap[g]? = some (Obj.cells #[v0, v1] T) :=
  heap_setCell_same _ _ 1 _ _ v1 (heap_setCell_same _ _ 0 _ _ v0 h)
theorem LA.other {k : Nat} {w : World} {D : Int} {A : Option Addr} {l c g : Nat} {P : LP} (h : LA k w D A l c P) {z : Int} {a0 : Option Addr} {l0 c0 : Nat} (hg : w.heap[g]? = some (Obj.cells #[.int .i64 z, .slice a0 l0 c0] 44)) (v0 v1 : Value) :
    LA k ((w.setCell ⟨g, 0, none⟩ v0).setCell ⟨g, 1, none⟩ v1) D A l c P := by
  refine ⟨h.1, h.2.1, ?_⟩
  rcases h.2.2 with h1 | ⟨b, off, cap, h1, h2, h3, h4, h5⟩
  · exact .inl h1
  · have hsz : ((w.setCell ⟨g, 0, none⟩ v0).setCell ⟨g, 1, none⟩ v1).heap.size = w.heap.size := by simp
    refine .inr ⟨b, off, cap, h1, by rw [hsz]; exact h2, h3, h4, fun i p hp => ?_⟩
    obtain ⟨k1, k2⟩ := h5 i p hp
    have hne : b ≠ g := fun e => by
      subst e
      rw [cell_of_row _ _ _ _ _ (0, 0) hg] at k1
      match hx : off + i * 2, k1 with
      | 0, k1 => injection k1 with k1; cases k1
      | 1, k1 => injection k1 with k1; cases k1
      | x + 2, k1 => simp at k1
    have e1 : ∀ x, ((w.setCell ⟨g, 0, none⟩ v0).setCell ⟨g, 1, none⟩ v1).cell? ⟨b, x, none⟩ = w.cell? ⟨b, x, none⟩ := fun x => by
      rw [World.cell?_setCell_other _ _ _ _ (fun e => hne (by injection e with e; exact e.symm)), World.cell?_setCell_other _ _ _ _ (fun e => hne (by injection e with e; exact e.symm))]
    rw [e1, e1]
    exact ⟨k1, k2⟩
theorem below_put2 {W w : World} {g : Nat} (h : Below W.heap.size W w) (hg : W.heap.size ≤ g) (v0 v1 : Value) : Below W.heap.size W ((w.setCell ⟨g, 0, none⟩ v0).setCell ⟨g, 1, none⟩ v1) := (h.setCell (p := ⟨g, 0, none⟩) hg v0).setCell (p := ⟨g, 1, none⟩) hg v1
set_option maxHeartbeats 2000000 in
set_option maxRecDepth 100000 in
theorem look_any {w : World} {b : Nat} {kd D : Int} {A : Option Addr} {l c k : Nat} {P : LP} (h : OL w b kd D A l c) (hA : LA k w D A l c P) (hk : k ≤ 1000) :
    Calls Try.prog 20 #[.pointer (some ⟨b, 0, none⟩)] w (LM (k + k) w (lkD kd D) (lkP kd D P)) := by
  obtain ⟨W0, e0⟩ : ∃ W0, w.alloc (Obj.cells #[.int .i64 0, .slice none 0 0] 44) = W0 := ⟨_, rfl⟩
  obtain ⟨g, eg⟩ : ∃ g, w.heap.size = g := ⟨_, rfl⟩
  have hb0 : Below w.heap.size w W0 := by rw [← e0]; exact below_alloc1 _ _
  have hg0 : W0.heap[g]? = some (Obj.cells #[.int .i64 0, .slice none 0 0] 44) := by rw [← e0, ← eg]; exact heap_alloc_new w _
  have h0 := h.below hb0
  have hA0 := hA.below hb0
  have c3 := h0.k
  have HE := Lib.hid (And.intro e0 eg)
  have H0 := Lib.hid (And.intro hb0 (And.intro hg0 (And.intro h0 hA0)))
  have HG := Lib.hid (show w.heap.size ≤ g by omega)
  have hbl := World.block_lt_of_cell? W0 _ c3
  by_cases hr : atRest kd = true
  · have CR := Lib.hid (rest_m hA0 hk)
    have c4 := h0.d
    have c5 := h0.p
    have hx : lkD kd D = Lab.turn 0 2 D ∧ lkP kd D P = Lab.tn 0 2 D P := by unfold lkD lkP; rw [if_pos hr, if_pos hr]; exact ⟨rfl, rfl⟩
    rw [hx.1, hx.2]
    have hr' : kd = 3 ∨ kd = 5 := by unfold atRest at hr; simpa using hr
    clear e0 eg hb0 hg0 h hA h0 hA0 hr hx hbl
    rcases hr' with rfl | rfl
    · go_enter Try.func20, Try.ntmps20
      go_upto_region 1 with fail
      rw [HE.out.1, HE.out.2]
      go_wp2_with fail
      refine CR.out.mono ?_; rintro e w1 ⟨a', n', c', rfl, hL, hb1⟩
      have g1 := (hb1.block g (Array.getElem?_eq_some_iff.1 H0.out.2.1).1).trans H0.out.2.1
      have k0 : w1.cell? ⟨g, 0, none⟩ = some (.int .i64 0) := by rw [cell_of_row _ _ _ _ _ (0, 0) g1]; rfl
      have k1 : w1.cell? ⟨g, 1, none⟩ = some (.slice none 0 0) := by rw [cell_of_row _ _ _ _ _ (0, 0) g1]; rfl
      have f0 : w1.frozen? ⟨g, 0, none⟩ = false := frozen_of_row _ _ _ _ _ g1
      have f1 : w1.frozen? ⟨g, 1, none⟩ = false := frozen_of_row _ _ _ _ _ g1
      have H1 := Lib.hid (And.intro hL (And.intro hb1 g1))
      clear hL hb1 g1 CR c3 c4 c5
      go_wp2_with fail
      exact bodyPost_ret (results_cell_row (by rfl) _ _ g 44 _ (0, 0) _ (by rfl) (put2 H1.out.2.2 _ _) Try.underlying44 rfl info24) rfl ⟨a', n', c', rfl, H1.out.1.other H1.out.2.2 _ _, below_put2 (below_up H0.out.1 H1.out.2.1) HG.out _ _⟩
    · go_enter Try.func20, Try.ntmps20
      go_upto_region 1 with fail
      rw [HE.out.1, HE.out.2]
      go_wp2_with fail
      refine CR.out.mono ?_; rintro e w1 ⟨a', n', c', rfl, hL, hb1⟩
      have g1 := (hb1.block g (Array.getElem?_eq_some_iff.1 H0.out.2.1).1).trans H0.out.2.1
      have k0 : w1.cell? ⟨g, 0, none⟩ = some (.int .i64 0) := by rw [cell_of_row _ _ _ _ _ (0, 0) g1]; rfl
      have k1 : w1.cell? ⟨g, 1, none⟩ = some (.slice none 0 0) := by rw [cell_of_row _ _ _ _ _ (0, 0) g1]; rfl
      have f0 : w1.frozen? ⟨g, 0, none⟩ = false := frozen_of_row _ _ _ _ _ g1
      have f1 : w1.frozen? ⟨g, 1, none⟩ = false := frozen_of_row _ _ _ _ _ g1
      have H1 := Lib.hid (And.intro hL (And.intro hb1 g1))
      clear hL hb1 g1 CR c3 c4 c5
      go_wp2_with fail
      exact bodyPost_ret (results_cell_row (by rfl) _ _ g 44 _ (0, 0) _ (by rfl) (put2 H1.out.2.2 _ _) Try.underlying44 rfl info24) rfl ⟨a', n', c', rfl, H1.out.1.other H1.out.2.2 _ _, below_put2 (below_up H0.out.1 H1.out.2.1) HG.out _ _⟩
  · have CC := Lib.hid (fun wS (hS : Below W0.heap.size W0 wS) => clone_p (hA0.below hS) hk)
    have hx : lkD kd D = D ∧ lkP kd D P = P := by unfold lkD lkP; rw [if_neg hr, if_neg hr]; exact ⟨rfl, rfl⟩
    rw [hx.1, hx.2]
    have q3 : (kd == 3) = false := by unfold atRest at hr; simp at hr; simpa using hr.1
    have q5 : (kd == 5) = false := by unfold atRest at hr; simp at hr; simpa using hr.2
    have HF := Lib.hid (fun (wS : World) (hS : Below W0.heap.size W0 wS) => (⟨(h0.below hS).d, (h0.below hS).p⟩ : wS.cell? ⟨b, 4, none⟩ = some (.int .i64 D) ∧ wS.cell? ⟨b, 5, none⟩ = some (.slice A l c)))
    clear e0 eg hb0 hg0 h hA h0 hA0 hr hx hbl
    go_enter Try.func20, Try.ntmps20
    go_upto_region 1 with fail
    rw [HE.out.1, HE.out.2]
    go_upto_region 7 with fail
    clear c3 q3 q5
    refine region_AU (Z := fun j => j == 12) (S := fun w' => Below W0.heap.size W0 w') (by kernel_rfl) ((Below.refl _ _).drew) (fun hHeld => ?_)
    refine AUS_take (by kernel_rfl) rfl (i := 0) (oi := _) (v := ?vw1) rfl (by kernel_rfl) (by kernel_rfl) (by kernel_rfl) (fun _ _ _ h => h) (Or.inl ⟨by rfl, ?hz1⟩) hHeld ?rst1
    case hz1 => (intro wS hSw; clear hSw; go_simp; try with_reducible rfl)
    simp only [Act.put, List.getElem_toArray, List.getElem_cons_zero, List.getElem_cons_succ, List.setIfInBounds_toArray, List.set_cons_zero, List.set_cons_succ]
    refine AUS_take (by kernel_rfl) rfl (i := 1) (oi := _) (v := ?vw2) rfl (by kernel_rfl) (by kernel_rfl) (by kernel_rfl) (fun _ _ _ h => h) (Or.inl ⟨by rfl, ?hz2⟩) hHeld ?rst2
    case hz2 => (intro wS hSw; clear hSw; go_simp; try with_reducible rfl)
    simp only [Act.put, List.getElem_toArray, List.getElem_cons_zero, List.getElem_cons_succ, List.setIfInBounds_toArray, List.set_cons_zero, List.set_cons_succ]
    refine AUS_take (by kernel_rfl) rfl (i := 2) (oi := _) (v := ?vw3) rfl (by kernel_rfl) (by kernel_rfl) (by kernel_rfl) (fun _ _ _ h => h) (Or.inl ⟨by rfl, ?hz3⟩) hHeld ?rst3
    case hz3 => (intro wS hSw; clear hSw; go_simp; try with_reducible rfl)
    simp only [Act.put, List.getElem_toArray, List.getElem_cons_zero, List.getElem_cons_succ, List.setIfInBounds_toArray, List.set_cons_zero, List.set_cons_succ]
    refine AUS_take (by kernel_rfl) rfl (i := 3) (oi := _) (v := ?vw4) rfl (by kernel_rfl) (by kernel_rfl) (by kernel_rfl) (fun _ _ _ h => h) (Or.inl ⟨by rfl, ?hz4⟩) hHeld ?rst4
    case hz4 => (intro wS hSw; clear hSw; go_simp; try with_reducible rfl)
    simp only [Act.put, List.getElem_toArray, List.getElem_cons_zero, List.getElem_cons_succ, List.setIfInBounds_toArray, List.set_cons_zero, List.set_cons_succ]
    refine AUS_take (by kernel_rfl) rfl (i := 4) (oi := _) (v := ?vw5) rfl (by kernel_rfl) (by kernel_rfl) (by kernel_rfl) (fun _ _ _ h => h) (Or.inl ⟨by rfl, ?hz5⟩) hHeld ?rst5
    case hz5 => (intro wS hSw; obtain ⟨f1, f2⟩ := HF.out wS hSw; clear hSw; go_simp; try with_reducible rfl)
    simp only [Act.put, List.getElem_toArray, List.getElem_cons_zero, List.getElem_cons_succ, List.setIfInBounds_toArray, List.set_cons_zero, List.set_cons_succ]
    refine AUS_take (by kernel_rfl) rfl (i := 5) (oi := _) (v := ?vw6) rfl (by kernel_rfl) (by kernel_rfl) (by kernel_rfl) (fun _ _ _ h => h) (Or.inl ⟨by rfl, ?hz6⟩) hHeld ?rst6
    case hz6 => (intro wS hSw; clear hSw; go_simp; try with_reducible rfl)
    simp only [Act.put, List.getElem_toArray, List.getElem_cons_zero, List.getElem_cons_succ, List.setIfInBounds_toArray, List.set_cons_zero, List.set_cons_succ]
    refine AUS_take (by kernel_rfl) rfl (i := 6) (oi := _) (v := ?vw7) rfl (by kernel_rfl) (by kernel_rfl) (by kernel_rfl) (fun _ _ _ h => h) (Or.inl ⟨by rfl, ?hz7⟩) hHeld ?rst7
    case hz7 => (intro wS hSw; clear hSw; go_simp; try with_reducible rfl)
    simp only [Act.put, List.getElem_toArray, List.getElem_cons_zero, List.getElem_cons_succ, List.setIfInBounds_toArray, List.set_cons_zero, List.set_cons_succ]
    refine AUS_take (by kernel_rfl) rfl (i := 7) (oi := _) (v := ?vw8) rfl (by kernel_rfl) (by kernel_rfl) (by kernel_rfl) (fun _ _ _ h => h) (Or.inl ⟨by rfl, ?hz8⟩) hHeld ?rst8
    case hz8 => (intro wS hSw; clear hSw; go_simp; try with_reducible rfl)
    simp only [Act.put, List.getElem_toArray, List.getElem_cons_zero, List.getElem_cons_succ, List.setIfInBounds_toArray, List.set_cons_zero, List.set_cons_succ]
    refine AUS_take (by kernel_rfl) rfl (i := 8) (oi := _) (v := ?vw9) rfl (by kernel_rfl) (by kernel_rfl) (by kernel_rfl) (fun _ _ _ h => h) (Or.inl ⟨by rfl, ?hz9⟩) hHeld ?rst9
    case hz9 => (intro wS hSw; clear hSw; go_simp; try with_reducible rfl)
    simp only [Act.put, List.getElem_toArray, List.getElem_cons_zero, List.getElem_cons_succ, List.setIfInBounds_toArray, List.set_cons_zero, List.set_cons_succ]
    refine AUS_take (by kernel_rfl) rfl (i := 9) (oi := _) (v := ?vw10) rfl (by kernel_rfl) (by kernel_rfl) (by kernel_rfl) (fun _ _ _ h => h) (Or.inl ⟨by rfl, ?hz10⟩) hHeld ?rst10
    case hz10 => (intro wS hSw; obtain ⟨f1, f2⟩ := HF.out wS hSw; clear hSw; go_simp; try with_reducible rfl)
    simp only [Act.put, List.getElem_toArray, List.getElem_cons_zero, List.getElem_cons_succ, List.setIfInBounds_toArray, List.set_cons_zero, List.set_cons_succ]
    refine AU_one (i := 10) (o := _) (by kernel_rfl) rfl (fun K hK => ?_)
    have HH := Lib.hid hHeld
    have C := Lib.hid (CC.out _ hHeld)
    clear hHeld
    go_simp
    refine C.out.mono ?_
    clear C CC
    rintro e w1 ⟨a', n', c', rfl, hL, hb1⟩
    have hHeld := HH.out.trans (hb1.mono HH.out.size)
    have HL := Lib.hid hL
    clear HH hL hb1
    refine hK.out _ _ (fun _ => hHeld) ?_
    clear hK K
    try simp only [Act.put, List.getElem_toArray, List.getElem_cons_zero, List.getElem_cons_succ, List.setIfInBounds_toArray, List.set_cons_zero, List.set_cons_succ]
    refine AUS_take (by kernel_rfl) rfl (i := 11) (oi := _) (v := ?vw11) rfl (by kernel_rfl) (by kernel_rfl) (by kernel_rfl) (fun _ _ _ h => h) (Or.inl ⟨by rfl, ?hz11⟩) hHeld ?rst11
    case hz11 => (intro wS hSw; clear hSw; go_simp; try with_reducible rfl)
    simp only [Act.put, List.getElem_toArray, List.getElem_cons_zero, List.getElem_cons_succ, List.setIfInBounds_toArray, List.set_cons_zero, List.set_cons_succ]
    refine AU_one (i := 12) (o := _) (by kernel_rfl) rfl (fun K hK => ?_)
    have g1 := (hHeld.block g (Array.getElem?_eq_some_iff.1 H0.out.2.1).1).trans H0.out.2.1
    have k0 : w1.cell? ⟨g, 0, none⟩ = some (.int .i64 0) := by rw [cell_of_row _ _ _ _ _ (0, 0) g1]; rfl
    have k1 : w1.cell? ⟨g, 1, none⟩ = some (.slice none 0 0) := by rw [cell_of_row _ _ _ _ _ (0, 0) g1]; rfl
    have f0 : w1.frozen? ⟨g, 0, none⟩ = false := frozen_of_row _ _ _ _ _ g1
    have f1 : w1.frozen? ⟨g, 1, none⟩ = false := frozen_of_row _ _ _ _ _ g1
    have H1 := Lib.hid (And.intro HL.out (And.intro hHeld g1))
    clear g1 hHeld HF
    go_simp
    refine hK.out _ _ (fun hz => (by cases hz)) ?_
    clear hK K
    refine AU_done (by kernel_rfl) ?_ _
    simp only [OnlyN]
    go_wp2_with fail
    exact bodyPost_ret (results_cell_row (by rfl) _ _ g 44 _ (0, 0) _ (by rfl) (put2 H1.out.2.2 _ _) Try.underlying44 rfl info24) rfl ⟨a', n', c', rfl, (H1.out.1.other H1.out.2.2 _ _).mono (by omega), below_put2 (below_up H0.out.1 H1.out.2.1) HG.out _ _⟩
end Go.Proofs.Ytodionedjokdmaa
