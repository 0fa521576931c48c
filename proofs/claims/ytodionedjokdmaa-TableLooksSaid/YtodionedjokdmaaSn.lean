import Derived.Test.YtodionedjokdmaaSm
import Derived.Laws.AppendOwnNone
namespace Go.Proofs.Ytodionedjokdmaa
open Go.RowKit
set_option linter.unusedVariables false
set_option linter.unusedSimpArgs false

theorem keep2 {wx : World} {B : Nat} {o : Obj} {a1 a2 : Addr} {u v : Value} (h : wx.heap[B]? = some o) (h1 : B ≠ a1.block) (h2 : B ≠ a2.block) : ((wx.setCell a1 u).setCell a2 v).drew.heap[B]? = some o := by
  show ((wx.setCell a1 u).setCell a2 v).heap[B]? = some o
  rw [heap_setCell_other _ _ _ _ h2, heap_setCell_other _ _ _ _ h1]; exact h
theorem drew_stored {w X : World} {v : Value} {Z : List (Nat × Int)} (h : X.ownsRow w.heap.size 101 2 v Z.length (F Z) ∧ Below w.heap.size w X) : X.drew.ownsRow w.heap.size 101 2 v Z.length (F Z) ∧ Below w.heap.size w X.drew :=
  ⟨owns_below h.1 (Below.refl _ X).drew, h.2.drew⟩
set_option maxRecDepth 100000 in
set_option maxHeartbeats 4000000 in
theorem pwith_none (D : Int) (c : Nat) (l : Int) (w : World) :
    Calls Try.prog 17 #[.agg #[.int .i64 D, .slice none 0 0], .int .u32 c, .int .i64 l] w (Gives w D (Lab.put D [] c l)) := by
  obtain ⟨i0, hi, hz0, hz1, hz2⟩ := info_parts info47
  have hb0 : Below w.heap.size w ((w.alloc (Obj.cells #[.int .i64 D, .slice none 0 0] 44)).alloc (Obj.cells #[.int .i64 0, .slice none 0 0] 44)) := ((Below.refl _ _).alloc (Nat.le_refl _) _).alloc (by simp) _
  have hx : ((w.alloc (Obj.cells #[.int .i64 D, .slice none 0 0] 44)).alloc (Obj.cells #[.int .i64 0, .slice none 0 0] 44)).heap.size = w.heap.size + 2 ∧
      ((w.alloc (Obj.cells #[.int .i64 D, .slice none 0 0] 44)).alloc (Obj.cells #[.int .i64 0, .slice none 0 0] 44)).heap[w.heap.size]? = some (Obj.cells #[.int .i64 D, .slice none 0 0] 44) ∧
      ((w.alloc (Obj.cells #[.int .i64 D, .slice none 0 0] 44)).alloc (Obj.cells #[.int .i64 0, .slice none 0 0] 44)).heap[w.heap.size + 1]? = some (Obj.cells #[.int .i64 0, .slice none 0 0] 44) := by
    refine ⟨by simp, ?_, ?_⟩
    · rw [Below.heap_alloc _ _ _ (by simp)]; exact heap_alloc_new w _
    · have := heap_alloc_new (w.alloc (Obj.cells #[.int .i64 D, .slice none 0 0] 44)) (Obj.cells #[.int .i64 0, .slice none 0 0] 44); simpa using this
  obtain ⟨W0, e0⟩ : ∃ W0, W0 = (w.alloc (Obj.cells #[.int .i64 D, .slice none 0 0] 44)).alloc (Obj.cells #[.int .i64 0, .slice none 0 0] 44) := ⟨_, rfl⟩
  rw [← e0] at hb0 hx
  obtain ⟨hs, x0, x1⟩ := hx
  have d00 : W0.cell? ⟨w.heap.size, 0, none⟩ = some (.int .i64 D) := by rw [cell_of_row _ _ 0 _ 44 (0, 0) x0]; rfl
  have d01 : W0.cell? ⟨w.heap.size, 1, none⟩ = some (.slice none 0 0) := by rw [cell_of_row _ _ 1 _ 44 (0, 0) x0]; rfl
  obtain ⟨Z, eZ⟩ : ∃ Z, Lab.put D [] c l = Z := ⟨_, rfl⟩
  have C1 := Lib.hid (find_any (.slice none 0 0) [] D c W0 List.Pairwise.nil (.inl ⟨rfl, rfl⟩))
  have HX := Lib.hid (And.intro hs (And.intro x0 x1))
  have HB := Lib.hid hb0
  have EZ := Lib.hid eZ
  rw [eZ]
  clear hb0 hs x0 x1 eZ
  go_enter Try.func17, Try.ntmps17
  go_upto_region 1 with fail
  rw [← e0]
  clear e0
  go_wp2_with fail
  refine C1.out.mono ?_
  rintro e w1 ⟨i, fnd, rfl, hpos, hfnd, hb1⟩
  obtain rfl : i = 0 := by have := hpos.1; simpa using this
  obtain rfl : fnd = false := by
    cases fnd with
    | false => rfl
    | true => obtain ⟨p, hp, _⟩ := hfnd.1 rfl; simp at hp
  have k0 : w1.heap[w.heap.size]? = some (Obj.cells #[.int .i64 D, .slice none 0 0] 44) := by rw [hb1.block _ (by have := HX.out.1; omega)]; exact HX.out.2.1
  have k1 : w1.heap[w.heap.size + 1]? = some (Obj.cells #[.int .i64 0, .slice none 0 0] 44) := by rw [hb1.block _ (by have := HX.out.1; omega)]; exact HX.out.2.2
  have hsz1 : w.heap.size + 2 ≤ w1.heap.size := by have := hb1.size; have := HX.out.1; omega
  have HB1 := Lib.hid (HB.out.trans (hb1.mono HB.out.size))
  have HK := Lib.hid (And.intro k0 k1)
  have e01 : w1.cell? ⟨w.heap.size, 1, none⟩ = some (.slice none 0 0) := by rw [cell_of_row _ _ 1 _ 44 (0, 0) k0]; rfl
  clear hpos hfnd hb1 k0 k1 d00 d01
  obtain ⟨wm, hmk, hownm, hgm⟩ := run_make_own (P := Try.prog) w1 w1.heap.size 42 101 i0 (.agg #[.int .u32 0, .int .i64 0]) 2 Try.underlying42 hi hz0 hz1 .i64 .i64 1 (by rw [hz2]; omega) (by unfold maxLen; omega) (Nat.le_refl _)
  have hmk' : (Instr.makeSlice 42 (.int .i64 0) (.int .i64 1)).run Try.prog w1 = .ok (.slice (some ⟨w1.heap.size, 0, none⟩) 0 1) wm := by simpa using hmk
  clear hmk
  have hbm : Below w1.heap.size w1 wm := (Below.refl _ _).grown hgm (Nat.le_refl _) (fun k hk => by cases hk)
  have HOM := Lib.hid hownm
  have HBM := Lib.hid hbm
  clear hownm hgm hbm
  have hwsz := HBM.out.size
  have hcm : ∀ wx, Below w1.heap.size wm wx → Below w.heap.size w wx ∧ wx.heap[w.heap.size]? = some (Obj.cells #[.int .i64 D, .slice none 0 0] 44) ∧ wx.heap[w.heap.size + 1]? = some (Obj.cells #[.int .i64 0, .slice none 0 0] 44) := fun wx hx => by
    have h1 := HBM.out.trans hx
    have h2 : Below w.heap.size w wx := HB1.out.trans (h1.mono HB1.out.size)
    exact ⟨h2, by rw [h1.block _ (by omega)]; exact HK.out.1, by rw [h1.block _ (by omega)]; exact HK.out.2⟩
  have HCM := Lib.hid hcm
  clear hcm
  have hS : ∀ wx, Below w1.heap.size wm wx → wx.cell? ⟨w.heap.size, 0, none⟩ = some (.int .i64 D) ∧ wx.cell? ⟨w.heap.size, 1, none⟩ = some (.slice none 0 0) ∧ wx.cell? ⟨w.heap.size + 1, 0, none⟩ = some (.int .i64 0) ∧ wx.frozen? ⟨w.heap.size + 1, 0, none⟩ = false ∧ (wx.setCell ⟨w.heap.size + 1, 0, none⟩ (.int .i64 D)).cell? ⟨w.heap.size + 1, 1, none⟩ = some (.slice none 0 0) ∧ (wx.setCell ⟨w.heap.size + 1, 0, none⟩ (.int .i64 D)).frozen? ⟨w.heap.size + 1, 1, none⟩ = false := fun wx hx => by
    obtain ⟨_, h1, h2⟩ := HCM.out wx hx
    obtain ⟨a0, _, _, _, _, a1⟩ := old2 wx _ 44 _ _ (.int .i64 0) (.int .i64 0) h1
    obtain ⟨s0, s1, s2, s3, _, _⟩ := old2 wx _ 44 _ _ (.int .i64 D) (.int .i64 0) h2
    exact ⟨a0, a1, s0, s1, s2, s3⟩
  have HS := Lib.hid hS
  obtain ⟨qa, qb, _⟩ := hS wm (Below.refl _ _)
  clear hS
  go_upto_region 6 with fail
  go_upto_region 7 with (at_builtin; refine wpList_append_own_none rfl _ _ 42 rfl w1.heap.size 101 i0 2 Try.underlying42 hi _ 0 _ rfl HOM.out rfl ?_)
  by_cases hlD : l = D
  · have tf : (l != D) = false := by rw [bne_eq_false_iff_eq]; exact hlD
    have hz := Lib.hid (show Z = [] by rw [← EZ.out, Lab.put, if_pos hlD]; rfl)
    clear hlD
    have HOd := Lib.hid (owns_below HOM.out ((Below.refl wm.heap.size wm).drew))
    have HBd := Lib.hid (Below.drew (Below.refl w1.heap.size wm))
    have HBX := Lib.hid (Below.refl w1.heap.size wm)
    have HOX := HOM
    obtain ⟨j0, hj, hy0, hy1, hy2⟩ := info_parts info47
    obtain ⟨_, _, r0, r1, r2, r3⟩ := HS.out _ HBd.out
    go_upto_region 9 with fail
    go_region_held3 (fun w' => w'.cell? ⟨w.heap.size, 0, none⟩ = some (.int .i64 D) ∧ w'.cell? ⟨w.heap.size, 1, none⟩ = some (.slice none 0 0))
      (first
        | exact cells2 (HCM.out _ HBd.out).2.1
        | exact cells2 (keep2 (HCM.out _ HBX.out).2.1 (by simp) (by simp)))
      (first
        | (refine step_append_none _ (by rfl) _ _ _ (by rfl) w1.heap.size 101 j0 2 Try.underlying42 hj _ 0 _ (by rfl) HOd.out (by rfl) _ (by rfl) ?_))
    all_goals
      have hG := drew_stored (gives_stored (R := w.heap.size + 1) (M := D) (Z := Z) (by omega) (by omega) HB1.out (by rw [hz.out]; exact HOX.out) (HBM.out.trans HBX.out))
      have hS4 := (old2 _ (w.heap.size + 1) 44 _ _ (.int .i64 D) (.slice (some ⟨w1.heap.size, 0, none⟩) 0 1) (HCM.out _ HBX.out).2.2).2.2.2.2.1
      have G := Lib.hid hG
      have S4 := Lib.hid hS4
      clear hG hS4
      go_wp2_with fail
      refine bodyPost_ret (results_cell_row (by rfl) _ _ (w.heap.size + 1) 44 #[.int .i64 D, .slice (some ⟨w1.heap.size, 0, none⟩) 0 1] (0, 0) _ (by rfl) S4.out Try.underlying44 rfl info24) rfl ⟨_, rfl, G.out⟩
  · have tf : (l != D) = true := by rw [bne_iff_ne]; exact hlD
    have hz := Lib.hid (show Z = [(c, l)] by rw [← EZ.out, Lab.put, if_neg hlD]; rfl)
    clear hlD
    go_upto_region 8 with fail
    go_wp2_with (at_builtin; refine wpList_append_own _ rfl _ _ 42 rfl w1.heap.size 101 i0 (.agg #[.int .u32 0, .int .i64 0]) 2 16 Try.underlying42 hi hz0 hz1 hz2 rfl (by decide) _ _ _ rfl (HOM.out.alloc _) ⟨wm.heap.size, 0, none⟩ 1 1 [.int .u32 (c : Int), .int .i64 l] rfl rfl (cell_two_new _ _ _ _) (by simp [Value.oneCell']) (by unfold maxLen; omega) (by omega) (by simp; omega) ?_)
    intro v2 w3 hown2 hg2 hnil2
    have HO2 := Lib.hid hown2
    have HB3 := Lib.hid (((Below.refl w1.heap.size wm).alloc hwsz _).grown hg2 (by simp; omega) (fun k hk => (HOM.out.lt k hk).1))
    obtain ⟨g2, c2, rfl⟩ := form3 hown2 (by first | exact hnil2 | (intro e; have := hnil2.1 e; cases this.1))
    clear hown2 hg2 hnil2
    have HOd := Lib.hid (owns_below HO2.out ((Below.refl w3.heap.size w3).drew))
    have HBd := Lib.hid (HB3.out.drew)
    have HBX := HB3
    have HOX := HO2
    obtain ⟨q0, q1, _⟩ := HS.out _ HB3.out
    obtain ⟨j0, hj, hy0, hy1, hy2⟩ := info_parts info47
    obtain ⟨_, _, r0, r1, r2, r3⟩ := HS.out _ HBd.out
    go_upto_region 9 with fail
    go_region_held3 (fun w' => w'.cell? ⟨w.heap.size, 0, none⟩ = some (.int .i64 D) ∧ w'.cell? ⟨w.heap.size, 1, none⟩ = some (.slice none 0 0))
      (first
        | exact cells2 (HCM.out _ HBd.out).2.1
        | exact cells2 (keep2 (HCM.out _ HBX.out).2.1 (by simp) (by simp)))
      (first
        | (refine step_append_none _ (by rfl) _ _ _ (by rfl) w1.heap.size 101 j0 2 Try.underlying42 hj _ 1 _ (by rfl) HOd.out (by rfl) _ (by rfl) ?_))
    all_goals
      have hG := drew_stored (gives_stored (R := w.heap.size + 1) (M := D) (Z := Z) (by omega) (by omega) HB1.out (by rw [hz.out]; exact HOX.out) (HBM.out.trans HBX.out))
      have hS4 := (old2 _ (w.heap.size + 1) 44 _ _ (.int .i64 D) (.slice (some ⟨g2, 0, none⟩) 1 c2) (HCM.out _ HBX.out).2.2).2.2.2.2.1
      have G := Lib.hid hG
      have S4 := Lib.hid hS4
      clear hG hS4
      go_wp2_with fail
      refine bodyPost_ret (results_cell_row (by rfl) _ _ (w.heap.size + 1) 44 #[.int .i64 D, .slice (some ⟨g2, 0, none⟩) 1 c2] (0, 0) _ (by rfl) S4.out Try.underlying44 rfl info24) rfl ⟨_, rfl, G.out⟩
/-- 'With' puts a category's level. -/
theorem pwith_any (v : Value) (ps : List (Nat × Int)) (D : Int) (c : Nat) (l : Int) (w : World) (hr : Lab.Rise ps) (hn : ps.length ≤ 8796093022207 / 2) (h : RC w.heap.size w v ps) :
    Calls Try.prog 17 #[.agg #[.int .i64 D, v], .int .u32 c, .int .i64 l] w (Gives w D (Lab.put D ps c l)) := by
  rcases h with ⟨rfl, rfl⟩ | ⟨b, off, cap, rfl, h2, h3, h4, h5⟩
  · exact pwith_none D c l w
  · exact pwith_some b off cap ps.length ps D c l w hr rfl h3 hn h2 h5
end Go.Proofs.Ytodionedjokdmaa
