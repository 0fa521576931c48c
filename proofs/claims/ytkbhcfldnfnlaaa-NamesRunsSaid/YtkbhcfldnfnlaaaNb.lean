/- New ranges; the example: fit. -/
import Derived.Test.YtkbhcfldnfnlaaaNa
set_option linter.unusedVariables false
set_option linter.unusedSimpArgs false
namespace Go.Proofs.Ytkbhcfldnfnlaaa
open Go.RowKit
set_option linter.unusedVariables false
set_option linter.unusedSimpArgs false
variable {w w' : World} {b o c : Nat} {l n u m x y k : Int}
/-- Are there such names? -/
def nw (l k : Int) : Prop := 1 ≤ l ∧ 0 ≤ k ∧ l + k ≤ 4194304
theorem new_bad (hl : 0 ≤ l ∧ l ≤ 18446744073709551615) (hk : -9223372036854775808 ≤ k ∧ k ≤ 9223372036854775807) (hn : ¬ nw l k) (w : World) : Calls Try.prog 8 #[.int .u64 l, .int .i64 k] w fun e w' => e = .returned (.tuple #[.agg #[.int .u64 0, .int .u64 0, .int .u64 0], .bool false]) ∧ Below w.heap.size w w' := by
  have hb0 := Lib.hid (below_alloc1 w (Obj.cells #[.int .u64 0, .int .u64 0, .int .u64 0] 26))
  have hz := Lib.hid (heap_alloc_new w (Obj.cells #[.int .u64 0, .int .u64 0, .int .u64 0] 26))
  by_cases h0 : 4194304 < l
  · have h1 : l > 4194304 := h0
    clear hn hl hk
    go_enter Try.func8, Try.ntmps8
    go_wp2_with fail
    refine bodyPost_ret (results_cell3 (by rfl) _ _ w.heap.size 26 _ (0, 0) (by rfl) hz.out rfl) rfl ⟨rfl, hb0.out⟩
  have h1 : ¬ l > 4194304 := h0
  by_cases h2 : k < 0
  · clear hn hl hk
    go_enter Try.func8, Try.ntmps8
    go_wp2_with fail
    refine bodyPost_ret (results_cell3 (by rfl) _ _ w.heap.size 26 _ (0, 0) (by rfl) hz.out rfl) rfl ⟨rfl, hb0.out⟩
  have e0 : IntKind.u64.wrap k = k := by rw [IntKind.wrap_u64]; omega
  obtain ⟨s, es⟩ : ∃ s, l + k = s := ⟨_, rfl⟩
  have e1 : IntKind.u64.wrap (l + k) = s := by rw [IntKind.wrap_u64]; omega
  have C := fun W => right_any l l s W
  rw [show rt l l s = false by
    unfold rt
    unfold nw at hn
    rw [es] at hn
    by_cases h3 : 1 ≤ l
    · have : ¬ s ≤ 4194304 := fun h => hn ⟨h3, by omega, h⟩
      simp [this]
    · simp [h3]] at C
  have C := Lib.hid C
  clear hn hl hk es
  go_enter Try.func8, Try.ntmps8
  go_wp2_with fail
  refine (C.out _).mono ?_; rintro e w1 ⟨rfl, hb⟩
  have b2 := below_alloc1 (w.alloc (Obj.cells #[.int .u64 0, .int .u64 0, .int .u64 0] 26)) (Obj.cells #[.int .u64 l, .int .u64 l, .int .u64 s] 26)
  have HB := Lib.hid (below_up (below_up hb0.out b2) hb)
  have N1 := PV.new (w.alloc (Obj.cells #[.int .u64 0, .int .u64 0, .int .u64 0] 26)) l l s
  simp only [World.size_alloc] at N1
  obtain ⟨c0, c1, c2, _, _, _⟩ := N1.below hb
  have HZ : Hid (w1.heap[w.heap.size]? = some (Obj.cells #[.int .u64 0, .int .u64 0, .int .u64 0] 26)) := Lib.hid ((hb.block _ (by simp only [World.size_alloc]; omega)).trans ((b2.block _ (by simp)).trans hz.out))
  clear hb C b2 N1
  have z0 : w1.cell? ⟨w.heap.size, 0, none⟩ = some (.int .u64 0) := by rw [cell_of_row _ _ 0 _ _ _ HZ.out]; rfl
  have z1 : w1.cell? ⟨w.heap.size, 1, none⟩ = some (.int .u64 0) := by rw [cell_of_row _ _ 1 _ _ _ HZ.out]; rfl
  have z2 : w1.cell? ⟨w.heap.size, 2, none⟩ = some (.int .u64 0) := by rw [cell_of_row _ _ 2 _ _ _ HZ.out]; rfl
  have g0 := frozen_of_row _ _ 0 _ _ HZ.out
  have g1 := frozen_of_row _ _ 1 _ _ HZ.out
  have g2 := frozen_of_row _ _ 2 _ _ HZ.out
  go_wp2_with fail
  refine bodyPost_ret (results_cell3 (by rfl) _ _ w.heap.size 26 _ (0, 0) (by rfl) (set3_heap HZ.out (.int .u64 0) (.int .u64 0) (.int .u64 0)) rfl) rfl ⟨rfl, set3_below HB.out (Nat.le_refl _) _ _ _⟩
theorem new_ok (hn : nw l k) (w : World) : Calls Try.prog 8 #[.int .u64 l, .int .i64 k] w fun e w' => e = .returned (.tuple #[.agg #[.int .u64 l, .int .u64 l, .int .u64 (l + k)], .bool true]) ∧ Below w.heap.size w w' := by
  have hb0 := Lib.hid (below_alloc1 w (Obj.cells #[.int .u64 0, .int .u64 0, .int .u64 0] 26))
  have hz := Lib.hid (heap_alloc_new w (Obj.cells #[.int .u64 0, .int .u64 0, .int .u64 0] 26))
  obtain ⟨s, es⟩ : ∃ s, l + k = s := ⟨_, rfl⟩
  have hk : Ok l l s := by unfold nw at hn; unfold Ok; omega
  have h0 : ¬ l > 4194304 := by unfold nw at hn; omega
  have h1 : ¬ 4194304 < l := h0
  have h2 : ¬ k < 0 := by unfold nw at hn; omega
  have e0 : IntKind.u64.wrap k = k := by unfold nw at hn; rw [IntKind.wrap_u64]; omega
  have e1 : IntKind.u64.wrap (l + k) = s := by unfold nw at hn; rw [IntKind.wrap_u64]; omega
  have C := Lib.hid (fun W => right_ok hk W)
  rw [es]
  clear hn es hk
  go_enter Try.func8, Try.ntmps8
  go_wp2_with fail
  refine (C.out _).mono ?_; rintro e w1 ⟨rfl, hb⟩
  have b2 := below_alloc1 (w.alloc (Obj.cells #[.int .u64 0, .int .u64 0, .int .u64 0] 26)) (Obj.cells #[.int .u64 l, .int .u64 l, .int .u64 s] 26)
  have HB := Lib.hid (below_up (below_up hb0.out b2) hb)
  have N1 := PV.new (w.alloc (Obj.cells #[.int .u64 0, .int .u64 0, .int .u64 0] 26)) l l s
  simp only [World.size_alloc] at N1
  obtain ⟨c0, c1, c2, _, _, _⟩ := N1.below hb
  have HZ : Hid (w1.heap[w.heap.size]? = some (Obj.cells #[.int .u64 0, .int .u64 0, .int .u64 0] 26)) := Lib.hid ((hb.block _ (by simp only [World.size_alloc]; omega)).trans ((b2.block _ (by simp)).trans hz.out))
  clear hb C b2 N1
  have z0 : w1.cell? ⟨w.heap.size, 0, none⟩ = some (.int .u64 0) := by rw [cell_of_row _ _ 0 _ _ _ HZ.out]; rfl
  have z1 : w1.cell? ⟨w.heap.size, 1, none⟩ = some (.int .u64 0) := by rw [cell_of_row _ _ 1 _ _ _ HZ.out]; rfl
  have z2 : w1.cell? ⟨w.heap.size, 2, none⟩ = some (.int .u64 0) := by rw [cell_of_row _ _ 2 _ _ _ HZ.out]; rfl
  have g0 := frozen_of_row _ _ 0 _ _ HZ.out
  have g1 := frozen_of_row _ _ 1 _ _ HZ.out
  have g2 := frozen_of_row _ _ 2 _ _ HZ.out
  go_wp2_with fail
  refine bodyPost_ret (results_cell3 (by rfl) _ _ w.heap.size 26 _ (0, 0) (by rfl) (set3_heap HZ.out (.int .u64 l) (.int .u64 l) (.int .u64 s)) rfl) rfl ⟨rfl, set3_below HB.out (Nat.le_refl _) _ _ _⟩
set_option maxRecDepth 100000 in
set_option maxHeartbeats 1000000 in
theorem fit_any (w : World) : Calls Try.prog 7 #[] w fun e w' => e = .returned (.bool true) ∧ Below w.heap.size w w' := by
  go_enter Try.func7, Try.ntmps7
  go_wp2_with fail
  refine (new_ok (l := 2) (k := 10) (by unfold nw; omega) w).mono ?_; rintro e w1 ⟨rfl, hb⟩
  have H0 := Lib.hid (PV.new w1 2 2 12)
  have B0 := Lib.hid (below_up hb (below_alloc1 w1 (Obj.cells #[.int .u64 2, .int .u64 2, .int .u64 12] 26)))
  have HS := Lib.hid hb.size
  clear hb
  go_wp2_with fail
  refine (take_ok (show Ok 2 2 12 by unfold Ok; omega) (by omega) H0.out).mono ?_; rintro e w2 ⟨rfl, hb⟩
  have H1 := Lib.hid (H0.out.put1 (o := 0) hb)
  have B1 := Lib.hid (below_put B0.out HS.out hb)
  clear hb H0 B0
  go_wp2_with fail
  refine (split_ok (k := 3) (show Ok 2 3 12 by unfold Ok; omega) (by omega) H1.out).mono ?_; rintro e w3 ⟨rfl, hb⟩
  have H2 := Lib.hid (H1.out.put2 (o := 0) hb)
  have B2 := Lib.hid (below_put B1.out HS.out hb)
  clear hb H1 B1
  have H3 := Lib.hid (H2.out.below (below_alloc1 w3 (Obj.cells #[.int .u64 9, .int .u64 9, .int .u64 12] 26)))
  have N3 := Lib.hid (PV.new w3 9 9 12)
  have B3 := Lib.hid (below_up B2.out (below_alloc1 w3 (Obj.cells #[.int .u64 9, .int .u64 9, .int .u64 12] 26)))
  have HN := Lib.hid H2.out.lt
  clear H2
  go_wp2_with fail
  refine (take_ok (show Ok 9 9 12 by unfold Ok; omega) (by omega) N3.out).mono ?_; rintro e w4 ⟨rfl, hb⟩
  have B4 := Lib.hid (below_put B3.out B2.out.size hb)
  have H4 := Lib.hid (H3.out.other (o := 0) hb (fun e => by have := HN.out; omega))
  obtain ⟨c0, c1, c2, _, _, _⟩ := H4.out
  clear hb B3 H3 N3
  go_wp2_with fail
  refine (left_ok (show Ok 2 3 9 by unfold Ok; omega) _).mono ?_; rintro e w5 ⟨rfl, hb⟩
  have B5 := Lib.hid (below_up B4.out hb)
  clear hb
  go_wp2_with fail
  go_ret
  exact ⟨rfl, B5.out⟩
end Go.Proofs.Ytkbhcfldnfnlaaa
