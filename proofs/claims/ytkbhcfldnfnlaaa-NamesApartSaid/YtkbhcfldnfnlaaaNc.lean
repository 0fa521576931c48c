/- NamesRight, NamesNew. -/
import Derived.Test.YtkbhcfldnfnlaaaNb
set_option linter.unusedVariables false
set_option linter.unusedSimpArgs false
namespace Go.Proofs.Ytkbhcfldnfnlaaa
open Go.RowKit
set_option linter.unusedVariables false
set_option linter.unusedSimpArgs false
theorem right_is {l n u : Int} {r : Bool} (h : rt l n u = r) (w : World) : Calls Try.prog 11 #[.agg #[.int .u64 l, .int .u64 n, .int .u64 u]] w fun e w' => e = .returned (.bool r) ∧ Below w.heap.size w w' := by
  have := right_any l n u w; rw [h] at this; exact this
theorem given_is {l n u x : Int} {r : Bool} (h : (decide (l ≤ x) && decide (x < n)) = r) (w : World) : Calls Try.prog 13 #[.agg #[.int .u64 l, .int .u64 n, .int .u64 u], .int .u64 x] w fun e w' => e = .returned (.bool r) ∧ Below w.heap.size w w' := by
  have := given_any l n u x w; rw [h] at this; exact this
set_option maxRecDepth 100000 in
set_option maxHeartbeats 1000000 in
theorem right_all (a b c x : Int) (w : World) : Calls Try.prog 4 #[.int .u64 a, .int .u64 b, .agg #[.int .u64 c, .int .u64 x]] w fun e w' => e = .returned (.bool true) ∧ Below w.heap.size w w' := by
  have b0 := below_alloc1 w (Obj.cells #[.int .u64 c, .int .u64 x] 38)
  have n0 := heap_alloc_new w (Obj.cells #[.int .u64 c, .int .u64 x] 38)
  have C0 := Lib.hid (fit_any (w.alloc (Obj.cells #[.int .u64 c, .int .u64 x] 38)))
  have H0 := Lib.hid (And.intro b0 n0)
  clear b0 n0
  by_cases h0 : 1 ≤ a
  rotate_left
  · have g0 : ¬ a ≥ 1 := h0
    have C := Lib.hid (fun W => right_is (l := a) (n := b) (u := c) (r := false) (by unfold rt; simp [h0]) W)
    go_enter Try.func4, Try.ntmps4
    go_wp2_with fail
    refine C0.out.mono ?_; rintro e w1 ⟨rfl, hb⟩
    have B1 := Lib.hid (below_up H0.out.1 hb)
    have N1 := Lib.hid ((hb.block _ (by simp)).trans H0.out.2)
    clear hb C0 H0
    have d0 : w1.cell? ⟨w.heap.size, 0, none⟩ = some (.int .u64 c) := by rw [cell_of_row _ _ 0 _ _ _ N1.out]; rfl
    have d1 : w1.cell? ⟨w.heap.size, 1, none⟩ = some (.int .u64 x) := by rw [cell_of_row _ _ 1 _ _ _ N1.out]; rfl
    go_wp2_with fail
    go_quiet (fail)
    rename_i nq
    have B2 := Lib.hid (below_up B1.out (below_dN w1 nq))
    obtain ⟨w2, e2⟩ : ∃ w2, w1.drewN nq = w2 := ⟨_, rfl⟩
    rw [e2] at B2
    rw [e2]
    clear d0 d1 B1 N1 e2
    have B3 := Lib.hid (below_up B2.out (below_alloc1 w2 (Obj.cells #[.int .u64 a, .int .u64 b, .int .u64 c] 26)))
    have N3 := Lib.hid (PV.new w2 a b c)
    clear B2
    go_wp2_with fail
    refine (C.out _).mono ?_; rintro e w4 ⟨rfl, hb⟩
    have B4 := Lib.hid (below_up B3.out hb)
    obtain ⟨c0, c1, c2, _, _, _⟩ := N3.out.below hb
    clear hb B3 N3
    go_wp2_with fail
    go_ret
    exact ⟨rfl, B4.out⟩
  have g0 : a ≥ 1 := h0
  by_cases h1 : a ≤ b
  rotate_left
  · have g1 : ¬ b ≥ a := h1
    have C := Lib.hid (fun W => right_is (l := a) (n := b) (u := c) (r := false) (by unfold rt; simp [h1]) W)
    go_enter Try.func4, Try.ntmps4
    go_wp2_with fail
    refine C0.out.mono ?_; rintro e w1 ⟨rfl, hb⟩
    have B1 := Lib.hid (below_up H0.out.1 hb)
    have N1 := Lib.hid ((hb.block _ (by simp)).trans H0.out.2)
    clear hb C0 H0
    have d0 : w1.cell? ⟨w.heap.size, 0, none⟩ = some (.int .u64 c) := by rw [cell_of_row _ _ 0 _ _ _ N1.out]; rfl
    have d1 : w1.cell? ⟨w.heap.size, 1, none⟩ = some (.int .u64 x) := by rw [cell_of_row _ _ 1 _ _ _ N1.out]; rfl
    go_wp2_with fail
    go_quiet (fail)
    rename_i nq
    have B2 := Lib.hid (below_up B1.out (below_dN w1 nq))
    obtain ⟨w2, e2⟩ : ∃ w2, w1.drewN nq = w2 := ⟨_, rfl⟩
    rw [e2] at B2
    rw [e2]
    clear d0 d1 B1 N1 e2
    have B3 := Lib.hid (below_up B2.out (below_alloc1 w2 (Obj.cells #[.int .u64 a, .int .u64 b, .int .u64 c] 26)))
    have N3 := Lib.hid (PV.new w2 a b c)
    clear B2
    go_wp2_with fail
    refine (C.out _).mono ?_; rintro e w4 ⟨rfl, hb⟩
    have B4 := Lib.hid (below_up B3.out hb)
    obtain ⟨c0, c1, c2, _, _, _⟩ := N3.out.below hb
    clear hb B3 N3
    go_wp2_with fail
    go_ret
    exact ⟨rfl, B4.out⟩
  have g1 : b ≥ a := h1
  by_cases h2 : b ≤ c
  rotate_left
  · have g2 : ¬ c ≥ b := h2
    have C := Lib.hid (fun W => right_is (l := a) (n := b) (u := c) (r := false) (by unfold rt; simp [h2]) W)
    go_enter Try.func4, Try.ntmps4
    go_wp2_with fail
    refine C0.out.mono ?_; rintro e w1 ⟨rfl, hb⟩
    have B1 := Lib.hid (below_up H0.out.1 hb)
    have N1 := Lib.hid ((hb.block _ (by simp)).trans H0.out.2)
    clear hb C0 H0
    have d0 : w1.cell? ⟨w.heap.size, 0, none⟩ = some (.int .u64 c) := by rw [cell_of_row _ _ 0 _ _ _ N1.out]; rfl
    have d1 : w1.cell? ⟨w.heap.size, 1, none⟩ = some (.int .u64 x) := by rw [cell_of_row _ _ 1 _ _ _ N1.out]; rfl
    go_wp2_with fail
    go_quiet (fail)
    rename_i nq
    have B2 := Lib.hid (below_up B1.out (below_dN w1 nq))
    obtain ⟨w2, e2⟩ : ∃ w2, w1.drewN nq = w2 := ⟨_, rfl⟩
    rw [e2] at B2
    rw [e2]
    clear d0 d1 B1 N1 e2
    have B3 := Lib.hid (below_up B2.out (below_alloc1 w2 (Obj.cells #[.int .u64 a, .int .u64 b, .int .u64 c] 26)))
    have N3 := Lib.hid (PV.new w2 a b c)
    clear B2
    go_wp2_with fail
    refine (C.out _).mono ?_; rintro e w4 ⟨rfl, hb⟩
    have B4 := Lib.hid (below_up B3.out hb)
    obtain ⟨c0, c1, c2, _, _, _⟩ := N3.out.below hb
    clear hb B3 N3
    go_wp2_with fail
    go_ret
    exact ⟨rfl, B4.out⟩
  have g2 : c ≥ b := h2
  by_cases h3 : c ≤ 4194304
  rotate_left
  · have g3 : ¬ 4194304 ≥ c := h3
    have C := Lib.hid (fun W => right_is (l := a) (n := b) (u := c) (r := false) (by unfold rt; simp [h3]) W)
    go_enter Try.func4, Try.ntmps4
    go_wp2_with fail
    refine C0.out.mono ?_; rintro e w1 ⟨rfl, hb⟩
    have B1 := Lib.hid (below_up H0.out.1 hb)
    have N1 := Lib.hid ((hb.block _ (by simp)).trans H0.out.2)
    clear hb C0 H0
    have d0 : w1.cell? ⟨w.heap.size, 0, none⟩ = some (.int .u64 c) := by rw [cell_of_row _ _ 0 _ _ _ N1.out]; rfl
    have d1 : w1.cell? ⟨w.heap.size, 1, none⟩ = some (.int .u64 x) := by rw [cell_of_row _ _ 1 _ _ _ N1.out]; rfl
    go_wp2_with fail
    go_quiet (fail)
    rename_i nq
    have B2 := Lib.hid (below_up B1.out (below_dN w1 nq))
    obtain ⟨w2, e2⟩ : ∃ w2, w1.drewN nq = w2 := ⟨_, rfl⟩
    rw [e2] at B2
    rw [e2]
    clear d0 d1 B1 N1 e2
    have B3 := Lib.hid (below_up B2.out (below_alloc1 w2 (Obj.cells #[.int .u64 a, .int .u64 b, .int .u64 c] 26)))
    have N3 := Lib.hid (PV.new w2 a b c)
    clear B2
    go_wp2_with fail
    refine (C.out _).mono ?_; rintro e w4 ⟨rfl, hb⟩
    have B4 := Lib.hid (below_up B3.out hb)
    obtain ⟨c0, c1, c2, _, _, _⟩ := N3.out.below hb
    clear hb B3 N3
    go_wp2_with fail
    go_ret
    exact ⟨rfl, B4.out⟩
  have g3 : 4194304 ≥ c := h3
  have C := Lib.hid (fun W => right_is (l := a) (n := b) (u := c) (r := true) (by unfold rt; simp [h0, h1, h2, h3]) W)
  by_cases k0 : a ≤ x
  rotate_left
  · have k1 : ¬ x ≥ a := k0
    have CG := Lib.hid (fun W => given_is (l := a) (n := b) (u := c) (x := x) (r := false) (by simp [k0]) W)
    go_enter Try.func4, Try.ntmps4
    go_wp2_with fail
    refine C0.out.mono ?_; rintro e w1 ⟨rfl, hb⟩
    have B1 := Lib.hid (below_up H0.out.1 hb)
    have N1 := Lib.hid ((hb.block _ (by simp)).trans H0.out.2)
    clear hb C0 H0
    have d0 : w1.cell? ⟨w.heap.size, 0, none⟩ = some (.int .u64 c) := by rw [cell_of_row _ _ 0 _ _ _ N1.out]; rfl
    have d1 : w1.cell? ⟨w.heap.size, 1, none⟩ = some (.int .u64 x) := by rw [cell_of_row _ _ 1 _ _ _ N1.out]; rfl
    go_wp2_with fail
    go_quiet (fail)
    rename_i nq
    have B2 := Lib.hid (below_up B1.out (below_dN w1 nq))
    obtain ⟨w2, e2⟩ : ∃ w2, w1.drewN nq = w2 := ⟨_, rfl⟩
    rw [e2] at B2
    rw [e2]
    clear d0 d1 B1 N1 e2
    have B3 := Lib.hid (below_up B2.out (below_alloc1 w2 (Obj.cells #[.int .u64 a, .int .u64 b, .int .u64 c] 26)))
    have N3 := Lib.hid (PV.new w2 a b c)
    clear B2
    go_wp2_with fail
    refine (C.out _).mono ?_; rintro e w4 ⟨rfl, hb⟩
    have B4 := Lib.hid (below_up B3.out hb)
    obtain ⟨c0, c1, c2, _, _, _⟩ := N3.out.below hb
    clear hb B3 N3
    go_wp2_with fail
    refine (CG.out _).mono ?_; rintro e w5 ⟨rfl, hb⟩
    have B5 := Lib.hid (below_up B4.out hb)
    clear hb
    go_wp2_with fail
    go_ret
    exact ⟨rfl, B5.out⟩
  have k1 : x ≥ a := k0
  by_cases k2 : x < b
  · have CG := Lib.hid (fun W => given_is (l := a) (n := b) (u := c) (x := x) (r := true) (by simp [k0, k2]) W)
    go_enter Try.func4, Try.ntmps4
    go_wp2_with fail
    refine C0.out.mono ?_; rintro e w1 ⟨rfl, hb⟩
    have B1 := Lib.hid (below_up H0.out.1 hb)
    have N1 := Lib.hid ((hb.block _ (by simp)).trans H0.out.2)
    clear hb C0 H0
    have d0 : w1.cell? ⟨w.heap.size, 0, none⟩ = some (.int .u64 c) := by rw [cell_of_row _ _ 0 _ _ _ N1.out]; rfl
    have d1 : w1.cell? ⟨w.heap.size, 1, none⟩ = some (.int .u64 x) := by rw [cell_of_row _ _ 1 _ _ _ N1.out]; rfl
    go_wp2_with fail
    go_quiet (fail)
    rename_i nq
    have B2 := Lib.hid (below_up B1.out (below_dN w1 nq))
    obtain ⟨w2, e2⟩ : ∃ w2, w1.drewN nq = w2 := ⟨_, rfl⟩
    rw [e2] at B2
    rw [e2]
    clear d0 d1 B1 N1 e2
    have B3 := Lib.hid (below_up B2.out (below_alloc1 w2 (Obj.cells #[.int .u64 a, .int .u64 b, .int .u64 c] 26)))
    have N3 := Lib.hid (PV.new w2 a b c)
    clear B2
    go_wp2_with fail
    refine (C.out _).mono ?_; rintro e w4 ⟨rfl, hb⟩
    have B4 := Lib.hid (below_up B3.out hb)
    obtain ⟨c0, c1, c2, _, _, _⟩ := N3.out.below hb
    clear hb B3 N3
    go_wp2_with fail
    refine (CG.out _).mono ?_; rintro e w5 ⟨rfl, hb⟩
    have B5 := Lib.hid (below_up B4.out hb)
    clear hb
    go_wp2_with fail
    go_ret
    exact ⟨rfl, B5.out⟩
  · have CG := Lib.hid (fun W => given_is (l := a) (n := b) (u := c) (x := x) (r := false) (by simp [k2]) W)
    go_enter Try.func4, Try.ntmps4
    go_wp2_with fail
    refine C0.out.mono ?_; rintro e w1 ⟨rfl, hb⟩
    have B1 := Lib.hid (below_up H0.out.1 hb)
    have N1 := Lib.hid ((hb.block _ (by simp)).trans H0.out.2)
    clear hb C0 H0
    have d0 : w1.cell? ⟨w.heap.size, 0, none⟩ = some (.int .u64 c) := by rw [cell_of_row _ _ 0 _ _ _ N1.out]; rfl
    have d1 : w1.cell? ⟨w.heap.size, 1, none⟩ = some (.int .u64 x) := by rw [cell_of_row _ _ 1 _ _ _ N1.out]; rfl
    go_wp2_with fail
    go_quiet (fail)
    rename_i nq
    have B2 := Lib.hid (below_up B1.out (below_dN w1 nq))
    obtain ⟨w2, e2⟩ : ∃ w2, w1.drewN nq = w2 := ⟨_, rfl⟩
    rw [e2] at B2
    rw [e2]
    clear d0 d1 B1 N1 e2
    have B3 := Lib.hid (below_up B2.out (below_alloc1 w2 (Obj.cells #[.int .u64 a, .int .u64 b, .int .u64 c] 26)))
    have N3 := Lib.hid (PV.new w2 a b c)
    clear B2
    go_wp2_with fail
    refine (C.out _).mono ?_; rintro e w4 ⟨rfl, hb⟩
    have B4 := Lib.hid (below_up B3.out hb)
    obtain ⟨c0, c1, c2, _, _, _⟩ := N3.out.below hb
    clear hb B3 N3
    go_wp2_with fail
    refine (CG.out _).mono ?_; rintro e w5 ⟨rfl, hb⟩
    have B5 := Lib.hid (below_up B4.out hb)
    clear hb
    go_wp2_with fail
    go_ret
    exact ⟨by simp [k2], B5.out⟩
set_option maxRecDepth 100000 in
set_option maxHeartbeats 1000000 in
theorem new_all (a k : Int) (w : World) (ha : 0 ≤ a ∧ a ≤ 18446744073709551615) (hk : -9223372036854775808 ≤ k ∧ k ≤ 9223372036854775807) : Calls Try.prog 5 #[.int .u64 a, .int .i64 k] w fun e w' => e = .returned (.bool true) ∧ Below w.heap.size w w' := by
  have C0 := Lib.hid (fit_any w)
  by_cases h0 : 1 ≤ a
  rotate_left
  · have g0 : ¬ a ≥ 1 := h0
    have C := Lib.hid (fun W => new_bad (l := a) (k := k) ha hk (by unfold nw; omega) W)
    clear ha hk
    go_enter Try.func5, Try.ntmps5
    go_wp2_with fail
    refine C0.out.mono ?_; rintro e w1 ⟨rfl, hb⟩
    have B1 := Lib.hid hb
    clear hb C0
    go_wp2_with fail
    refine (C.out _).mono ?_; rintro e w2 ⟨rfl, hb⟩
    have B2 := Lib.hid (below_up (below_up B1.out hb) (below_alloc1 w2 (Obj.cells #[.int .u64 0, .int .u64 0, .int .u64 0] 26)))
    have N2 := Lib.hid (PV.new w2 0 0 0)
    clear hb B1
    obtain ⟨c0, c1, c2, _, _, _⟩ := N2.out
    go_wp2_with fail
    go_ret
    exact ⟨rfl, B2.out⟩
  have g0 : a ≥ 1 := h0
  by_cases h1 : a ≤ 4194304
  rotate_left
  · have g1 : ¬ 4194304 ≥ a := h1
    have C := Lib.hid (fun W => new_bad (l := a) (k := k) ha hk (by unfold nw; omega) W)
    clear ha hk
    go_enter Try.func5, Try.ntmps5
    go_wp2_with fail
    refine C0.out.mono ?_; rintro e w1 ⟨rfl, hb⟩
    have B1 := Lib.hid hb
    clear hb C0
    go_wp2_with fail
    refine (C.out _).mono ?_; rintro e w2 ⟨rfl, hb⟩
    have B2 := Lib.hid (below_up (below_up B1.out hb) (below_alloc1 w2 (Obj.cells #[.int .u64 0, .int .u64 0, .int .u64 0] 26)))
    have N2 := Lib.hid (PV.new w2 0 0 0)
    clear hb B1
    obtain ⟨c0, c1, c2, _, _, _⟩ := N2.out
    go_wp2_with fail
    go_ret
    exact ⟨rfl, B2.out⟩
  have g1 : 4194304 ≥ a := h1
  by_cases h2 : 0 ≤ k
  rotate_left
  · have g2 : ¬ k ≥ 0 := h2
    have C := Lib.hid (fun W => new_bad (l := a) (k := k) ha hk (by unfold nw; omega) W)
    clear ha hk
    go_enter Try.func5, Try.ntmps5
    go_wp2_with fail
    refine C0.out.mono ?_; rintro e w1 ⟨rfl, hb⟩
    have B1 := Lib.hid hb
    clear hb C0
    go_wp2_with fail
    refine (C.out _).mono ?_; rintro e w2 ⟨rfl, hb⟩
    have B2 := Lib.hid (below_up (below_up B1.out hb) (below_alloc1 w2 (Obj.cells #[.int .u64 0, .int .u64 0, .int .u64 0] 26)))
    have N2 := Lib.hid (PV.new w2 0 0 0)
    clear hb B1
    obtain ⟨c0, c1, c2, _, _, _⟩ := N2.out
    go_wp2_with fail
    go_ret
    exact ⟨rfl, B2.out⟩
  have g2 : k ≥ 0 := h2
  obtain ⟨r, er⟩ : ∃ r, 4194304 - a = r := ⟨_, rfl⟩
  have m1 : min a 4194304 = a := by omega
  have e1 : IntKind.i64.wrap a = a := by rw [IntKind.wrap_i64]; omega
  have e2 : IntKind.i64.wrap (4194304 - a) = r := by rw [IntKind.wrap_i64]; omega
  by_cases h3 : k ≤ r
  rotate_left
  · have g3 : ¬ r ≥ k := h3
    have C := Lib.hid (fun W => new_bad (l := a) (k := k) ha hk (by unfold nw; omega) W)
    clear ha hk er
    go_enter Try.func5, Try.ntmps5
    go_wp2_with fail
    refine C0.out.mono ?_; rintro e w1 ⟨rfl, hb⟩
    have B1 := Lib.hid hb
    clear hb C0
    go_wp2_with fail
    refine (C.out _).mono ?_; rintro e w2 ⟨rfl, hb⟩
    have B2 := Lib.hid (below_up (below_up B1.out hb) (below_alloc1 w2 (Obj.cells #[.int .u64 0, .int .u64 0, .int .u64 0] 26)))
    have N2 := Lib.hid (PV.new w2 0 0 0)
    clear hb B1
    obtain ⟨c0, c1, c2, _, _, _⟩ := N2.out
    go_wp2_with fail
    go_ret
    exact ⟨rfl, B2.out⟩
  have g3 : r ≥ k := h3
  have hnw : nw a k := by unfold nw; omega
  have C := fun W => new_ok hnw W
  have hok : Ok a a (a + k) := by unfold nw at hnw; unfold Ok; omega
  have CL := fun W => left_ok hok W
  rw [show a + k - a = k by omega] at CL
  obtain ⟨s, es⟩ : ∃ s, a + k = s := ⟨_, rfl⟩
  rw [es] at C CL
  have e3 : IntKind.u64.wrap k = k := by unfold nw at hnw; rw [IntKind.wrap_u64]; omega
  have e4 : IntKind.u64.wrap (a + k) = s := by unfold nw at hnw; rw [IntKind.wrap_u64]; omega
  have C := Lib.hid C
  have CL := Lib.hid CL
  clear ha hk er hnw hok es
  go_enter Try.func5, Try.ntmps5
  go_wp2_with fail
  refine C0.out.mono ?_; rintro e w1 ⟨rfl, hb⟩
  have B1 := Lib.hid hb
  clear hb C0
  go_wp2_with fail
  refine (C.out _).mono ?_; rintro e w2 ⟨rfl, hb⟩
  have B2 := Lib.hid (below_up (below_up B1.out hb) (below_alloc1 w2 (Obj.cells #[.int .u64 a, .int .u64 a, .int .u64 s] 26)))
  have N2 := Lib.hid (PV.new w2 a a s)
  clear hb B1
  obtain ⟨c0, c1, c2, _, _, _⟩ := N2.out
  go_wp2_with fail
  refine (CL.out _).mono ?_; rintro e w3 ⟨rfl, hb⟩
  have B3 := Lib.hid (below_up B2.out hb)
  clear hb B2
  go_wp2_with fail
  go_ret
  exact ⟨rfl, B3.out⟩
end Go.Proofs.Ytkbhcfldnfnlaaa
