/- The example: fit. -/
import Derived.Test.YtliljicmkgbfpaaJr
set_option linter.unusedVariables false
set_option linter.unusedSimpArgs false
namespace Go.Proofs.Ytliljicmkgbfpaa
open Go.RowKit Pg
set_option linter.unusedVariables false
set_option linter.unusedSimpArgs false
set_option maxRecDepth 100000 in
set_option maxHeartbeats 4000000 in
theorem fit_any (w : World) : Calls Try.prog 7 #[] w fun e w' => e = .returned (.bool true) ∧ Below w.heap.size w w' := by
  have N := Lib.hid (new_st 20 w w [] (by omega) (by omega) (Below.refl _ _) (by simp))
  go_enter Try.func7, Try.ntmps7
  go_wp2_with fail
  refine N.out.mono ?_; rintro e w1 ⟨R, ds, rfl, h1, _⟩
  have A1 := Lib.hid (alloc_st 1 h1 (by omega) 1 1 ((List.replicate 20 0).set 0 1) rfl rfl)
  have D1 := Lib.hid h1.len.1
  clear h1 N
  go_wp2_with fail
  refine A1.out.mono ?_; rintro e w2 ⟨rfl, h2, _⟩
  have t2 : Tb ((List.replicate 20 0).set 0 1) (ds.set 0 Fr.zeros) 1 [(0, 0)] (fun _ _ => 1) (fun _ => none) := root_new (List.replicate 20 0) ds 1 0 (by omega) rfl rfl (by simp) rfl rfl D1.out
  have F1 := Lib.hid (fill_st h2 t2 1 9 20 8 1 true rfl 9 20 3 rfl (by omega) rfl (by omega) (by omega) rfl rfl (by omega) (by omega) (by decide))
  clear h2 t2 A1
  go_wp2_with fail
  refine F1.out.mono ?_; rintro e w3 ⟨rfl, os3, ds3, nd3, h3, t3, r3, _, c3, _⟩
  have F2 := Lib.hid (fill_st h3 t3 1 10 19 0 1 false (by rw [r3]; rfl) 10 19 0 rfl (by omega) rfl (by omega) (by omega) rfl rfl (by omega) (by omega) (by omega))
  clear h3 t3 F1
  go_wp2_with fail
  refine F2.out.mono ?_; rintro e w4 ⟨rfl, os4, ds4, nd4, h4, t4, r4, _, c4, _⟩
  have W1 := Lib.hid (walk_st h4 t4 1 9 (by rw [r4, r3]; rfl) (by omega) (by omega) (some (20, true)) rfl 20 rfl)
  have B4 := Lib.hid h4.b
  clear h4 t4 F2
  go_wp2_with fail
  refine W1.out.mono ?_; rintro e w5 ⟨rfl, h5, _, _⟩
  have B5 := Lib.hid h5.b
  clear h5
  go_wp2_with fail
  go_ret
  exact ⟨rfl, B5.out⟩
end Go.Proofs.Ytliljicmkgbfpaa
