/- The example of layer 6. -/
import Derived.Test.YtnhfjipakhgjcaaGc
namespace Go.Proofs.Ytnhfjipakhgjcaa
open Go.RowKit
set_option linter.unusedVariables false
set_option linter.unusedSimpArgs false
theorem rep2 : List.replicate 2 0 = [0, 0] := rfl
theorem fit_any (w : World) : Calls Try.prog 8 #[] w fun e w' => e = .returned (.bool true) ∧ Below w.heap.size w w' := by
  have N := Lib.hid (new_st 2 w w [] (by omega) (by omega) (Below.refl _ _) (by simp))
  rw [rep2] at N
  go_enter Try.func8, Try.ntmps8
  go_wp2_with fail
  refine N.out.mono ?_; rintro e w1 ⟨R, ds, rfl, h1, _⟩
  have A1 := Lib.hid (alloc_st 7 h1 (by omega) 1 1 [7, 0] rfl rfl)
  clear h1 N
  go_wp2_with fail
  refine A1.out.mono ?_; rintro e w2 ⟨rfl, h1, _⟩
  have A2 := Lib.hid (alloc_st 7 h1 (by omega) 2 2 [7, 7] rfl rfl)
  clear h1 A1
  go_wp2_with fail
  refine A2.out.mono ?_; rintro e w3 ⟨rfl, h1, _⟩
  have A3 := Lib.hid (alloc_st 7 h1 (by omega) 0 0 [7, 7] rfl rfl)
  clear h1 A2
  go_wp2_with fail
  refine A3.out.mono ?_; rintro e w4 ⟨rfl, h1, _⟩
  have A4 := Lib.hid (free_st 1 h1 (by omega) (by omega) [0, 7] rfl)
  clear h1 A3
  go_wp2_with fail
  refine A4.out.mono ?_; rintro e w5 ⟨rfl, h1, _⟩
  have A5 := Lib.hid (alloc_st 8 h1 (by omega) 1 1 [8, 7] rfl rfl)
  clear h1 A4
  go_wp2_with fail
  refine A5.out.mono ?_; rintro e w6 ⟨rfl, h1, _⟩
  have A6 := Lib.hid (left_st h1 0 rfl)
  clear h1 A5
  go_wp2_with fail
  refine A6.out.mono ?_; rintro e w7 ⟨rfl, h1, _, _⟩
  have B := Lib.hid h1.b
  clear h1 A6
  go_wp2_with fail
  go_ret
  exact ⟨rfl, B.out⟩
end Go.Proofs.Ytnhfjipakhgjcaa
