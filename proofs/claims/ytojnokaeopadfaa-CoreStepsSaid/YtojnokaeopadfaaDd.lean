import Derived.Test.YtojnokaeopadfaaAe
namespace Go.Proofs.Ytojnokaeopadfaa
open Go.RowKit
set_option linter.unusedVariables false
set_option linter.unusedSimpArgs false

theorem rsqrt_zero (x M : Nat) (E : Int) (s : Bool) (w : World) (H1 : Hid (OfC x 102 s M E)) (z1 : ((M : Int) == 0) = true) :
    Calls Try.prog 49 #[.int .u64 x] w fun e w' => e = .returned (.int .u64 x) ∧ Grown w w' := by
  have hc2 : ((102 : Nat) : Int) = 102 := rfl
  go_enter Try.func49, Try.ntmps49
  go_wp2_with fail
  refine (H1.out _).mono ?_; rintro e w1 ⟨rfl, g1⟩
  have G := Lib.hid g1
  clear H1 g1
  go_wp2_with fail
  go_ret
  exact ⟨rfl, G.out.alloc _ _⟩
theorem rsqrt_minus (x M : Nat) (E : Int) (w : World) (H1 : Hid (OfC x 102 true M E)) (z1 : ((M : Int) == 0) = false) :
    Calls Try.prog 49 #[.int .u64 x] w fun e w' => e = .returned (.int .u64 9221120237041090560) ∧ Grown w w' := by
  have hc2 : ((102 : Nat) : Int) = 102 := rfl
  go_enter Try.func49, Try.ntmps49
  go_wp2_with fail
  refine (H1.out _).mono ?_; rintro e w1 ⟨rfl, g1⟩
  have G := Lib.hid g1
  clear H1 g1
  go_wp2_with fail
  go_ret
  exact ⟨rfl, G.out.alloc _ _⟩
theorem rsqrt_minf (x M : Nat) (E : Int) (w : World) (H1 : Hid (OfC x 105 true M E)) :
    Calls Try.prog 49 #[.int .u64 x] w fun e w' => e = .returned (.int .u64 9221120237041090560) ∧ Grown w w' := by
  have hc2 : ((105 : Nat) : Int) = 105 := rfl
  go_enter Try.func49, Try.ntmps49
  go_wp2_with fail
  refine (H1.out _).mono ?_; rintro e w1 ⟨rfl, g1⟩
  have G := Lib.hid g1
  clear H1 g1
  go_wp2_with fail
  go_ret
  exact ⟨rfl, G.out.alloc _ _⟩
theorem rsqrt_inf (x M : Nat) (E : Int) (w : World) (H1 : Hid (OfC x 105 false M E)) :
    Calls Try.prog 49 #[.int .u64 x] w fun e w' => e = .returned (.int .u64 x) ∧ Grown w w' := by
  have hc2 : ((105 : Nat) : Int) = 105 := rfl
  go_enter Try.func49, Try.ntmps49
  go_wp2_with fail
  refine (H1.out _).mono ?_; rintro e w1 ⟨rfl, g1⟩
  have G := Lib.hid g1
  clear H1 g1
  go_wp2_with fail
  go_ret
  exact ⟨rfl, G.out.alloc _ _⟩
theorem rsqrt_nan (x M : Nat) (E : Int) (s : Bool) (w : World) (H1 : Hid (OfC x 110 s M E)) :
    Calls Try.prog 49 #[.int .u64 x] w fun e w' => e = .returned (.int .u64 9221120237041090560) ∧ Grown w w' := by
  have hc2 : ((110 : Nat) : Int) = 110 := rfl
  go_enter Try.func49, Try.ntmps49
  go_wp2_with fail
  refine (H1.out _).mono ?_; rintro e w1 ⟨rfl, g1⟩
  have G := Lib.hid g1
  clear H1 g1
  go_wp2_with fail
  go_ret
  exact ⟨rfl, G.out.alloc _ _⟩
end Go.Proofs.Ytojnokaeopadfaa
