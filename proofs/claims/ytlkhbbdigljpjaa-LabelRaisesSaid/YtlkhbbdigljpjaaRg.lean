import Derived.Test.YtlkhbbdigljpjaaRf
namespace Go.Proofs.Ytlkhbbdigljpjaa
open Go.RowKit
set_option linter.unusedVariables false
set_option linter.unusedSimpArgs false

theorem one_any (j : Bool) (x y : Int) (w : World) :
    Calls Try.prog 41 #[.int .i64 x, .int .i64 y, .int .u8 (if j then 106 else 109)] w fun e w' => e = .returned (.int .i64 (Lab.one j x y)) ∧ w = w' := by
  by_cases h : y < x
  · cases j
    · have hv : Lab.one false x y = y := by simp [Lab.one, h]
      have HV := Lib.hid hv
      clear hv
      go_enter Try.func41, Try.ntmps41
      go_wp2
      go_ret
      exact ⟨by rw [HV.out]; rfl, rfl⟩
    · have hv : Lab.one true x y = x := by simp [Lab.one, h]
      have HV := Lib.hid hv
      clear hv
      go_enter Try.func41, Try.ntmps41
      go_wp2
      go_ret
      exact ⟨by rw [HV.out]; rfl, rfl⟩
  · cases j
    · have hv : Lab.one false x y = x := by simp [Lab.one, h]
      have HV := Lib.hid hv
      clear hv
      go_enter Try.func41, Try.ntmps41
      go_wp2
      go_ret
      exact ⟨by rw [HV.out]; rfl, rfl⟩
    · have hv : Lab.one true x y = y := by simp [Lab.one, h]
      have HV := Lib.hid hv
      clear hv
      go_enter Try.func41, Try.ntmps41
      go_wp2
      go_ret
      exact ⟨by rw [HV.out]; rfl, rfl⟩
end Go.Proofs.Ytlkhbbdigljpjaa
