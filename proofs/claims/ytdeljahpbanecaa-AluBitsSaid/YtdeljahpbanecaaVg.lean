/- The examples. Written by genV.py. -/
import Derived.Test.YtdeljahpbanecaaUa
namespace Go.Proofs.Ytdeljahpbanecaa
open Go.RowKit
set_option linter.unusedVariables false
set_option linter.unusedSimpArgs false
theorem fit_any (w : World) : Calls Try.prog 9 #[] w fun e w' => e = .returned (.bool true) ∧ Grown w w' := by
  have A := Lib.hid (fun w => reckon_any 7 7 0 w (by omega) (by omega))
  have B := Lib.hid (fun w => place_any 64 (-4) 4 w (by omega) (by omega) (by omega) (by omega))
  simp only [Two, show Alu.rk 7 7 0 = (0, false) from by simp [Alu.rk], show Alu.place 64 (-4) 4 = (60, true) from by simp [Alu.place]] at A B
  go_enter Try.func9, Try.ntmps9
  go_wp2_with fail
  refine (A.out _).mono ?_; rintro e w1 ⟨rfl, g1⟩
  go_wp2_with fail
  refine (B.out _).mono ?_; rintro e w2 ⟨rfl, g2⟩
  go_wp2_with fail
  go_ret
  exact ⟨rfl, grown_trans g1 g2⟩
end Go.Proofs.Ytdeljahpbanecaa
-- with Vh
namespace Go.Proofs.Ytdeljahpbanecaa
open Go.RowKit
set_option linter.unusedVariables false
set_option linter.unusedSimpArgs false
theorem rk_4' (a b : Nat) : (Alu.rk 4 a b).1 = (a + b) % 18446744073709551616 := rfl
theorem rk_5' (a b : Nat) : (Alu.rk 5 a b).1 = (a + (18446744073709551616 - b)) % 18446744073709551616 := rfl
theorem rk_6' (a b : Nat) : (Alu.rk 6 a b).1 = a * b % 18446744073709551616 := rfl
theorem rk_9' (a b : Nat) : (Alu.rk 9 a b).1 = a &&& b := rfl
theorem rk_10' (a b : Nat) : (Alu.rk 10 a b).1 = a ||| b := rfl
theorem rk_11' (a b : Nat) : (Alu.rk 11 a b).1 = a ^^^ b := rfl
theorem rk_12' (a b : Nat) : (Alu.rk 12 a b).1 = Alu.shl a (b % 64) := rfl
theorem rk_13' (a b : Nat) : (Alu.rk 13 a b).1 = Alu.shr a (b % 64) := rfl
theorem rk_14' (a b : Nat) : (Alu.rk 14 a b).1 = Alu.sar a (b % 64) := rfl
theorem rk_15' (a b : Nat) : (Alu.rk 15 a b).1 = if Alu.sg a < Alu.sg b then 1 else 0 := rfl
theorem rk_16' (a b : Nat) : (Alu.rk 16 a b).1 = if a < b then 1 else 0 := rfl
theorem rk_17' (a b : Nat) : (Alu.rk 17 a b).1 = if a = b then 1 else 0 := rfl
end Go.Proofs.Ytdeljahpbanecaa
