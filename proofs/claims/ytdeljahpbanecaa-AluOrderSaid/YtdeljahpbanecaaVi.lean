/- Order, of any two. Written by genV.py. -/
import Derived.Test.YtdeljahpbanecaaVf
namespace Go.Proofs.Ytdeljahpbanecaa
open Go.RowKit
set_option linter.unusedVariables false
set_option linter.unusedSimpArgs false
theorem order_all (a b : Nat) (w : World) (ha : a < 18446744073709551616) (hb : b < 18446744073709551616) : Calls Try.prog 8 #[.int .u64 a, .int .u64 b] w fun e w' => e = .returned (.bool true) ∧ Grown w w' := by
  refine order_walk a b _ _ _ _ _ _ _ _ _ _ w ha hb rfl rfl rfl rfl rfl rfl rfl rfl rfl rfl ?_
  rw [rk_15', rk_15', rk_16', rk_16', rk_17', show Alu.takes 27 a b = decide (Alu.sg a < Alu.sg b) from rfl, show Alu.takes 28 a b = decide (a < b) from rfl, show Alu.takes 25 a b = decide (a = b) from rfl, show Alu.takes 26 a b = !decide (a = b) from rfl]
  have key : (Alu.sg a = Alu.sg b ∧ a = b ∧ (a : Int) / 9223372036854775808 = (b : Int) / 9223372036854775808) ∨ (Alu.sg a < Alu.sg b ∧ a < b ∧ (a : Int) / 9223372036854775808 = (b : Int) / 9223372036854775808)
      ∨ (Alu.sg b < Alu.sg a ∧ b < a ∧ (a : Int) / 9223372036854775808 = (b : Int) / 9223372036854775808) ∨ (Alu.sg a < Alu.sg b ∧ b < a ∧ ¬ (a : Int) / 9223372036854775808 = (b : Int) / 9223372036854775808)
      ∨ (Alu.sg b < Alu.sg a ∧ a < b ∧ ¬ (a : Int) / 9223372036854775808 = (b : Int) / 9223372036854775808) := by
    unfold Alu.sg; split <;> split <;> omega
  generalize (a : Int) / 9223372036854775808 = u at key ⊢
  generalize (b : Int) / 9223372036854775808 = v at key ⊢
  rcases key with ⟨x, y, z⟩ | ⟨x, y, z⟩ | ⟨x, y, z⟩ | ⟨x, y, z⟩ | ⟨x, y, z⟩
  · left; subst y; simp [z]
  · right; left
    have n1 : ¬ Alu.sg b < Alu.sg a := by omega
    have n2 : ¬ b < a := by omega
    have n3 : ¬ a = b := by omega
    simp [x, y, z, n1, n2, n3]
  · right; right; left
    have n1 : ¬ Alu.sg a < Alu.sg b := by omega
    have n2 : ¬ a < b := by omega
    have n3 : ¬ a = b := by omega
    simp [x, y, z, n1, n2, n3]
  · right; right; right; left
    have n1 : ¬ Alu.sg b < Alu.sg a := by omega
    have n2 : ¬ a < b := by omega
    have n3 : ¬ a = b := by omega
    simp [x, y, z, n1, n2, n3]
  · right; right; right; right
    have n1 : ¬ Alu.sg a < Alu.sg b := by omega
    have n2 : ¬ b < a := by omega
    have n3 : ¬ a = b := by omega
    simp [x, y, z, n1, n2, n3]
end Go.Proofs.Ytdeljahpbanecaa
