import Derived.Test.YtlkhbbdigljpjaaUe
namespace Go.Proofs.Ytlkhbbdigljpjaa
open Go.RowKit
set_option linter.unusedVariables false
set_option linter.unusedSimpArgs false
/-- The category that a law makes of a number. -/
theorem cat_of (x : Int) : ∃ c : Nat, 1 ≤ c ∧ c ≤ 32 ∧ wrap64 (bits .and .i64 x 31 + 1) % 4294967296 = (c : Int) := by
  have h := and31 x
  refine ⟨(bits .and .i64 x 31 + 1).toNat, by omega, by omega, ?_⟩
  have : wrap64 (bits .and .i64 x 31 + 1) = bits .and .i64 x 31 + 1 := by unfold wrap64; omega
  rw [this]; omega
end Go.Proofs.Ytlkhbbdigljpjaa
