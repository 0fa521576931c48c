/- Maps held against one another; a list copied. -/
import Derived.Test.YtbjegfkjibfadaaMf
import Derived.Laws.StructEq
set_option linter.unusedVariables false
set_option linter.unusedSimpArgs false
namespace Go.Proofs.Ytbjegfkjibfadaa
open Go.RowKit
set_option linter.unusedVariables false
set_option linter.unusedSimpArgs false
theorem guard_map : Try.prog.eqGuardType Try.prog.depth 26 = false := by kernel_rfl
/-- Are they one? -/
def eqM (m p : Mp) : Bool := decide (m = p)
set_option maxHeartbeats 1000000 in
theorem equal_map (m p : Mp) (w : World) :
    (Op.equalIn 10000 26 (.agg #[.int .i64 m.a, .int .u64 m.s, .int .i64 m.f, .int .i64 m.n, .bool m.w]) (.agg #[.int .i64 p.a, .int .u64 p.s, .int .i64 p.f, .int .i64 p.n, .bool p.w])).run Try.prog w = .ok (eqM m p) w := by
  have ui := Try.underlying3
  have uu := Try.underlying24
  have ub := Try.underlying4
  have a3 := Try.isAgg3
  have z3 := Try.sizeOf3
  have a4 := Try.isAgg24
  have z4 := Try.sizeOf24
  have a5 := Try.isAgg4
  have z5 := Try.sizeOf4
  have hS : Try.prog.underlying 26 = some (.struct (Try.prog.fieldsOf 26)) := by kernel_rfl
  have hp : Try.prog.stoodInHeld 26 = false := by kernel_rfl
  obtain ⟨a, s, f, n, b⟩ := m
  obtain ⟨a', s', f', n', b'⟩ := p
  unfold eqM
  simp only []
  rw [show (10000 : Nat) = 9999 + 1 from rfl, run_equalIn_agg w 9999 _ _ _ hS hp]
  simp only [Program.fieldsOf, Try.underlying26]
  go_simp
  by_cases h1 : a = a' <;> by_cases h2 : s = s' <;> by_cases h3 : f = f' <;> by_cases h4 : n = n' <;> by_cases h5 : b = b' <;> simp [h1, h2, h3, h4, h5]
theorem eqM_true {m p : Mp} : eqM m p = true ↔ m = p := by unfold eqM; simp
theorem eqM_self (m : Mp) : eqM m m = true := eqM_true.2 rfl
end Go.Proofs.Ytbjegfkjibfadaa
