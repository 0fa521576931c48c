/- Reckons. Written by genV.py. -/
import Derived.Test.YtdeljahpbanecaaVg
namespace Go.Proofs.Ytdeljahpbanecaa
open Go.RowKit
set_option linter.unusedVariables false
set_option linter.unusedSimpArgs false
theorem reckons_all (op : Int) (a b : Nat) (w : World) (ha : a < 18446744073709551616) (hb : b < 18446744073709551616) : Calls Try.prog 3 #[.int .i64 op, .int .u64 a, .int .u64 b] w fun e w' => e = .returned (.bool true) ∧ Grown w w' := by
  have A := Lib.hid (And.intro (fun op w => reckon_any op a b w ha hb) (fun op w => reck_any op a b w ha hb))
  have B := Lib.hid fit_any
  go_enter Try.func3, Try.ntmps3
  go_wp2_with fail
  refine (B.out _).mono ?_; rintro e w1 ⟨rfl, g1⟩
  go_wp2_with fail
  refine (A.out.1 _ _).mono ?_; rintro e w2 ⟨rfl, g2⟩
  go_wp2_with fail
  refine (A.out.2 _ _).mono ?_; rintro e w3 ⟨rfl, g3⟩
  go_wp2_with fail
  refine (A.out.1 _ _).mono ?_; rintro e w4 ⟨rfl, g4⟩
  go_wp2_with fail
  refine (A.out.2 _ _).mono ?_; rintro e w5 ⟨rfl, g5⟩
  go_wp2_with fail
  go_ret
  exact ⟨rfl, grown_trans g1 (grown_trans (grown_trans g2 g3) (grown_trans g4 g5))⟩
end Go.Proofs.Ytdeljahpbanecaa
