/- slices.Sort of at most 127 numbers. -/
import Derived.Test.YtodionedjokdmaaGn
import Derived.Test.YtodionedjokdmaaIf
set_option linter.unusedVariables false
set_option linter.unusedSimpArgs false
namespace Go.Proofs.Ytodionedjokdmaa
open Go.RowKit
set_option linter.unusedVariables false
set_option linter.unusedSimpArgs false
theorem bq_le (n : Nat) : bq n ≤ 100 := by
  unfold bq
  repeat' split
  all_goals omega
theorem sort127 : SortC 127 := fun w g o n c f h hn => by
  have C := Lib.hid (lenq_any n hn w)
  have hb := bq_le n
  have D := pdq2_any n w g o n c f 0 n (bq n) (by omega) h (by omega) (by omega) (Nat.le_refl _) (by omega) hb (fun z k h1 h2 h3 => by omega)
  have e1 : IntKind.u64.wrap (n : Int) = (n : Int) := by rw [IntKind.wrap_u64]; omega
  obtain ⟨q, eq⟩ : ∃ q, bq n = q := ⟨_, rfl⟩
  rw [eq] at C D
  have D := Lib.hid (show Calls Try.prog 52 #[.slice (some ⟨g, o, none⟩) n c, .int .i64 0, .int .i64 n, .int .i64 q] w (fun e w' => e = .returned (.tuple #[]) ∧ Turn [g] w w' ∧ ∃ f', AR w' g o n f' ∧ Rl 0 n f f' ∧ Srt 0 n f') from D)
  clear h hn hb eq
  go_enter Try.func46, Try.ntmps46
  go_wp2_with fail
  refine C.out.mono ?_; rintro e w1 ⟨rfl, rfl⟩
  clear e1
  go_wp2_with fail
  refine D.out.mono ?_; rintro e w2 ⟨rfl, ht, hf⟩
  have HF := Lib.hid (And.intro ht hf)
  clear ht hf
  go_wp2_with fail
  exact bodyPost_end (results_none rfl _ _ _) rfl ⟨rfl, HF.out⟩
end Go.Proofs.Ytodionedjokdmaa
