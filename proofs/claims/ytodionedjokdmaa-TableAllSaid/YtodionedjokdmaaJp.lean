/- slices.Sort, Segs. -/
import Derived.Test.YtodionedjokdmaaJn
set_option linter.unusedVariables false
set_option linter.unusedSimpArgs false
namespace Go.Proofs.Ytodionedjokdmaa
open Go.RowKit
set_option linter.unusedVariables false
set_option linter.unusedSimpArgs false
theorem insert_nil (w : World) : Calls Try.prog 56 #[.slice none 0 0, .int .i64 0, .int .i64 0] w fun e w' => e = .returned (.tuple #[]) ∧ w' = w := by
  go_enter Try.func56, Try.ntmps56
  go_wp2_with fail
  go_loopg [6] 0 (fun gh v6 wr => v6 = .int .i64 1 ∧ wr = w)
  case atStart => exact ⟨by first | rfl | simp, rfl⟩
  case round =>
    obtain ⟨rfl, rfl⟩ := hrel
    go_wp2_with fail
    exact bodyPost_end (results_none rfl _ _ _) rfl ⟨rfl, rfl⟩
set_option maxRecDepth 100000 in
theorem pdq_nil (x : Int) (w : World) : Calls Try.prog 52 #[.slice none 0 0, .int .i64 0, .int .i64 0, .int .i64 x] w fun e w' => e = .returned (.tuple #[]) ∧ w' = w := by
  have C := Lib.hid insert_nil
  go_enter Try.func52, Try.ntmps52
  go_wp2_with fail
  go_loopg [1, 2, 3, 8, 9] 0 (fun gh va vb vl v8 v9 wr => va = .int .i64 0 ∧ vb = .int .i64 0 ∧ wr = w)
  case atStart => exact ⟨rfl, rfl, rfl⟩
  case round =>
    obtain ⟨rfl, rfl, rfl⟩ := hrel
    go_wp2_with fail
    refine (C.out _).mono ?_; rintro e w1 ⟨rfl, rfl⟩
    go_wp2_with fail
    exact bodyPost_ret (results_none rfl _ _ _) rfl ⟨rfl, rfl⟩
theorem sort_nil (w : World) : Calls Try.prog 46 #[.slice none 0 0] w fun e w' => e = .returned (.tuple #[]) ∧ w' = w := by
  have C := Lib.hid (blen_any 0 (by omega) w)
  have D := Lib.hid (fun x => pdq_nil x w)
  go_enter Try.func46, Try.ntmps46
  go_wp2_with fail
  refine C.out.mono ?_; rintro e w1 ⟨rfl, rfl⟩
  go_wp2_with fail
  refine (D.out _).mono ?_; rintro e w1 ⟨rfl, rfl⟩
  go_wp2_with fail
  exact bodyPost_end (results_none rfl _ _ _) rfl ⟨rfl, rfl⟩
theorem bl_fit {n : Nat} (h : n ≤ 16) : bl n ≤ 100 ∧ (n ≤ 0 + 12 ∨ n ≤ 0 + 11 + bl n) := by
  match n, h with
  | 0, _ | 1, _ | 2, _ | 3, _ | 4, _ | 5, _ | 6, _ | 7, _ | 8, _ | 9, _ | 10, _ | 11, _ | 12, _ | 13, _ | 14, _ | 15, _ | 16, _ => decide
  | k + 17, h => exact absurd h (by omega)
theorem sort_any {w : World} {g o n c : Nat} {f : Nat → Int} (h : AR w g o n f) (hn : n ≤ 16) : Calls Try.prog 46 #[.slice (some ⟨g, o, none⟩) n c] w fun e w' => e = .returned (.tuple #[]) ∧ Turn [g] w w' ∧ ∃ f', AR w' g o n f' ∧ Rl 0 n f f' ∧ Srt 0 n f' := by
  have C := Lib.hid (blen_any n hn w)
  have hb := bl_fit hn
  have D := pdq_any n w g o n c f 0 n (bl n) (by omega) h (by omega) (by omega) (Nat.le_refl _) (by omega) hb.1 hb.2 (fun z k h1 h2 h3 => by omega)
  have e1 : IntKind.u64.wrap (n : Int) = (n : Int) := by rw [IntKind.wrap_u64]; omega
  obtain ⟨q, eq⟩ : ∃ q, bl n = q := ⟨_, rfl⟩
  rw [eq] at C D
  have D := Lib.hid (show Calls Try.prog 52 #[.slice (some ⟨g, o, none⟩) n c, .int .i64 0, .int .i64 n, .int .i64 q] w (fun e w' => e = .returned (.tuple #[]) ∧ Turn [g] w w' ∧ ∃ f', AR w' g o n f' ∧ Rl 0 n f f' ∧ Srt 0 n f') from D)
  clear h hn hb eq
  go_enter Try.func46, Try.ntmps46
  go_wp2_with fail
  refine C.out.mono ?_; rintro e w1 ⟨rfl, rfl⟩
  clear e1
  go_wp2_with fail
  refine D.out.mono ?_; rintro e w2 ⟨rfl, ht, hf⟩
  have HF := Lib.hid (And.intro ht hf)
  clear ht hf
  go_wp2_with fail
  exact bodyPost_end (results_none rfl _ _ _) rfl ⟨rfl, HF.out⟩
end Go.Proofs.Ytodionedjokdmaa
