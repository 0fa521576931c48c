/- BytesRuns: one call, whichever. -/
import Derived.Test.YtkpdgjmeeeddhaaCb
import Derived.Test.YtkpdgjmeeeddhaaCc
import Derived.Test.YtkpdgjmeeeddhaaCd
import Derived.Test.YtkpdgjmeeeddhaaCe
import Derived.Test.YtkpdgjmeeeddhaaCf
import Derived.Test.YtkpdgjmeeeddhaaCy
import Derived.Test.YtkpdgjmeeeddhaaCz
import Derived.Test.YtkpdgjmeeeddhaaDb
set_option linter.unusedVariables false
set_option linter.unusedSimpArgs false
namespace Go.Proofs.Ytkpdgjmeeeddhaa
open Go.RowKit
set_option linter.unusedVariables false
set_option linter.unusedSimpArgs false
theorem kind7 (a : Int) : ∃ (t u : Int) (kd : Nat), a.tmod 7 = t ∧ RowKit.wrap64 (t + 7) = u ∧ u.tmod 7 = (kd : Int) ∧ kd < 7 ∧ (kd = 5 → t ≠ 6 ∧ t ≠ -1) ∧ (kd = 6 → t = 6 ∨ t = -1) := by
  have h2 := Int.tmod_lt_of_pos a (show (0 : Int) < 7 by omega)
  have h3 := Int.lt_tmod_of_pos a (show (0 : Int) < 7 by omega)
  obtain ⟨t, et⟩ : ∃ t, a.tmod 7 = t := ⟨_, rfl⟩
  rw [et] at h2 h3
  have e : RowKit.wrap64 (t + 7) = t + 7 := by unfold RowKit.wrap64; omega
  have e2 : (t + 7).tmod 7 = (((t + 7).toNat % 7 : Nat) : Int) := by
    rw [Int.tmod_eq_emod_of_nonneg (by omega), Int.natCast_emod, Int.toNat_of_nonneg (by omega)]; rfl
  refine ⟨t, t + 7, (t + 7).toNat % 7, et, e, e2, Nat.mod_lt _ (by omega), ?_, ?_⟩
  · intro h; omega
  · intro h; omega
variable {W w : World} {R B M : Nat}
theorem play_any (y : Cl) (hy : y.ok W) (h300 : y.l ≤ 300) (h : PI W R B M w) :
    Calls Try.prog 10 #[.pointer (some ⟨R, 0, none⟩), .slice (some ⟨B, 0, none⟩) 2 2, .slice (some ⟨M, 0, none⟩) 2 2, .agg y.cs.toArray] w fun e w' => e = .returned (.bool true) ∧ PI W R B M w' := by
  obtain ⟨os, ds, fs, x, gs, mc, hQ, he⟩ := h
  obtain ⟨t, u, kd, e1, e2, e3, hk, h5, h6⟩ := kind7 y.k
  match kd, hk with
  | 0, _ => exact play_0 y hy h300 hQ he t u e1 e2 e3
  | 1, _ => exact play_1 y hy h300 hQ he t u e1 e2 e3
  | 2, _ => exact play_2 y hy h300 hQ he t u e1 e2 e3
  | 3, _ => exact play_3 y hy h300 hQ he t u e1 e2 e3
  | 4, _ => exact play_4 y hy h300 hQ he t u e1 e2 e3
  | 5, _ => exact play_5 y hy h300 hQ he t u e1 e2 e3 (h5 rfl)
  | 6, _ =>
    rcases h6 rfl with ht | ht
    · exact play_6 y hy h300 hQ he t u e1 e2 e3 ht
    · exact play_7 y hy h300 hQ he t u e1 e2 e3 ht
end Go.Proofs.Ytkpdgjmeeeddhaa
