import Derived.Test.YtojnokaeopadfaaFi
namespace Go.Proofs.Ytojnokaeopadfaa
open Go.RowKit
set_option linter.unusedVariables false
set_option linter.unusedSimpArgs false

theorem cls_kind (b : Nat) (h : b < 18446744073709551616) : Flo.cls b = if kind b = 110 then 4 else if kind b = 105 then 3 else if mV b = 0 then 0 else if b / 4503599627370496 % 2048 = 0 then 1 else 2 := by
  have k1 : Flo.rung b < 9218868437227405312 → kind b = 102 ∧ (mV b = 0 ↔ b % 9223372036854775808 = 0) := fun h1 => by
    have e : kind b = 102 := if_pos h1
    refine ⟨e, ?_⟩
    unfold mV; rw [if_pos e]; exact Flo.oM_eq_zero b
  have k2 : ¬ Flo.rung b < 9218868437227405312 → Flo.rung b = 9218868437227405312 → kind b = 105 := fun h1 h2 => by
    unfold kind; rw [if_neg h1, if_pos h2]
  have k3 : ¬ Flo.rung b < 9218868437227405312 → ¬ Flo.rung b = 9218868437227405312 → kind b = 110 := fun h1 h2 => by
    unfold kind; rw [if_neg h1, if_neg h2]
  unfold Flo.cls Flo.clsXF
  generalize kind b = k at *
  generalize mV b = M at *
  unfold Flo.rung at *
  by_cases h1 : b % 9223372036854775808 < 9218868437227405312
  · obtain ⟨e1, e2⟩ := k1 h1
    subst e1
    clear k1 k2 k3
    (repeat' split) <;> omega
  · by_cases h2 : b % 9223372036854775808 = 9218868437227405312
    · obtain rfl := k2 h1 h2
      clear k1 k2 k3
      (repeat' split) <;> omega
    · obtain rfl := k3 h1 h2
      clear k1 k2 k3
      (repeat' split) <;> omega
theorem rclass_any (b : Nat) (w : World) (h : b < 18446744073709551616) :
    Calls Try.prog 52 #[.int .u64 b] w fun e w' => e = .returned (.int .i64 (Flo.cls b)) ∧ Grown w w' := by
  have A := Lib.hid (fun w => of_agg b (kind b) _ _ _ w h rfl rfl rfl rfl)
  have hb := bx b h
  rw [cls_kind b h]
  obtain ⟨k, ek⟩ : ∃ k, kind b = k := ⟨_, rfl⟩
  obtain ⟨M, eM⟩ : ∃ k, mV b = k := ⟨_, rfl⟩
  obtain ⟨X, eX⟩ : ∃ k, b / 4503599627370496 % 2048 = k := ⟨_, rfl⟩
  rw [ek, eM] at A
  rw [eX] at hb
  rw [ek, eM, eX]
  generalize eV b = E at A
  generalize Flo.sg b = s at A
  clear ek eM eX h
  by_cases h1 : k = 110
  · subst h1
    rw [if_pos rfl]
    have hc : ((110 : Nat) : Int) = 110 := rfl
    go_enter Try.func52, Try.ntmps52
    go_wp2_with fail
    refine (A.out _).mono ?_; rintro e w1 ⟨rfl, g1⟩
    go_wp2_with fail
    go_ret
    exact ⟨rfl, g1.alloc _ _⟩
  · rw [if_neg h1]
    have t1 : ((k : Int) == 110) = false := by rw [beq_eq_false_iff_ne]; omega
    by_cases h2 : k = 105
    · subst h2
      rw [if_pos rfl]
      have hc : ((105 : Nat) : Int) = 105 := rfl
      clear h1
      go_enter Try.func52, Try.ntmps52
      go_wp2_with fail
      refine (A.out _).mono ?_; rintro e w1 ⟨rfl, g1⟩
      go_wp2_with fail
      go_ret
      exact ⟨rfl, g1.alloc _ _⟩
    · rw [if_neg h2]
      have t2 : ((k : Int) == 105) = false := by rw [beq_eq_false_iff_ne]; omega
      by_cases h3 : M = 0
      · subst h3
        rw [if_pos rfl]
        have hc : ((0 : Nat) : Int) = 0 := rfl
        clear h1 h2
        go_enter Try.func52, Try.ntmps52
        go_wp2_with fail
        refine (A.out _).mono ?_; rintro e w1 ⟨rfl, g1⟩
        go_wp2_with fail
        go_ret
        exact ⟨rfl, g1.alloc _ _⟩
      · rw [if_neg h3]
        have t3 : ((M : Int) == 0) = false := by rw [beq_eq_false_iff_ne]; omega
        by_cases h4 : X = 0
        · subst h4
          rw [if_pos rfl]
          have hc : ((0 : Nat) : Int) = 0 := rfl
          clear h1 h2 h3
          go_enter Try.func52, Try.ntmps52
          go_wp2_with fail
          refine (A.out _).mono ?_; rintro e w1 ⟨rfl, g1⟩
          go_wp2_with fail
          go_ret
          exact ⟨rfl, g1.alloc _ _⟩
        · rw [if_neg h4]
          have t4 : ((X : Int) == 0) = false := by rw [beq_eq_false_iff_ne]; omega
          clear h1 h2 h3 h4
          go_enter Try.func52, Try.ntmps52
          go_wp2_with fail
          refine (A.out _).mono ?_; rintro e w1 ⟨rfl, g1⟩
          go_wp2_with fail
          go_ret
          exact ⟨rfl, g1.alloc _ _⟩
theorem rfromInt_any (n : Int) (w : World) (h1 : -9223372036854775808 ≤ n) (h2 : n ≤ 9223372036854775807) :
    Calls Try.prog 51 #[.int .i64 n] w fun e w' => e = .returned (.int .u64 (FloatKind.f64.nearest n : Nat)) ∧ w = w' := by
  by_cases h0 : n < 0
  · obtain ⟨m, hm⟩ : ∃ m : Nat, n = -(m : Int) := ⟨n.natAbs, by omega⟩
    have e1 : FloatKind.f64.nearest n = Ieee.double.nearest true m 0 := by
      show Ieee.double.nearest (decide (n < 0)) n.natAbs 0 = _
      rw [decide_eq_true h0, show n.natAbs = m by omega]
    have A := Lib.hid (fun w => round_any true m 0 w (by omega) (by omega) (by omega))
    have c1 : IntKind.u64.wrap n = 18446744073709551616 - (m : Int) := by rw [IntKind.wrap_u64]; omega
    have c2 : IntKind.u64.wrap (-(18446744073709551616 - (m : Int))) = m := by rw [IntKind.wrap_u64]; omega
    rw [e1]; clear e1 hm h1 h2
    generalize 18446744073709551616 - (m : Int) = q at c1 c2
    go_enter Try.func51, Try.ntmps51
    go_wp2_with (go_at_call 68; refine (A.out _).mono ?_; rintro e w' ⟨rfl, rfl⟩)
    go_ret
    exact ⟨rfl, rfl⟩
  · obtain ⟨m, rfl⟩ := Int.eq_ofNat_of_zero_le (by omega : 0 ≤ n)
    have e1 : FloatKind.f64.nearest (m : Int) = Ieee.double.nearest false m 0 := by
      show Ieee.double.nearest (decide ((m : Int) < 0)) (m : Int).natAbs 0 = _
      rw [decide_eq_false h0]; rfl
    have A := Lib.hid (fun w => round_any false m 0 w (by omega) (by omega) (by omega))
    have c1 : IntKind.u64.wrap (m : Int) = m := by rw [IntKind.wrap_u64]; omega
    rw [e1]; clear e1 h1 h2
    go_enter Try.func51, Try.ntmps51
    go_wp2_with (go_at_call 68; refine (A.out _).mono ?_; rintro e w' ⟨rfl, rfl⟩)
    go_ret
    exact ⟨rfl, rfl⟩
end Go.Proofs.Ytojnokaeopadfaa
