/- Quotients. Written by genV.py. -/
import Derived.Test.YtdeljahpbanecaaVg
namespace Go.Proofs.Ytdeljahpbanecaa
open Go.RowKit
set_option linter.unusedVariables false
set_option linter.unusedSimpArgs false
theorem absq_any (a : Nat) (w : World) (ha : a < 18446744073709551616) : Calls Try.prog 18 #[.int .u64 a] w fun e w' => e = .returned (.int .u64 (Alu.mag a : Nat)) ∧ w = w' := by
  by_cases h : 9223372036854775808 ≤ a
  · have t : decide (RowKit.wrap64 (a : Int) < 0) = true := by rw [decide_eq_true_eq]; unfold RowKit.wrap64; omega
    have m : IntKind.u64.wrap (-(a : Int)) = ((Alu.mag a : Nat) : Int) := by unfold Alu.mag; rw [wrap64]; split <;> omega
    clear ha h
    go_enter Try.func18, Try.ntmps18
    go_wp2_with fail
    go_ret
    exact ⟨rfl, rfl⟩
  · have t : decide (RowKit.wrap64 (a : Int) < 0) = false := by rw [decide_eq_false_iff_not]; unfold RowKit.wrap64; omega
    have m : Alu.mag a = a := by unfold Alu.mag; split <;> omega
    rw [m]
    clear ha h
    go_enter Try.func18, Try.ntmps18
    go_wp2_with fail
    go_ret
    exact ⟨rfl, rfl⟩
set_option maxHeartbeats 2000000 in
theorem quotients_all (a b : Nat) (w : World) (ha : a < 18446744073709551616) (hb : b < 18446744073709551616) : Calls Try.prog 5 #[.int .u64 a, .int .u64 b] w fun e w' => e = .returned (.bool true) ∧ Grown w w' := by
  by_cases z : b = 0
  · have zb : ((b : Int) == 0) = true := by rw [beq_iff_eq]; omega
    have A := Lib.hid (And.intro (fun w => reckon_any 7 a b w ha hb) (fun w => reckon_any 8 a b w ha hb))
    simp only [show Alu.rk 7 a b = (0, false) from by simp [Alu.rk, z], show Alu.rk 8 a b = (0, false) from by simp [Alu.rk, z], two_none] at A
    have B := Lib.hid fit_any
    clear z ha hb
    go_enter Try.func5, Try.ntmps5
    go_wp2_with fail
    refine (B.out _).mono ?_; rintro e w1 ⟨rfl, g1⟩
    go_wp2_with fail
    refine (A.out.1 _).mono ?_; rintro e w2 ⟨rfl, g2⟩
    go_wp2_with fail
    refine (A.out.2 _).mono ?_; rintro e w3 ⟨rfl, g3⟩
    go_wp2_with fail
    go_ret
    exact ⟨rfl, grown_trans g1 (grown_trans g2 g3)⟩
  · have A := And.intro (fun w => reckon_any 7 a b w ha hb) (And.intro (fun w => reckon_any 8 a b w ha hb) (And.intro (fun w => absq_any (Alu.rem a b) w (Alu.rem_lt a b ha)) (fun w => absq_any b w hb)))
    rw [show Alu.rk 7 a b = (Alu.quo a b, true) from by simp [Alu.rk, z], show Alu.rk 8 a b = (Alu.rem a b, true) from by simp [Alu.rk, z]] at A
    have zb : ((b : Int) == 0) = false := by rw [beq_eq_false_iff_ne]; omega
    have B := Lib.hid fit_any
    obtain ⟨q1, q2, q3⟩ := Alu.quo_rem a b ha hb z
    have rl := Alu.rem_lt a b ha
    generalize Alu.quo a b = q at *
    generalize Alu.rem a b = r at *
    generalize Alu.mag b = y at *
    have s1 : (IntKind.u64.wrap (IntKind.u64.wrap ((q : Int) * b) + r) == (a : Int)) = true := by
      rw [beq_iff_eq, wrap64, wrap64, ← Int.natCast_mul]; generalize q * b = p at q1 ⊢; omega
    have s2 : decide (((Alu.mag r : Nat) : Int) < (y : Int)) = true := by rw [decide_eq_true_eq]; omega
    have s2' : decide (Alu.mag r < y) = true := by rw [decide_eq_true_eq]; omega
    generalize Alu.mag r = x at *
    obtain ⟨k, s3⟩ : ∃ k, ((r : Int) == 0) = k := ⟨_, rfl⟩
    obtain ⟨u, d1⟩ : ∃ u, (r : Int) / 9223372036854775808 = u := ⟨_, rfl⟩
    obtain ⟨v, d2⟩ : ∃ v, (a : Int) / 9223372036854775808 = v := ⟨_, rfl⟩
    obtain ⟨m, s4⟩ : ∃ m, (u == v) = m := ⟨_, rfl⟩
    have s5 : k = true ∨ m = true := by
      rcases q3 with e | e
      · left; rw [← s3, beq_iff_eq]; omega
      · right; rw [← s4, beq_iff_eq]; unfold Alu.ng at e
        rw [decide_eq_decide] at e; omega
    replace A := Lib.hid A
    clear q1 q2 q3 rl z ha hb
    obtain ⟨p1, n1⟩ : ∃ p1, IntKind.u64.wrap ((q : Int) * b) = p1 := ⟨_, rfl⟩
    rw [n1] at s1
    obtain ⟨p2, n2⟩ : ∃ p2, IntKind.u64.wrap (p1 + r) = p2 := ⟨_, rfl⟩
    rw [n2] at s1
    rcases k with _ | _ <;> rcases m with _ | _
    · simp at s5
    all_goals
      clear s5
      go_enter Try.func5, Try.ntmps5
      go_wp2_with fail
      refine (B.out _).mono ?_; rintro e w1 ⟨rfl, g1⟩
      go_wp2_with fail
      refine (A.out.1 _).mono ?_; rintro e w2 ⟨rfl, g2⟩
      go_wp2_with fail
      refine (A.out.2.1 _).mono ?_; rintro e w3 ⟨rfl, g3⟩
      go_wp2_with fail
      refine (A.out.2.2.1 _).mono ?_; rintro e w' ⟨rfl, rfl⟩
      go_wp2_with fail
      refine (A.out.2.2.2 _).mono ?_; rintro e w' ⟨rfl, rfl⟩
      go_wp2_with fail
      go_ret
      exact ⟨rfl, grown_trans g1 (grown_trans g2 g3)⟩
end Go.Proofs.Ytdeljahpbanecaa
