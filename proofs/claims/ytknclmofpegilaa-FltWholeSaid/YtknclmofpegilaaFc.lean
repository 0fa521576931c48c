import Derived.Test.YtknclmofpegilaaFb
namespace Go.Proofs.Ytknclmofpegilaa
open Go.RowKit
set_option linter.unusedVariables false
set_option linter.unusedSimpArgs false

theorem fit_add (w : World) : Calls Try.prog 12 #[.int .u64 0, .int .u64 9223372036854775808] w fun e w' => e = .returned (.int .u64 0) ∧ w = w' := by
  have hrun := run_float_arith (P := Try.prog) w .add 37 .f64 0 9223372036854775808 0 (by kernel_rfl)
  have hr : Flo.nanB 0 = false := rfl
  go_enter Try.func12, Try.ntmps12
  go_wp2_with (first | (go_at_call 40; refine (valueOf_any _ _).mono ?_; rintro e w' ⟨rfl, rfl⟩) | (go_at_call 39; refine (bitsOf_num _ _ hr).mono ?_; rintro e w' ⟨rfl, rfl⟩))
  go_ret
  exact ⟨rfl, rfl⟩
theorem fit_sqrt (w : World) : Calls Try.prog 19 #[.int .u64 9223372036854775808] w fun e w' => e = .returned (.int .u64 9223372036854775808) ∧ w = w' := by
  have hrun := sqrt_some 9223372036854775808 9223372036854775808 w (by kernel_rfl)
  have hr : Flo.nanB 9223372036854775808 = false := rfl
  go_enter Try.func19, Try.ntmps19
  go_wp2_with (first | (go_at_call 40; refine (valueOf_any _ _).mono ?_; rintro e w' ⟨rfl, rfl⟩) | (go_at_call 39; refine (bitsOf_num _ _ hr).mono ?_; rintro e w' ⟨rfl, rfl⟩) | go_in)
  go_ret
  exact ⟨rfl, rfl⟩
theorem fit_toInt (w : World) : Calls Try.prog 34 #[.int .u64 4890909195324358656] w fun e w' => e = .returned (.int .i64 9223372036854775807) ∧ w = w' :=
  (toInt_any 4890909195324358656 w (by omega)).mono fun e w' h => by
    have e1 : Flo.fToInt 4890909195324358656 = 9223372036854775807 := by
      unfold Flo.fToInt
      have e2 : Flo.sgn (Flo.sg 4890909195324358656) (Flo.rung 4890909195324358656) = 4890909195324358656 := by decide
      rw [e2, if_neg (by decide), if_pos (by omega)]
    rw [e1] at h; exact h
theorem fit_class (w : World) : Calls Try.prog 30 #[.int .u64 9221120237041090560] w fun e w' => e = .returned (.int .i64 4) ∧ w = w' :=
  class_any 9221120237041090560 w (by omega)

theorem fit_any (w : World) : Calls Try.prog 11 #[] w fun e w' => e = .returned (.bool true) ∧ w = w' := by
  go_enter Try.func11, Try.ntmps11
  go_wp2_with (first | (go_at_call 12; refine (fit_add _).mono ?_; rintro e w' ⟨rfl, rfl⟩) | (go_at_call 19; refine (fit_sqrt _).mono ?_; rintro e w' ⟨rfl, rfl⟩) | (go_at_call 34; refine (fit_toInt _).mono ?_; rintro e w' ⟨rfl, rfl⟩) | (go_at_call 30; refine (fit_class _).mono ?_; rintro e w' ⟨rfl, rfl⟩))
  go_ret
  exact ⟨rfl, rfl⟩

theorem signx_any (s : Bool) (b : Nat) (w : World) (h : b < 9223372036854775808) :
    Calls Try.prog 42 #[.bool s, .int .u64 b] w fun e w' => e = .returned (.int .u64 ((Ieee.double.word s b : Nat) : Int)) ∧ w = w' := by
  have hb : bits .or .u64 (b : Int) 9223372036854775808 = ((9223372036854775808 + b : Nat) : Int) := by
    refine (u64_or_nat b 9223372036854775808 (by omega) (by omega)).trans ?_
    rw [Nat.or_comm, nat_join 63 9223372036854775808 b (by omega) h]
  cases s
  · have e : Ieee.double.word false b = b := rfl
    rw [e]
    go_enter Try.func42, Try.ntmps42
    go_wp2
    go_ret
    exact ⟨rfl, rfl⟩
  · have e : Ieee.double.word true b = 9223372036854775808 + b := rfl
    rw [e]
    obtain ⟨X, eX⟩ : ∃ X, X = 9223372036854775808 + b := ⟨_, rfl⟩
    rw [← eX] at hb ⊢; clear eX
    go_enter Try.func42, Try.ntmps42
    go_wp2
    go_ret
    exact ⟨rfl, rfl⟩

set_option maxHeartbeats 400000 in
theorem size_any (m : Nat) (w : World) (h : m < 18446744073709551616) :
    Calls Try.prog 51 #[.int .u64 m] w fun e w' => e = .returned (.int .i64 (Flo.sz m)) ∧ w = w' := by
  have hs := Flo.sz_le h
  go_enter Try.func51, Try.ntmps51
  go_wp2
  go_loop [0, 3] (fun a b => ∃ x k : Nat, x ≤ m ∧ k ≤ Flo.sz m ∧ Flo.SzInv m x k ∧ a = .int .u64 x ∧ b = .int .i64 k) (fun a _ => (intOf a).toNat)
  case atStart => exact ⟨m, 0, Nat.le_refl _, Nat.zero_le _, Flo.szInv_zero m, rfl, rfl⟩
  case round =>
    obtain ⟨x, k, hx, hk, hi, rfl, rfl⟩ := hrel
    have HI := Lib.hid hi
    clear hi
    by_cases h0 : x = 0
    · subst h0
      have hz : ((0 : Nat) : Int) = 0 := rfl
      go_wp2
      go_ret
      exact ⟨ret_i64 (by rw [Flo.szInv_end HI.out]), rfl⟩
    · have h1 : ((x : Int) != 0) = true := by simpa using h0
      have h2 := Flo.szInv_step HI.out h0
      have h3 := h2.2
      have H2 := Lib.hid h2
      clear h2
      go_wp2
      go_round
      case rel => exact ⟨x / 2, k + 1, by omega, by omega, H2.out, by go_num, by go_num⟩
      case measure => simp [intOf]; omega
end Go.Proofs.Ytknclmofpegilaa
