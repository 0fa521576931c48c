import Derived.Test.YtojnokaeopadfaaFa
import Derived.Test.YtojnokaeopadfaaMa
namespace Go.Proofs.Ytojnokaeopadfaa
open Go.RowKit
set_option linter.unusedVariables false
set_option linter.unusedSimpArgs false

theorem ret_i64 {a b : Int} (h : a = b) : Ending.returned (.int .i64 a) = .returned (.int .i64 b) := by rw [h]
theorem class_xf (a X F : Nat) (w : World) (h : a < 18446744073709551616) (hX : a / 4503599627370496 % 2048 = X) (hF : a % 4503599627370496 = F) :
    Calls Try.prog 65 #[.int .u64 a] w fun e w' => e = .returned (.int .i64 (Flo.clsXF X F)) ∧ w = w' := by
  have he := fun w => expo_any a X w h hX
  have hb := bf a h
  rw [hF] at hb
  clear hX hF
  have He := Lib.hid he
  clear he
  by_cases h1 : X = 2047
  · subst h1
    by_cases h2 : F = 0
    · subst h2
      go_enter Try.func65, Try.ntmps65
      go_wp2_with (go_at_call 75; refine (He.out _).mono ?_; rintro e w' ⟨rfl, rfl⟩)
      go_ret
      exact ⟨rfl, rfl⟩
    · have t1 : (F : Int) ≠ 0 := by omega
      have t2 : ((F : Int) != 0) = true := by simpa using h2
      have e1 : Flo.clsXF 2047 F = 4 := by simp [Flo.clsXF, h2]
      rw [e1]; clear e1 h2
      go_enter Try.func65, Try.ntmps65
      go_wp2_with (go_at_call 75; refine (He.out _).mono ?_; rintro e w' ⟨rfl, rfl⟩)
      go_ret
      exact ⟨rfl, rfl⟩
  · have t0 : ((X : Int) == 2047) = false := by simp; omega
    by_cases h3 : X = 0
    · subst h3
      by_cases h2 : F = 0
      · subst h2
        clear h1
        go_enter Try.func65, Try.ntmps65
        go_wp2_with (go_at_call 75; refine (He.out _).mono ?_; rintro e w' ⟨rfl, rfl⟩)
        go_ret
        exact ⟨rfl, rfl⟩
      · have t2 : ((F : Int) != 0) = true := by simpa using h2
        have e1 : Flo.clsXF 0 F = 1 := by simp [Flo.clsXF, h2]
        rw [e1]; clear e1 h2 h1
        go_enter Try.func65, Try.ntmps65
        go_wp2_with (go_at_call 75; refine (He.out _).mono ?_; rintro e w' ⟨rfl, rfl⟩)
        go_ret
        exact ⟨rfl, rfl⟩
    · have t2 : ((X : Int) != 0) = true := by simpa using h3
      have e1 : Flo.clsXF X F = 2 := by simp [Flo.clsXF, h1, h3]
      rw [e1]; clear e1 h1 h3
      go_enter Try.func65, Try.ntmps65
      go_wp2_with (go_at_call 75; refine (He.out _).mono ?_; rintro e w' ⟨rfl, rfl⟩)
      go_ret
      exact ⟨rfl, rfl⟩
theorem class_any (a : Nat) (w : World) (h : a < 18446744073709551616) :
    Calls Try.prog 65 #[.int .u64 a] w fun e w' => e = .returned (.int .i64 (Flo.cls a)) ∧ w = w' := class_xf a _ _ w h rfl rfl
theorem isNone_any (a : Nat) (w : World) (h : a < 18446744073709551616) (b : Bool) (hb : Flo.nanB a = b) :
    Calls Try.prog 72 #[.int .u64 a] w fun e w' => e = .returned (.bool b) ∧ w = w' := by
  have hc : ((Flo.cls a : Int) == 4) = b := by
    rw [← hb, ← Flo.cls_nan a, Bool.eq_iff_iff, beq_iff_eq, beq_iff_eq]; omega
  obtain ⟨c, ec⟩ : ∃ c, c = Flo.cls a := ⟨_, rfl⟩
  have he : ∀ w, Calls Try.prog 65 #[.int .u64 a] w fun e w' => e = .returned (.int .i64 (c : Int)) ∧ w = w' := fun w => by rw [ec]; exact class_any a w h
  rw [← ec] at hc
  clear ec hb
  have He := Lib.hid he
  clear he
  cases b
  all_goals
    go_enter Try.func72, Try.ntmps72
    go_wp2_with (go_at_call 65; refine (He.out _).mono ?_; rintro e w' ⟨rfl, rfl⟩)
    go_ret
    exact ⟨rfl, rfl⟩
theorem below_any (a b : Nat) (w : World) :
    Calls Try.prog 73 #[.int .u64 a, .int .u64 b] w fun e w' => e = .returned (.bool (Flo.below a b)) ∧ w = w' := by
  unfold Flo.below
  rcases h : (Ieee.double.order a b == some .eq) with _ | _
  · go_enter Try.func73, Try.ntmps73
    go_wp2_with (first | (go_at_call 61; refine (equal_any _ _ _).mono ?_; rintro e w' ⟨rfl, rfl⟩) | (go_at_call 60; refine (less_any _ _ _).mono ?_; rintro e w' ⟨rfl, rfl⟩))
    go_ret
    exact ⟨rfl, rfl⟩
  · go_enter Try.func73, Try.ntmps73
    go_wp2_with (first | (go_at_call 61; refine (equal_any _ _ _).mono ?_; rintro e w' ⟨rfl, rfl⟩) | (go_at_call 60; refine (less_any _ _ _).mono ?_; rintro e w' ⟨rfl, rfl⟩))
    go_ret
    refine ⟨?_, rfl⟩
    simp
theorem below_is (a b : Nat) (w : World) (t : Bool) (h : Flo.below a b = t) :
    Calls Try.prog 73 #[.int .u64 a, .int .u64 b] w fun e w' => e = .returned (.bool t) ∧ w = w' := by
  subst h; exact below_any a b w
theorem min_any (a b : Nat) (w : World) (ha : a < 18446744073709551616) (hb : b < 18446744073709551616) :
    Calls Try.prog 58 #[.int .u64 a, .int .u64 b] w fun e w' => e = .returned (.int .u64 (Flo.fMin a b)) ∧ w = w' := by
  unfold Flo.fMin
  rcases na : Flo.nanB a with _ | _
  · rcases nb : Flo.nanB b with _ | _
    · rcases hl : Flo.below a b with _ | _
      all_goals
        go_enter Try.func58, Try.ntmps58
        go_wp2_with (first | (go_at_call 72; refine (isNone_any _ _ (by assumption) false (by assumption)).mono ?_; rintro e w' ⟨rfl, rfl⟩) | (go_at_call 73; refine (below_is _ _ _ _ hl).mono ?_; rintro e w' ⟨rfl, rfl⟩))
        go_ret
        exact ⟨rfl, rfl⟩
    · go_enter Try.func58, Try.ntmps58
      go_wp2_with fail
      refine (isNone_any _ _ ha false na).mono ?_; rintro e w' ⟨rfl, rfl⟩
      go_wp2_with fail
      refine (isNone_any _ _ hb true nb).mono ?_; rintro e w' ⟨rfl, rfl⟩
      go_wp2_with fail
      go_ret
      exact ⟨rfl, rfl⟩
  · go_enter Try.func58, Try.ntmps58
    go_wp2_with (first | (go_at_call 72; refine (isNone_any _ _ ha true na).mono ?_; rintro e w' ⟨rfl, rfl⟩))
    go_ret
    exact ⟨rfl, rfl⟩
theorem max_any (a b : Nat) (w : World) (ha : a < 18446744073709551616) (hb : b < 18446744073709551616) :
    Calls Try.prog 59 #[.int .u64 a, .int .u64 b] w fun e w' => e = .returned (.int .u64 (Flo.fMax a b)) ∧ w = w' := by
  unfold Flo.fMax
  rcases na : Flo.nanB a with _ | _
  · rcases nb : Flo.nanB b with _ | _
    · rcases hl : Flo.below a b with _ | _
      all_goals
        go_enter Try.func59, Try.ntmps59
        go_wp2_with (first | (go_at_call 72; refine (isNone_any _ _ (by assumption) false (by assumption)).mono ?_; rintro e w' ⟨rfl, rfl⟩) | (go_at_call 73; refine (below_is _ _ _ _ hl).mono ?_; rintro e w' ⟨rfl, rfl⟩))
        go_ret
        exact ⟨rfl, rfl⟩
    · go_enter Try.func59, Try.ntmps59
      go_wp2_with fail
      refine (isNone_any _ _ ha false na).mono ?_; rintro e w' ⟨rfl, rfl⟩
      go_wp2_with fail
      refine (isNone_any _ _ hb true nb).mono ?_; rintro e w' ⟨rfl, rfl⟩
      go_wp2_with fail
      go_ret
      exact ⟨rfl, rfl⟩
  · go_enter Try.func59, Try.ntmps59
    go_wp2_with (first | (go_at_call 72; refine (isNone_any _ _ ha true na).mono ?_; rintro e w' ⟨rfl, rfl⟩))
    go_ret
    exact ⟨rfl, rfl⟩
theorem toInt_any (a : Nat) (w : World) (ha : a < 18446744073709551616) :
    Calls Try.prog 63 #[.int .u64 a] w fun e w' => e = .returned (.int .i64 (Flo.fToInt a)) ∧ w = w' := by
  unfold Flo.fToInt
  rcases na : Flo.nanB a with _ | _
  · have g1 : (FloatKind.f64.format.order a 4890909195324358656 == some .gt || FloatKind.f64.format.order a 4890909195324358656 == some .eq) = _ := Flo.ge_test a na
    have g2 : (FloatKind.f64.format.order a 14114281232179134464 == some .lt) = _ := Flo.lt_test a na
    have g3 := Flo.toInt_val a
    obtain ⟨v, ev⟩ : ∃ v, v = Flo.sgn (Flo.sg a) (Flo.rung a) := ⟨_, rfl⟩
    rw [← ev] at g1 g2 g3 ⊢
    clear ev
    by_cases h1 : v ≥ 4890909195324358656
    · rw [decide_eq_true h1] at g1
      clear g2 g3
      rw [if_neg (by simp), if_pos h1]
      clear h1
      go_enter Try.func63, Try.ntmps63
      go_wp2_with (first | (go_at_call 72; refine (isNone_any _ _ ha false na).mono ?_; rintro e w' ⟨rfl, rfl⟩) | (go_at_call 71; refine (valueOf_any _ _).mono ?_; rintro e w' ⟨rfl, rfl⟩))
      go_ret
      exact ⟨rfl, rfl⟩
    · rw [decide_eq_false h1] at g1
      rw [if_neg (by simp), if_neg h1]
      by_cases h2 : v < -4890909195324358656
      · rw [decide_eq_true h2] at g2
        rw [if_pos h2]
        clear h1 h2 g3
        go_enter Try.func63, Try.ntmps63
        go_wp2_with (first | (go_at_call 72; refine (isNone_any _ _ ha false na).mono ?_; rintro e w' ⟨rfl, rfl⟩) | (go_at_call 71; refine (valueOf_any _ _).mono ?_; rintro e w' ⟨rfl, rfl⟩))
        go_ret
        exact ⟨rfl, rfl⟩
      · rw [decide_eq_false h2] at g2
        rw [if_neg h2]
        have g4 := fun w => run_convert_float_int (P := Try.prog) w 102 2 .f64 .i64 a _ (by kernel_rfl) (by kernel_rfl) (g3 h1 h2)
        clear h1 h2 g3
        generalize Flo.sgn (Flo.sg a) (Flo.tr a) = n at g4 ⊢
        go_enter Try.func63, Try.ntmps63
        go_wp2_with (first | (go_at_call 72; refine (isNone_any _ _ ha false na).mono ?_; rintro e w' ⟨rfl, rfl⟩) | (go_at_call 71; refine (valueOf_any _ _).mono ?_; rintro e w' ⟨rfl, rfl⟩))
        go_ret
        exact ⟨rfl, rfl⟩
  · go_enter Try.func63, Try.ntmps63
    go_wp2_with (first | (go_at_call 72; refine (isNone_any _ _ ha true na).mono ?_; rintro e w' ⟨rfl, rfl⟩))
    go_ret
    exact ⟨rfl, rfl⟩
end Go.Proofs.Ytojnokaeopadfaa
