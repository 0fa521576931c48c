import Derived.Test.YtojnokaeopadfaaMa
import Derived.Test.YtojnokaeopadfaaRows
import Derived.WalkKit
import Derived.WalkLawsBesides
import Derived.WalkSpells
import Derived.Lib.Hide
import Derived.Outline
import Derived.BigQuiet
import Derived.Deep.QuietTactic
import Derived.Laws.Cover2
import Derived.Laws.FloatArith
namespace Go.Proofs.Ytojnokaeopadfaa
open Go.RowKit
set_option linter.unusedVariables false
set_option linter.unusedSimpArgs false

@[go_sem] theorem run50 (a : Int) (w : World) : (callFunc 78 #[.int .u64 a]).run Try.prog w = .ok (.value (.float .f64 a.toNat)) w := by kernel_rfl
@[go_sem] theorem run49 (a : Nat) (w : World) : (callFunc 77 #[.float .f64 a]).run Try.prog w = .ok (.value (.int .u64 a)) w := by kernel_rfl
theorem sqrt_eq (a : Nat) : Go.Extern.MathSqrt.sqrt #[.float .f64 a] = (match Ieee.double.sqrt a with
    | some r => (pure (.float .f64 r) : Sem Value)
    | none => (choose (.nanBits .f64 a a)) >>= fun n => pure (.float .f64 n)) := rfl
theorem run52 (a : Nat) (w : World) : (callFunc 79 #[.float .f64 a]).run Try.prog w = ((Go.Extern.MathSqrt.sqrt #[.float .f64 a]).run Try.prog w).andThen fun v w' => .ok (.value v) w' :=
  run_callFunc_extern (f := 79) (fn := Try.f79) (by kernel_rfl) (by kernel_rfl) (by kernel_rfl) (by kernel_rfl) (by kernel_rfl) _ _
theorem sqrt_some (a r : Nat) (w : World) (h : Ieee.double.sqrt a = some r) : (callFunc 79 #[.float .f64 a]).run Try.prog w = .ok (.value (.float .f64 r)) w := by
  rw [run52, sqrt_eq]; simp only [h]; rfl
/-- A word that is no number. -/
def IsNan (r : Nat) : Prop := Flo.nanB r = true
theorem nan_cut (x y t : Nat) : IsNan ((Question.nanBits .f64 x y).cut t) := Flo.nan_cut t
theorem sqrt_none (a : Nat) (w : World) (h : Ieee.double.sqrt a = none) : ∃ r, IsNan r ∧ (callFunc 79 #[.float .f64 a]).run Try.prog w = .ok (.value (.float .f64 r)) w.drew := by
  rw [run52, sqrt_eq]; simp only [h]
  refine ⟨_, nan_cut a a (w.tape w.drawn (.nanBits .f64 a a)), ?_⟩
  simp [Question.forced]
theorem arith_none (op : BinOp) (t : TypeId) (x y : Nat) (w : World) (h : floatBits op .f64 x y = none) (ho : op = .add ∨ op = .sub ∨ op = .mul ∨ op = .quo) :
    ∃ r, IsNan r ∧ (binOp op t (.float .f64 x) (.float .f64 y)).run Try.prog w = .ok (.float .f64 r) w.drew := by
  refine ⟨_, nan_cut x y (w.tape w.drawn (.nanBits .f64 x y)), ?_⟩
  unfold floatBits at h
  rcases ho with rfl | rfl | rfl | rfl <;> simp only at h <;> simp [binOp, Op.floatArith, h, Question.forced]
theorem valueOf_any (a : Int) (w : World) :
    Calls Try.prog 71 #[.int .u64 a] w fun e w' => e = .returned (.float .f64 a.toNat) ∧ w = w' := by
  go_enter Try.func71, Try.ntmps71
  go_wp2
  go_ret
  exact ⟨rfl, rfl⟩
theorem bitsOf_num (a : Nat) (w : World) (h : Flo.nanB a = false) :
    Calls Try.prog 70 #[.float .f64 a] w fun e w' => e = .returned (.int .u64 a) ∧ w = w' := by
  have h1 : (FloatKind.f64.format.order a a != some Ordering.eq) = false := by
    show (Ieee.double.order a a != some Ordering.eq) = false
    rw [Flo.order_num h]; rfl
  clear h
  go_enter Try.func70, Try.ntmps70
  go_wp2
  go_ret
  exact ⟨rfl, rfl⟩
theorem bitsOf_nan (a : Nat) (w : World) (h : IsNan a) :
    Calls Try.prog 70 #[.float .f64 a] w fun e w' => e = .returned (.int .u64 9221120237041090560) ∧ w = w' := by
  have h1 : (FloatKind.f64.format.order a a != some Ordering.eq) = true := by
    show (Ieee.double.order a a != some Ordering.eq) = true
    rw [Flo.order_nan h]; rfl
  clear h
  go_enter Try.func70, Try.ntmps70
  go_wp2
  go_ret
  exact ⟨rfl, rfl⟩
/-- The end of a call that hands back a number 'r' and draws at most. -/
def Num (r : Nat) (w : World) (e : Ending) (w' : World) : Prop := e = .returned (.int .u64 r) ∧ ∃ n, w' = w.drewN n
theorem add_any (a b : Nat) (w : World) : Calls Try.prog 54 #[.int .u64 a, .int .u64 b] w (Num (Flo.fAdd a b) w) := by
  unfold Flo.fAdd
  rcases h : Ieee.double.add a b with _ | r
  · obtain ⟨r, hr, hrun⟩ := arith_none .add 102 a b w h (.inl rfl)
    clear h
    go_enter Try.func54, Try.ntmps54
    go_wp2_with (first | (go_at_call 71; refine (valueOf_any _ _).mono ?_; rintro e w' ⟨rfl, rfl⟩) | (go_at_call 70; refine (bitsOf_nan _ _ hr).mono ?_; rintro e w' ⟨rfl, rfl⟩))
    go_ret
    exact ⟨rfl, 1, rfl⟩
  · have hr := (Flo.add_notnan h).1
    have hrun := run_float_arith (P := Try.prog) w .add 102 .f64 a b r h
    clear h
    go_enter Try.func54, Try.ntmps54
    go_wp2_with (first | (go_at_call 71; refine (valueOf_any _ _).mono ?_; rintro e w' ⟨rfl, rfl⟩) | (go_at_call 70; refine (bitsOf_num _ _ hr).mono ?_; rintro e w' ⟨rfl, rfl⟩))
    go_ret
    exact ⟨rfl, 0, rfl⟩
theorem sub_any (a b : Nat) (w : World) : Calls Try.prog 55 #[.int .u64 a, .int .u64 b] w (Num (Flo.fSub a b) w) := by
  unfold Flo.fSub
  rcases h : Ieee.double.sub a b with _ | r
  · obtain ⟨r, hr, hrun⟩ := arith_none .sub 102 a b w h (.inr (.inl rfl))
    clear h
    go_enter Try.func55, Try.ntmps55
    go_wp2_with (first | (go_at_call 71; refine (valueOf_any _ _).mono ?_; rintro e w' ⟨rfl, rfl⟩) | (go_at_call 70; refine (bitsOf_nan _ _ hr).mono ?_; rintro e w' ⟨rfl, rfl⟩))
    go_ret
    exact ⟨rfl, 1, rfl⟩
  · have hr := (Flo.sub_notnan h).1
    have hrun := run_float_arith (P := Try.prog) w .sub 102 .f64 a b r h
    clear h
    go_enter Try.func55, Try.ntmps55
    go_wp2_with (first | (go_at_call 71; refine (valueOf_any _ _).mono ?_; rintro e w' ⟨rfl, rfl⟩) | (go_at_call 70; refine (bitsOf_num _ _ hr).mono ?_; rintro e w' ⟨rfl, rfl⟩))
    go_ret
    exact ⟨rfl, 0, rfl⟩
theorem mul_any (a b : Nat) (w : World) : Calls Try.prog 56 #[.int .u64 a, .int .u64 b] w (Num (Flo.fMul a b) w) := by
  unfold Flo.fMul
  rcases h : Ieee.double.mul a b with _ | r
  · obtain ⟨r, hr, hrun⟩ := arith_none .mul 102 a b w h (.inr (.inr (.inl rfl)))
    clear h
    go_enter Try.func56, Try.ntmps56
    go_wp2_with (first | (go_at_call 71; refine (valueOf_any _ _).mono ?_; rintro e w' ⟨rfl, rfl⟩) | (go_at_call 70; refine (bitsOf_nan _ _ hr).mono ?_; rintro e w' ⟨rfl, rfl⟩))
    go_ret
    exact ⟨rfl, 1, rfl⟩
  · have hr := (Flo.mul_notnan h).1
    have hrun := run_float_arith (P := Try.prog) w .mul 102 .f64 a b r h
    clear h
    go_enter Try.func56, Try.ntmps56
    go_wp2_with (first | (go_at_call 71; refine (valueOf_any _ _).mono ?_; rintro e w' ⟨rfl, rfl⟩) | (go_at_call 70; refine (bitsOf_num _ _ hr).mono ?_; rintro e w' ⟨rfl, rfl⟩))
    go_ret
    exact ⟨rfl, 0, rfl⟩
theorem div_any (a b : Nat) (w : World) : Calls Try.prog 57 #[.int .u64 a, .int .u64 b] w (Num (Flo.fDiv a b) w) := by
  unfold Flo.fDiv
  rcases h : Ieee.double.div a b with _ | r
  · obtain ⟨r, hr, hrun⟩ := arith_none .quo 102 a b w h (.inr (.inr (.inr rfl)))
    clear h
    go_enter Try.func57, Try.ntmps57
    go_wp2_with (first | (go_at_call 71; refine (valueOf_any _ _).mono ?_; rintro e w' ⟨rfl, rfl⟩) | (go_at_call 70; refine (bitsOf_nan _ _ hr).mono ?_; rintro e w' ⟨rfl, rfl⟩))
    go_ret
    exact ⟨rfl, 1, rfl⟩
  · have hr := (Flo.div_notnan h).1
    have hrun := run_float_arith (P := Try.prog) w .quo 102 .f64 a b r h
    clear h
    go_enter Try.func57, Try.ntmps57
    go_wp2_with (first | (go_at_call 71; refine (valueOf_any _ _).mono ?_; rintro e w' ⟨rfl, rfl⟩) | (go_at_call 70; refine (bitsOf_num _ _ hr).mono ?_; rintro e w' ⟨rfl, rfl⟩))
    go_ret
    exact ⟨rfl, 0, rfl⟩
theorem sqrt_any (a : Nat) (w : World) : Calls Try.prog 62 #[.int .u64 a] w (Num (Flo.fSqrt a) w) := by
  unfold Flo.fSqrt
  rcases h : Ieee.double.sqrt a with _ | r
  · obtain ⟨r, hr, hrun⟩ := sqrt_none a w h
    clear h
    go_enter Try.func62, Try.ntmps62
    go_wp2_with (first | (go_at_call 71; refine (valueOf_any _ _).mono ?_; rintro e w' ⟨rfl, rfl⟩) | (go_at_call 70; refine (bitsOf_nan _ _ hr).mono ?_; rintro e w' ⟨rfl, rfl⟩) | go_in)
    go_ret
    exact ⟨rfl, 1, rfl⟩
  · have hr := (Flo.sqrt_notnan h).1
    have hrun := sqrt_some a r w h
    clear h
    go_enter Try.func62, Try.ntmps62
    go_wp2_with (first | (go_at_call 71; refine (valueOf_any _ _).mono ?_; rintro e w' ⟨rfl, rfl⟩) | (go_at_call 70; refine (bitsOf_num _ _ hr).mono ?_; rintro e w' ⟨rfl, rfl⟩) | go_in)
    go_ret
    exact ⟨rfl, 0, rfl⟩
theorem less_any (a b : Nat) (w : World) : Calls Try.prog 60 #[.int .u64 a, .int .u64 b] w fun e w' => e = .returned (.bool (Ieee.double.order a b == some .lt)) ∧ w = w' := by
  go_enter Try.func60, Try.ntmps60
  go_wp2_with (go_at_call 71; refine (valueOf_any _ _).mono ?_; rintro e w' ⟨rfl, rfl⟩)
  go_ret
  exact ⟨rfl, rfl⟩
theorem equal_any (a b : Nat) (w : World) : Calls Try.prog 61 #[.int .u64 a, .int .u64 b] w fun e w' => e = .returned (.bool (Ieee.double.order a b == some .eq)) ∧ w = w' := by
  go_enter Try.func61, Try.ntmps61
  go_wp2_with (go_at_call 71; refine (valueOf_any _ _).mono ?_; rintro e w' ⟨rfl, rfl⟩)
  go_ret
  exact ⟨rfl, rfl⟩
theorem fromInt_any (n : Int) (w : World) : Calls Try.prog 64 #[.int .i64 n] w fun e w' => e = .returned (.int .u64 (FloatKind.f64.nearest n)) ∧ w = w' := by
  have hr : Flo.nanB (floatOfInt .f64 n) = false := Flo.nearest_notnan ..
  go_enter Try.func64, Try.ntmps64
  go_wp2_with (first | (go_at_call 70; refine (bitsOf_num _ _ hr).mono ?_; rintro e w' ⟨rfl, rfl⟩))
  go_ret
  exact ⟨rfl, rfl⟩
theorem bx (a : Nat) (h : a < 18446744073709551616) : bits .and .u64 ((a : Int) / 4503599627370496) 2047 = ((a / 4503599627370496 % 2048 : Nat) : Int) := by
  have e : (a : Int) / 4503599627370496 = ((a / 4503599627370496 : Nat) : Int) := by omega
  rw [e]; refine (u64_and_nat (a / 4503599627370496) 2047 (by omega) (by omega)).trans ?_
  rw [nat_mask11]
theorem bf (a : Nat) (h : a < 18446744073709551616) : bits .and .u64 (a : Int) 4503599627370495 = ((a % 4503599627370496 : Nat) : Int) := by
  refine (u64_and_nat a 4503599627370495 (by omega) (by omega)).trans ?_
  rw [Nat.and_two_pow_sub_one_eq_mod a 52]
theorem expo_any (a X : Nat) (w : World) (h : a < 18446744073709551616) (hX : a / 4503599627370496 % 2048 = X) :
    Calls Try.prog 75 #[.int .u64 a] w fun e w' => e = .returned (.int .u64 X) ∧ w = w' := by
  have hb := bx a h
  rw [hX] at hb; clear hX
  go_enter Try.func75, Try.ntmps75
  go_wp2
  go_ret
  exact ⟨rfl, rfl⟩
end Go.Proofs.Ytojnokaeopadfaa
