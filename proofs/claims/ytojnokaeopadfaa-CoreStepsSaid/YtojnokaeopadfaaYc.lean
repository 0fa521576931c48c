import Derived.Test.YtojnokaeopadfaaYb
import Derived.Test.YtojnokaeopadfaaAg
import Derived.Test.YtojnokaeopadfaaBc
import Derived.Test.YtojnokaeopadfaaCb
import Derived.Test.YtojnokaeopadfaaDd
import Derived.Test.YtojnokaeopadfaaFj
import Derived.Test.YtojnokaeopadfaaFk
import Derived.Test.YtojnokaeopadfaaLc
import Derived.Test.YtojnokaeopadfaaLe
/- What glacisref05 answers: numbers with a point, and every operation. Written by genYc.py. -/
namespace Go.Proofs.Ytojnokaeopadfaa
open Go.RowKit
set_option linter.unusedVariables false
set_option linter.unusedSimpArgs false

theorem i64_sg (a : Nat) (ha : a < 18446744073709551616) : IntKind.i64.wrap (a : Int) = Alu.sg a := by
  unfold Alu.sg; simp [IntKind.wrap, IntKind.bits, IntKind.signed]; split <;> split <;> omega
theorem sg_i64 (a : Nat) (ha : a < 18446744073709551616) : -9223372036854775808 ≤ Alu.sg a ∧ Alu.sg a ≤ 9223372036854775807 := by
  unfold Alu.sg; split <;> omega
theorem u64_of (n : Int) : IntKind.u64.wrap n = (((n % 18446744073709551616).toNat : Nat) : Int) := by rw [wrap64]; omega
theorem u64_cls (n : Nat) : IntKind.u64.wrap (n : Int) = ((n % 18446744073709551616 : Nat) : Int) := by rw [wrap64]; omega
theorem fl_31 (a b : Nat) (w : World) (ha : a < 18446744073709551616) (hb : b < 18446744073709551616) : Calls Try.prog 38 #[.int .i64 31, .int .u64 a, .int .u64 b] w (Two (Alu.flo 31 a b) w) := by
  have A := Lib.hid (fun w => radd_any a b w ha hb)
  have g : Alu.flo 31 a b = (Flo.fAdd a b, true) := rfl
  rw [g]
  clear g
  generalize Flo.fAdd a b = r at A ⊢
  go_enter Try.func38, Try.ntmps38
  go_wp2_with fail
  refine (A.out _).mono ?_; rintro e w1 ⟨rfl, g1⟩
  go_wp2_with fail
  go_ret2
  exact ⟨rfl, g1⟩
theorem fl_33 (a b : Nat) (w : World) (ha : a < 18446744073709551616) (hb : b < 18446744073709551616) : Calls Try.prog 38 #[.int .i64 33, .int .u64 a, .int .u64 b] w (Two (Alu.flo 33 a b) w) := by
  have A := Lib.hid (fun w => rmul_any a b w ha hb)
  have g : Alu.flo 33 a b = (Flo.fMul a b, true) := rfl
  rw [g]
  clear g
  generalize Flo.fMul a b = r at A ⊢
  go_enter Try.func38, Try.ntmps38
  go_wp2_with fail
  refine (A.out _).mono ?_; rintro e w1 ⟨rfl, g1⟩
  go_wp2_with fail
  go_ret2
  exact ⟨rfl, g1⟩
theorem fl_34 (a b : Nat) (w : World) (ha : a < 18446744073709551616) (hb : b < 18446744073709551616) : Calls Try.prog 38 #[.int .i64 34, .int .u64 a, .int .u64 b] w (Two (Alu.flo 34 a b) w) := by
  have A := Lib.hid (fun w => rdiv_any a b w ha hb)
  have g : Alu.flo 34 a b = (Flo.fDiv a b, true) := rfl
  rw [g]
  clear g
  generalize Flo.fDiv a b = r at A ⊢
  go_enter Try.func38, Try.ntmps38
  go_wp2_with fail
  refine (A.out _).mono ?_; rintro e w1 ⟨rfl, g1⟩
  go_wp2_with fail
  go_ret2
  exact ⟨rfl, g1⟩
theorem fl_35 (a b : Nat) (w : World) (ha : a < 18446744073709551616) (hb : b < 18446744073709551616) : Calls Try.prog 38 #[.int .i64 35, .int .u64 a, .int .u64 b] w (Two (Alu.flo 35 a b) w) := by
  have A := Lib.hid (fun w => rmin_any a b w ha hb)
  have g : Alu.flo 35 a b = (Flo.rMin a b, true) := rfl
  rw [g]
  clear g
  generalize Flo.rMin a b = r at A ⊢
  go_enter Try.func38, Try.ntmps38
  go_wp2_with fail
  refine (A.out _).mono ?_; rintro e w1 ⟨rfl, g1⟩
  go_wp2_with fail
  go_ret2
  exact ⟨rfl, g1⟩
theorem fl_36 (a b : Nat) (w : World) (ha : a < 18446744073709551616) (hb : b < 18446744073709551616) : Calls Try.prog 38 #[.int .i64 36, .int .u64 a, .int .u64 b] w (Two (Alu.flo 36 a b) w) := by
  have A := Lib.hid (fun w => rmax_any a b w ha hb)
  have g : Alu.flo 36 a b = (Flo.rMax a b, true) := rfl
  rw [g]
  clear g
  generalize Flo.rMax a b = r at A ⊢
  go_enter Try.func38, Try.ntmps38
  go_wp2_with fail
  refine (A.out _).mono ?_; rintro e w1 ⟨rfl, g1⟩
  go_wp2_with fail
  go_ret2
  exact ⟨rfl, g1⟩
theorem fl_39 (a b : Nat) (w : World) (ha : a < 18446744073709551616) (hb : b < 18446744073709551616) : Calls Try.prog 38 #[.int .i64 39, .int .u64 a, .int .u64 b] w (Two (Alu.flo 39 a b) w) := by
  have A := Lib.hid (fun w => rsqrt_any a w ha)
  have g : Alu.flo 39 a b = (Flo.fSqrt a, true) := rfl
  rw [g]
  clear g
  generalize Flo.fSqrt a = r at A ⊢
  go_enter Try.func38, Try.ntmps38
  go_wp2_with fail
  refine (A.out _).mono ?_; rintro e w1 ⟨rfl, g1⟩
  go_wp2_with fail
  go_ret2
  exact ⟨rfl, g1⟩
theorem fl_32 (a b : Nat) (w : World) (ha : a < 18446744073709551616) (hb : b < 18446744073709551616) : Calls Try.prog 38 #[.int .i64 32, .int .u64 a, .int .u64 b] w (Two (Alu.flo 32 a b) w) := by
  have lx := Alu.xor_lt b 9223372036854775808 hb (by omega)
  have A := Lib.hid (fun w => radd_any a (b ^^^ 9223372036854775808) w ha lx)
  have e : bits .xor .u64 (b : Int) 9223372036854775808 = ((b ^^^ 9223372036854775808 : Nat) : Int) := Alu.xor_u64 b 9223372036854775808 hb (by omega)
  have g : Alu.flo 32 a b = (Flo.fAdd a (b ^^^ 9223372036854775808), true) := rfl
  rw [g]
  clear g
  generalize Flo.fAdd a (b ^^^ 9223372036854775808) = r at A ⊢
  generalize b ^^^ 9223372036854775808 = c at A e
  clear lx
  go_enter Try.func38, Try.ntmps38
  go_wp2_with fail
  refine (A.out _).mono ?_; rintro e w1 ⟨rfl, g1⟩
  go_wp2_with fail
  go_ret2
  exact ⟨rfl, g1⟩
theorem fl_37 (a b : Nat) (w : World) (ha : a < 18446744073709551616) (hb : b < 18446744073709551616) : Calls Try.prog 38 #[.int .i64 37, .int .u64 a, .int .u64 b] w (Two (Alu.flo 37 a b) w) := by
  have A := Lib.hid (And.intro (fun w => rless_any a b w ha hb) (And.intro (fun w => rtruth_any true w) (fun w => rtruth_any false w)))
  simp only [if_true, Bool.false_eq_true, if_false] at A
  have g : Alu.flo 37 a b = (if Flo.rLess a b = true then 1 else 0, true) := rfl
  rw [g, two_t]
  clear g
  generalize Flo.rLess a b = t at A ⊢
  rcases t with _ | _
  all_goals
    simp only [if_true, Bool.false_eq_true, if_false]
    go_enter Try.func38, Try.ntmps38
    go_wp2_with fail
    refine (A.out.1 _).mono ?_; rintro e w1 ⟨rfl, g1⟩
    go_wp2_with fail
    refine ((by first | exact A.out.2.1 _ | exact A.out.2.2 _) : Calls _ _ _ _ _).mono ?_; rintro e w' ⟨rfl, rfl⟩
    go_wp2_with fail
    go_ret2
    exact ⟨rfl, g1⟩
theorem fl_38 (a b : Nat) (w : World) (ha : a < 18446744073709551616) (hb : b < 18446744073709551616) : Calls Try.prog 38 #[.int .i64 38, .int .u64 a, .int .u64 b] w (Two (Alu.flo 38 a b) w) := by
  have A := Lib.hid (And.intro (fun w => requal_any a b w ha hb) (And.intro (fun w => rtruth_any true w) (fun w => rtruth_any false w)))
  simp only [if_true, Bool.false_eq_true, if_false] at A
  have g : Alu.flo 38 a b = (if Flo.rEqual a b = true then 1 else 0, true) := rfl
  rw [g, two_t]
  clear g
  generalize Flo.rEqual a b = t at A ⊢
  rcases t with _ | _
  all_goals
    simp only [if_true, Bool.false_eq_true, if_false]
    go_enter Try.func38, Try.ntmps38
    go_wp2_with fail
    refine (A.out.1 _).mono ?_; rintro e w1 ⟨rfl, g1⟩
    go_wp2_with fail
    refine ((by first | exact A.out.2.1 _ | exact A.out.2.2 _) : Calls _ _ _ _ _).mono ?_; rintro e w' ⟨rfl, rfl⟩
    go_wp2_with fail
    go_ret2
    exact ⟨rfl, g1⟩
theorem fl_40 (a b : Nat) (w : World) (ha : a < 18446744073709551616) (hb : b < 18446744073709551616) : Calls Try.prog 38 #[.int .i64 40, .int .u64 a, .int .u64 b] w (Two (Alu.flo 40 a b) w) := by
  have A := Lib.hid (fun w => rtoInt_any a w ha)
  have e := u64_of (Flo.fToInt a)
  have g : Alu.flo 40 a b = ((Flo.fToInt a % 18446744073709551616).toNat, true) := rfl
  rw [g]
  clear g
  generalize (Flo.fToInt a % 18446744073709551616).toNat = r at e ⊢
  generalize Flo.fToInt a = n at A e
  go_enter Try.func38, Try.ntmps38
  go_wp2_with fail
  refine (A.out _).mono ?_; rintro e w1 ⟨rfl, g1⟩
  go_wp2_with fail
  go_ret2
  exact ⟨rfl, g1⟩
theorem fl_41 (a b : Nat) (w : World) (ha : a < 18446744073709551616) (hb : b < 18446744073709551616) : Calls Try.prog 38 #[.int .i64 41, .int .u64 a, .int .u64 b] w (Two (Alu.flo 41 a b) w) := by
  obtain ⟨s1, s2⟩ := sg_i64 a ha
  have A := Lib.hid (fun w => rfromInt_any (Alu.sg a) w s1 s2)
  have e := i64_sg a ha
  have g : Alu.flo 41 a b = (FloatKind.f64.nearest (Alu.sg a), true) := rfl
  rw [g]
  clear g s1 s2
  generalize FloatKind.f64.nearest (Alu.sg a) = r at A ⊢
  generalize Alu.sg a = n at A e
  go_enter Try.func38, Try.ntmps38
  go_wp2_with fail
  refine (A.out _).mono ?_; rintro e w' ⟨rfl, rfl⟩
  go_wp2_with fail
  go_ret2
  exact ⟨rfl, Grown.refl w⟩
theorem fl_42 (a b : Nat) (w : World) (ha : a < 18446744073709551616) (hb : b < 18446744073709551616) : Calls Try.prog 38 #[.int .i64 42, .int .u64 a, .int .u64 b] w (Two (Alu.flo 42 a b) w) := by
  have A := Lib.hid (fun w => rclass_any a w ha)
  have e := u64_cls (Flo.cls a)
  have g : Alu.flo 42 a b = (Flo.cls a % 18446744073709551616, true) := rfl
  rw [g]
  clear g
  generalize Flo.cls a % 18446744073709551616 = r at e ⊢
  generalize Flo.cls a = n at A e
  go_enter Try.func38, Try.ntmps38
  go_wp2_with fail
  refine (A.out _).mono ?_; rintro e w1 ⟨rfl, g1⟩
  go_wp2_with fail
  go_ret2
  exact ⟨rfl, g1⟩
theorem fl_any (op : Int) (a b : Nat) (w : World) (ha : a < 18446744073709551616) (hb : b < 18446744073709551616) : Calls Try.prog 38 #[.int .i64 op, .int .u64 a, .int .u64 b] w (Two (Alu.flo op a b) w) := by
  by_cases h31 : op = 31
  · subst h31; exact fl_31 a b w ha hb
  by_cases h32 : op = 32
  · subst h32; exact fl_32 a b w ha hb
  by_cases h33 : op = 33
  · subst h33; exact fl_33 a b w ha hb
  by_cases h34 : op = 34
  · subst h34; exact fl_34 a b w ha hb
  by_cases h35 : op = 35
  · subst h35; exact fl_35 a b w ha hb
  by_cases h36 : op = 36
  · subst h36; exact fl_36 a b w ha hb
  by_cases h37 : op = 37
  · subst h37; exact fl_37 a b w ha hb
  by_cases h38 : op = 38
  · subst h38; exact fl_38 a b w ha hb
  by_cases h39 : op = 39
  · subst h39; exact fl_39 a b w ha hb
  by_cases h40 : op = 40
  · subst h40; exact fl_40 a b w ha hb
  by_cases h41 : op = 41
  · subst h41; exact fl_41 a b w ha hb
  by_cases h42 : op = 42
  · subst h42; exact fl_42 a b w ha hb
  have g : Alu.flo op a b = (0, false) := by unfold Alu.flo; simp only [h31, h32, h33, h34, h35, h36, h37, h38, h39, h40, h41, h42, if_false]
  replace h31 : (op == 31) = false := by simp [h31]
  replace h32 : (op == 32) = false := by simp [h32]
  replace h33 : (op == 33) = false := by simp [h33]
  replace h34 : (op == 34) = false := by simp [h34]
  replace h35 : (op == 35) = false := by simp [h35]
  replace h36 : (op == 36) = false := by simp [h36]
  replace h37 : (op == 37) = false := by simp [h37]
  replace h38 : (op == 38) = false := by simp [h38]
  replace h39 : (op == 39) = false := by simp [h39]
  replace h40 : (op == 40) = false := by simp [h40]
  replace h41 : (op == 41) = false := by simp [h41]
  replace h42 : (op == 42) = false := by simp [h42]
  rw [g, two_none]
  clear g
  go_enter Try.func38, Try.ntmps38
  go_wp2_with fail
  go_ret2
  exact ⟨rfl, Grown.refl w⟩
set_option maxRecDepth 100000 in
theorem reck_any (op : Int) (a b : Nat) (w : World) (ha : a < 18446744073709551616) (hb : b < 18446744073709551616) : Calls Try.prog 30 #[.int .i64 op, .int .u64 a, .int .u64 b] w (Two (Alu.rk op a b) w) := by
  by_cases h4 : op = 4
  · subst h4; exact rk_4 a b w ha hb
  by_cases h5 : op = 5
  · subst h5; exact rk_5 a b w ha hb
  by_cases h6 : op = 6
  · subst h6; exact rk_6 a b w ha hb
  by_cases h7 : op = 7
  · subst h7; exact rk_7 a b w ha hb
  by_cases h8 : op = 8
  · subst h8; exact rk_8 a b w ha hb
  by_cases h9 : op = 9
  · subst h9; exact rk_9 a b w ha hb
  by_cases h10 : op = 10
  · subst h10; exact rk_10 a b w ha hb
  by_cases h11 : op = 11
  · subst h11; exact rk_11 a b w ha hb
  by_cases h12 : op = 12
  · subst h12; exact rk_12 a b w ha hb
  by_cases h13 : op = 13
  · subst h13; exact rk_13 a b w ha hb
  by_cases h14 : op = 14
  · subst h14; exact rk_14 a b w ha hb
  by_cases h15 : op = 15
  · subst h15; exact rk_15 a b w ha hb
  by_cases h16 : op = 16
  · subst h16; exact rk_16 a b w ha hb
  by_cases h17 : op = 17
  · subst h17; exact rk_17 a b w ha hb
  have g : Alu.rk op a b = Alu.flo op a b := by unfold Alu.rk; simp only [h4, h5, h6, h7, h8, h9, h10, h11, h12, h13, h14, h15, h16, h17, if_false]
  replace h4 : (op == 4) = false := by simp [h4]
  replace h5 : (op == 5) = false := by simp [h5]
  replace h6 : (op == 6) = false := by simp [h6]
  replace h7 : (op == 7) = false := by simp [h7]
  replace h8 : (op == 8) = false := by simp [h8]
  replace h9 : (op == 9) = false := by simp [h9]
  replace h10 : (op == 10) = false := by simp [h10]
  replace h11 : (op == 11) = false := by simp [h11]
  replace h12 : (op == 12) = false := by simp [h12]
  replace h13 : (op == 13) = false := by simp [h13]
  replace h14 : (op == 14) = false := by simp [h14]
  replace h15 : (op == 15) = false := by simp [h15]
  replace h16 : (op == 16) = false := by simp [h16]
  replace h17 : (op == 17) = false := by simp [h17]
  rw [g]
  clear g
  have A := Lib.hid (fun w => fl_any op a b w ha hb)
  generalize Alu.flo op a b = r at A ⊢
  go_enter Try.func30, Try.ntmps30
  go_wp2_with fail
  refine (A.out _).mono ?_; rintro e w1 ⟨rfl, g1⟩
  go_wp2_with fail
  go_ret2
  exact ⟨rfl, g1⟩
end Go.Proofs.Ytojnokaeopadfaa
-- with Yd
namespace Alu
def takes (op : Int) (a b : Nat) : Bool :=
  if op = 25 then decide (a = b)
  else if op = 26 then !decide (a = b)
  else if op = 27 then decide (sg a < sg b)
  else if op = 28 then decide (a < b)
  else false
def width (op : Int) : Int × Bool :=
  if op = 19 then (8, false)
  else if op = 22 then (8, true)
  else if op = 20 then (4, false)
  else if op = 23 then (4, true)
  else if op = 21 then (1, false)
  else if op = 24 then (1, true)
  else (0, false)
/-- The address b + imm, of as many bytes. -/
def place (b : Nat) (imm width : Int) : Int × Bool :=
  if width ≤ 0 ∨ 262144 ≤ ((b : Int) + imm) % 18446744073709551616 ∨ (((b : Int) + imm) % 18446744073709551616) % width ≠ 0 then (0, false)
  else (((b : Int) + imm) % 18446744073709551616, true)
end Alu
namespace Go.Proofs.Ytojnokaeopadfaa
open Go.RowKit
set_option linter.unusedVariables false
set_option linter.unusedSimpArgs false
def TwoI (r : Int × Bool) (w : World) (e : Ending) (w' : World) : Prop := e = .returned (.tuple #[.int .i64 r.1, .bool r.2]) ∧ w = w'
theorem wd_19 (w : World) : Calls Try.prog 27 #[.int .i64 19] w (TwoI (Alu.width 19) w) := by
  go_enter Try.func27, Try.ntmps27
  go_wp2_with fail
  go_ret2
  exact ⟨rfl, rfl⟩
theorem wd_22 (w : World) : Calls Try.prog 27 #[.int .i64 22] w (TwoI (Alu.width 22) w) := by
  go_enter Try.func27, Try.ntmps27
  go_wp2_with fail
  go_ret2
  exact ⟨rfl, rfl⟩
theorem wd_20 (w : World) : Calls Try.prog 27 #[.int .i64 20] w (TwoI (Alu.width 20) w) := by
  go_enter Try.func27, Try.ntmps27
  go_wp2_with fail
  go_ret2
  exact ⟨rfl, rfl⟩
theorem wd_23 (w : World) : Calls Try.prog 27 #[.int .i64 23] w (TwoI (Alu.width 23) w) := by
  go_enter Try.func27, Try.ntmps27
  go_wp2_with fail
  go_ret2
  exact ⟨rfl, rfl⟩
theorem wd_21 (w : World) : Calls Try.prog 27 #[.int .i64 21] w (TwoI (Alu.width 21) w) := by
  go_enter Try.func27, Try.ntmps27
  go_wp2_with fail
  go_ret2
  exact ⟨rfl, rfl⟩
theorem wd_24 (w : World) : Calls Try.prog 27 #[.int .i64 24] w (TwoI (Alu.width 24) w) := by
  go_enter Try.func27, Try.ntmps27
  go_wp2_with fail
  go_ret2
  exact ⟨rfl, rfl⟩
theorem rwidth_any (op : Int) (w : World) : Calls Try.prog 27 #[.int .i64 op] w (TwoI (Alu.width op) w) := by
  by_cases h19 : op = 19
  · subst h19; exact wd_19 w
  by_cases h22 : op = 22
  · subst h22; exact wd_22 w
  by_cases h20 : op = 20
  · subst h20; exact wd_20 w
  by_cases h23 : op = 23
  · subst h23; exact wd_23 w
  by_cases h21 : op = 21
  · subst h21; exact wd_21 w
  by_cases h24 : op = 24
  · subst h24; exact wd_24 w
  have g : Alu.width op = (0, false) := by unfold Alu.width; simp only [h19, h22, h20, h23, h21, h24, if_false]
  replace h19 : (op == 19) = false := by simp [h19]
  replace h22 : (op == 22) = false := by simp [h22]
  replace h20 : (op == 20) = false := by simp [h20]
  replace h23 : (op == 23) = false := by simp [h23]
  replace h21 : (op == 21) = false := by simp [h21]
  replace h24 : (op == 24) = false := by simp [h24]
  rw [g]
  clear g
  go_enter Try.func27, Try.ntmps27
  go_wp2_with fail
  go_ret2
  exact ⟨rfl, rfl⟩
theorem tk_25 (a b : Nat) (w : World) (ha : a < 18446744073709551616) (hb : b < 18446744073709551616) : Calls Try.prog 29 #[.int .i64 25, .int .u64 a, .int .u64 b] w fun e w' => e = .returned (.bool (Alu.takes 25 a b)) ∧ w = w' := by
  have A := Lib.hid (fun w => rbelow_any a b w ha hb)
  obtain ⟨t, ht⟩ : ∃ t, Alu.takes 25 a b = t := ⟨_, rfl⟩
  rw [ht]
  have e : ((a : Int) == b) = t := by rw [← ht]; show _ = decide (a = b); rw [Bool.eq_iff_iff]; simp; try omega
  clear ht
  rcases t with _ | _
  all_goals
    go_enter Try.func29, Try.ntmps29
    go_wp2_with fail
    go_ret
    exact ⟨rfl, rfl⟩
theorem tk_26 (a b : Nat) (w : World) (ha : a < 18446744073709551616) (hb : b < 18446744073709551616) : Calls Try.prog 29 #[.int .i64 26, .int .u64 a, .int .u64 b] w fun e w' => e = .returned (.bool (Alu.takes 26 a b)) ∧ w = w' := by
  have A := Lib.hid (fun w => rbelow_any a b w ha hb)
  obtain ⟨t, ht⟩ : ∃ t, Alu.takes 26 a b = t := ⟨_, rfl⟩
  rw [ht]
  have e : ((a : Int) != b) = t := by rw [← ht]; show _ = !decide (a = b); rw [Bool.eq_iff_iff]; simp; try omega
  clear ht
  rcases t with _ | _
  all_goals
    go_enter Try.func29, Try.ntmps29
    go_wp2_with fail
    go_ret
    exact ⟨rfl, rfl⟩
theorem tk_27 (a b : Nat) (w : World) (ha : a < 18446744073709551616) (hb : b < 18446744073709551616) : Calls Try.prog 29 #[.int .i64 27, .int .u64 a, .int .u64 b] w fun e w' => e = .returned (.bool (Alu.takes 27 a b)) ∧ w = w' := by
  have A := Lib.hid (fun w => rbelow_any a b w ha hb)
  obtain ⟨t, ht⟩ : ∃ t, Alu.takes 27 a b = t := ⟨_, rfl⟩
  rw [ht]
  have e : decide (Alu.sg a < Alu.sg b) = t := by rw [← ht]; show _ = decide (Alu.sg a < Alu.sg b); rfl
  rw [e] at A
  clear ht
  rcases t with _ | _
  all_goals
    go_enter Try.func29, Try.ntmps29
    go_wp2_with fail
    refine (A.out _).mono ?_; rintro e w' ⟨rfl, rfl⟩
    go_wp2_with fail
    go_ret
    exact ⟨rfl, rfl⟩
theorem tk_28 (a b : Nat) (w : World) (ha : a < 18446744073709551616) (hb : b < 18446744073709551616) : Calls Try.prog 29 #[.int .i64 28, .int .u64 a, .int .u64 b] w fun e w' => e = .returned (.bool (Alu.takes 28 a b)) ∧ w = w' := by
  have A := Lib.hid (fun w => rbelow_any a b w ha hb)
  obtain ⟨t, ht⟩ : ∃ t, Alu.takes 28 a b = t := ⟨_, rfl⟩
  rw [ht]
  have e : decide ((a : Int) < b) = t := by rw [← ht]; show _ = decide (a < b); rw [Bool.eq_iff_iff]; simp; try omega
  have e2 : decide (a < b) = t := ht
  clear ht
  rcases t with _ | _
  all_goals
    go_enter Try.func29, Try.ntmps29
    go_wp2_with fail
    go_ret
    exact ⟨rfl, rfl⟩
theorem rtakes_any (op : Int) (a b : Nat) (w : World) (ha : a < 18446744073709551616) (hb : b < 18446744073709551616) : Calls Try.prog 29 #[.int .i64 op, .int .u64 a, .int .u64 b] w fun e w' => e = .returned (.bool (Alu.takes op a b)) ∧ w = w' := by
  by_cases h25 : op = 25
  · subst h25; exact tk_25 a b w ha hb
  by_cases h26 : op = 26
  · subst h26; exact tk_26 a b w ha hb
  by_cases h27 : op = 27
  · subst h27; exact tk_27 a b w ha hb
  by_cases h28 : op = 28
  · subst h28; exact tk_28 a b w ha hb
  have g : Alu.takes op a b = false := by unfold Alu.takes; simp only [h25, h26, h27, h28, if_false]
  replace h25 : (op == 25) = false := by simp [h25]
  replace h26 : (op == 26) = false := by simp [h26]
  replace h27 : (op == 27) = false := by simp [h27]
  replace h28 : (op == 28) = false := by simp [h28]
  rw [g]
  clear g
  go_enter Try.func29, Try.ntmps29
  go_wp2_with fail
  go_ret
  exact ⟨rfl, rfl⟩
theorem rplace_any (b : Nat) (imm width : Int) (w : World) (hb : b < 18446744073709551616) (i1 : -2147483648 ≤ imm) (i2 : imm ≤ 2147483647) :
    Calls Try.prog 28 #[.int .u64 b, .int .i32 imm, .int .i64 width] w (TwoI (Alu.place b imm width) w) := by
  obtain ⟨x, hx⟩ : ∃ x : Int, ((b : Int) + imm) % 18446744073709551616 = x := ⟨_, rfl⟩
  have e1 : RowKit.wrap64 imm = imm := by unfold RowKit.wrap64; omega
  have e2 : IntKind.u64.wrap ((b : Int) + IntKind.u64.wrap imm) = x := by rw [wrap64, wrap64]; omega
  unfold Alu.place
  rw [hx]
  by_cases c1 : width ≤ 0
  · rw [if_pos (.inl c1)]
    clear i1 i2 hx hb
    go_enter Try.func28, Try.ntmps28
    go_wp2_with fail
    go_ret2
    exact ⟨rfl, rfl⟩
  · by_cases c2 : 262144 ≤ x
    · rw [if_pos (.inr (.inl c2))]
      clear i1 i2 hx hb
      go_enter Try.func28, Try.ntmps28
      go_wp2_with fail
      go_ret2
      exact ⟨rfl, rfl⟩
    · have e3 : RowKit.wrap64 x = x := by unfold RowKit.wrap64; omega
      obtain ⟨r, hr⟩ : ∃ r : Int, x % width = r := ⟨_, rfl⟩
      have e4 : x.tmod width = r := by rw [Int.tmod_eq_emod_of_nonneg (by omega), hr]
      have w0 : ¬ width = 0 := by omega
      rw [hr]
      by_cases c3 : r = 0
      · have c4 : (r != 0) = false := by simp [c3]
        rw [if_neg (by rintro (h | h | h) <;> contradiction)]
        clear i1 i2 hx hb hr c3
        go_enter Try.func28, Try.ntmps28
        go_wp2_with fail
        go_ret2
        exact ⟨rfl, rfl⟩
      · have c4 : (r != 0) = true := by simp [c3]
        rw [if_pos (.inr (.inr c3))]
        clear i1 i2 hx hb hr c3
        go_enter Try.func28, Try.ntmps28
        go_wp2_with fail
        go_ret2
        exact ⟨rfl, rfl⟩
end Go.Proofs.Ytojnokaeopadfaa
