import Derived.Test.YtojnokaeopadfaaYb
/- Package alu: quotients and whole numbers. Written by genUb.py. -/
namespace Go.Proofs.Ytojnokaeopadfaa
open Go.RowKit
set_option linter.unusedVariables false
set_option linter.unusedSimpArgs false

theorem sgn_wrap (a : Nat) (ha : a < 18446744073709551616) : IntKind.i64.wrap (a : Int) = Alu.sg a := by
  unfold Alu.sg; simp [IntKind.wrap, IntKind.bits, IntKind.signed]; split <;> split <;> omega
theorem sgn_zero (a : Nat) (ha : a < 18446744073709551616) : Alu.sg a = 0 ↔ a = 0 := by
  unfold Alu.sg; split <;> omega
theorem u64_i64 (n : Int) : IntKind.u64.wrap (IntKind.i64.wrap n) = IntKind.u64.wrap n := by
  simp [IntKind.wrap, IntKind.bits, IntKind.signed]; split <;> omega
theorem truth_any (b : Bool) (w : World) : Calls Try.prog 53 #[.bool b] w fun e w' => e = .returned (.int .u64 (if b then 1 else 0)) ∧ w = w' := by
  cases b
  all_goals
    go_enter Try.func53, Try.ntmps53
    go_wp2_with fail
    go_ret
    exact ⟨rfl, rfl⟩
theorem quot_none (op : Int) (x : Int) (w : World) : Calls Try.prog 39 #[.int .i64 op, .int .i64 x, .int .i64 0] w fun e w' => e = .returned (.tuple #[.int .u64 0, .bool false]) ∧ w = w' := by
  go_enter Try.func39, Try.ntmps39
  go_wp2_with fail
  go_ret2
  exact ⟨rfl, rfl⟩
theorem quot_7 (a b : Nat) (w : World) (ha : a < 18446744073709551616) (hb : b < 18446744073709551616) (z : b ≠ 0) : Calls Try.prog 39 #[.int .i64 7, .int .i64 (Alu.sg a), .int .i64 (Alu.sg b)] w fun e w' => e = .returned (.tuple #[.int .u64 (Alu.quo a b : Nat), .bool true]) ∧ w = w' := by
  have z0 : ¬ Alu.sg b = 0 := fun h => z ((sgn_zero b hb).1 h)
  have q0 : IntKind.u64.wrap (IntKind.i64.wrap ((Alu.sg a).tdiv (Alu.sg b))) = ((Alu.quo a b : Nat) : Int) := by rw [u64_i64, Alu.quo_sg a b ha hb, wrap64]
  generalize Alu.quo a b = r at q0 ⊢
  generalize Alu.sg a = x at q0 ⊢
  generalize Alu.sg b = y at q0 z0 ⊢
  obtain ⟨q, hq⟩ : ∃ q, x.tdiv y = q := ⟨_, rfl⟩
  rw [hq] at q0
  have z1 : (y == 0) = false := by simp [z0]
  have q2 : IntKind.u64.wrap (RowKit.wrap64 q) = (r : Int) := by rw [← q0, u64_i64, wrap64, wrap64]; unfold RowKit.wrap64; omega
  have q3 : IntKind.u64.wrap q = (r : Int) := by rw [← q0, u64_i64]
  clear ha hb z
  go_enter Try.func39, Try.ntmps39
  go_wp2_with fail
  try rw [q2]
  try rw [q3]
  go_ret2
  exact ⟨rfl, rfl⟩
theorem quot_8 (a b : Nat) (w : World) (ha : a < 18446744073709551616) (hb : b < 18446744073709551616) (z : b ≠ 0) : Calls Try.prog 39 #[.int .i64 8, .int .i64 (Alu.sg a), .int .i64 (Alu.sg b)] w fun e w' => e = .returned (.tuple #[.int .u64 (Alu.rem a b : Nat), .bool true]) ∧ w = w' := by
  have z0 : ¬ Alu.sg b = 0 := fun h => z ((sgn_zero b hb).1 h)
  have q0 : IntKind.u64.wrap (IntKind.i64.wrap ((Alu.sg a).tmod (Alu.sg b))) = ((Alu.rem a b : Nat) : Int) := by rw [u64_i64, Alu.rem_sg a b ha hb, wrap64]
  generalize Alu.rem a b = r at q0 ⊢
  generalize Alu.sg a = x at q0 ⊢
  generalize Alu.sg b = y at q0 z0 ⊢
  obtain ⟨q, hq⟩ : ∃ q, x.tmod y = q := ⟨_, rfl⟩
  rw [hq] at q0
  have z1 : (y == 0) = false := by simp [z0]
  have q2 : IntKind.u64.wrap (RowKit.wrap64 q) = (r : Int) := by rw [← q0, u64_i64, wrap64, wrap64]; unfold RowKit.wrap64; omega
  have q3 : IntKind.u64.wrap q = (r : Int) := by rw [← q0, u64_i64]
  clear ha hb z
  go_enter Try.func39, Try.ntmps39
  go_wp2_with fail
  try rw [q2]
  try rw [q3]
  go_ret2
  exact ⟨rfl, rfl⟩
theorem wh_4 (a b : Nat) (w : World) (ha : a < 18446744073709551616) (hb : b < 18446744073709551616) : Calls Try.prog 40 #[.int .i64 4, .int .u64 a, .int .u64 b] w fun e w' => e = .returned (.int .u64 ((Alu.rk 4 a b).1 : Nat)) ∧ w = w' := by
  have e : IntKind.u64.wrap ((a : Int) + b) = (((a + b) % 18446744073709551616 : Nat) : Int) := by rw [wrap64]; omega
  show Calls Try.prog 40 #[.int .i64 4, .int .u64 a, .int .u64 b] w fun e w' => e = .returned (.int .u64 (((a + b) % 18446744073709551616 : Nat) : Int)) ∧ w = w'
  generalize (a + b) % 18446744073709551616 = r at e ⊢
  clear ha hb
  go_enter Try.func40, Try.ntmps40
  go_wp2_with fail
  go_ret
  exact ⟨rfl, rfl⟩
theorem wh_5 (a b : Nat) (w : World) (ha : a < 18446744073709551616) (hb : b < 18446744073709551616) : Calls Try.prog 40 #[.int .i64 5, .int .u64 a, .int .u64 b] w fun e w' => e = .returned (.int .u64 ((Alu.rk 5 a b).1 : Nat)) ∧ w = w' := by
  have e : IntKind.u64.wrap ((a : Int) - b) = (((a + (18446744073709551616 - b)) % 18446744073709551616 : Nat) : Int) := by rw [wrap64]; omega
  show Calls Try.prog 40 #[.int .i64 5, .int .u64 a, .int .u64 b] w fun e w' => e = .returned (.int .u64 (((a + (18446744073709551616 - b)) % 18446744073709551616 : Nat) : Int)) ∧ w = w'
  generalize (a + (18446744073709551616 - b)) % 18446744073709551616 = r at e ⊢
  clear ha hb
  go_enter Try.func40, Try.ntmps40
  go_wp2_with fail
  go_ret
  exact ⟨rfl, rfl⟩
theorem wh_6 (a b : Nat) (w : World) (ha : a < 18446744073709551616) (hb : b < 18446744073709551616) : Calls Try.prog 40 #[.int .i64 6, .int .u64 a, .int .u64 b] w fun e w' => e = .returned (.int .u64 ((Alu.rk 6 a b).1 : Nat)) ∧ w = w' := by
  have e : IntKind.u64.wrap ((a : Int) * b) = ((a * b % 18446744073709551616 : Nat) : Int) := by rw [wrap64, ← Int.natCast_mul]; generalize a * b = p; omega
  show Calls Try.prog 40 #[.int .i64 6, .int .u64 a, .int .u64 b] w fun e w' => e = .returned (.int .u64 ((a * b % 18446744073709551616 : Nat) : Int)) ∧ w = w'
  generalize a * b % 18446744073709551616 = r at e ⊢
  clear ha hb
  go_enter Try.func40, Try.ntmps40
  go_wp2_with fail
  go_ret
  exact ⟨rfl, rfl⟩
theorem wh_9 (a b : Nat) (w : World) (ha : a < 18446744073709551616) (hb : b < 18446744073709551616) : Calls Try.prog 40 #[.int .i64 9, .int .u64 a, .int .u64 b] w fun e w' => e = .returned (.int .u64 ((Alu.rk 9 a b).1 : Nat)) ∧ w = w' := by
  have e : bits .and .u64 (a : Int) b = ((a &&& b : Nat) : Int) := by exact Alu.and_u64 a b ha hb
  show Calls Try.prog 40 #[.int .i64 9, .int .u64 a, .int .u64 b] w fun e w' => e = .returned (.int .u64 ((a &&& b : Nat) : Int)) ∧ w = w'
  generalize a &&& b = r at e ⊢
  clear ha hb
  go_enter Try.func40, Try.ntmps40
  go_wp2_with fail
  go_ret
  exact ⟨rfl, rfl⟩
theorem wh_10 (a b : Nat) (w : World) (ha : a < 18446744073709551616) (hb : b < 18446744073709551616) : Calls Try.prog 40 #[.int .i64 10, .int .u64 a, .int .u64 b] w fun e w' => e = .returned (.int .u64 ((Alu.rk 10 a b).1 : Nat)) ∧ w = w' := by
  have e : bits .or .u64 (a : Int) b = ((a ||| b : Nat) : Int) := by exact Alu.or_u64 a b ha hb
  show Calls Try.prog 40 #[.int .i64 10, .int .u64 a, .int .u64 b] w fun e w' => e = .returned (.int .u64 ((a ||| b : Nat) : Int)) ∧ w = w'
  generalize a ||| b = r at e ⊢
  clear ha hb
  go_enter Try.func40, Try.ntmps40
  go_wp2_with fail
  go_ret
  exact ⟨rfl, rfl⟩
theorem wh_11 (a b : Nat) (w : World) (ha : a < 18446744073709551616) (hb : b < 18446744073709551616) : Calls Try.prog 40 #[.int .i64 11, .int .u64 a, .int .u64 b] w fun e w' => e = .returned (.int .u64 ((Alu.rk 11 a b).1 : Nat)) ∧ w = w' := by
  have e : bits .xor .u64 (a : Int) b = ((a ^^^ b : Nat) : Int) := by exact Alu.xor_u64 a b ha hb
  show Calls Try.prog 40 #[.int .i64 11, .int .u64 a, .int .u64 b] w fun e w' => e = .returned (.int .u64 ((a ^^^ b : Nat) : Int)) ∧ w = w'
  generalize a ^^^ b = r at e ⊢
  clear ha hb
  go_enter Try.func40, Try.ntmps40
  go_wp2_with fail
  go_ret
  exact ⟨rfl, rfl⟩
theorem mod6 (b : Nat) : (b : Int).tmod 64 = ((b % 64 : Nat) : Int) := by rw [Int.tmod_eq_emod_of_nonneg (by omega)]; omega
theorem sar_run (a n : Nat) (ha : a < 18446744073709551616) (hn : n < 64) : Op.shift BinOp.shr .i64 (Alu.sg a) .u64 (n : Int) = pure (.int .i64 (Alu.sg a / 2 ^ n)) := by
  rw [shift_shr .i64 .u64 (Alu.sg a) (n : Int) (by omega) (by simp [IntKind.bits]; omega)]
  rw [Int.toNat_natCast]
theorem wh_12 (a b : Nat) (w : World) (ha : a < 18446744073709551616) (hb : b < 18446744073709551616) : Calls Try.prog 40 #[.int .i64 12, .int .u64 a, .int .u64 b] w fun e w' => e = .returned (.int .u64 ((Alu.rk 12 a b).1 : Nat)) ∧ w = w' := by
  obtain ⟨n, hn⟩ : ∃ n, b % 64 = n := ⟨_, rfl⟩
  have n64 : n < 64 := by omega
  have e := mod6 b
  have e' : (b : Int) % 64 = ((b % 64 : Nat) : Int) := by omega
  have f := shl_run a n n64
  have f2 : IntKind.u64.wrap ((a : Int) * 2 ^ n) = ((Alu.shl a n : Nat) : Int) := by
    have f0 : (a : Int) * 2 ^ n = ((a * 2 ^ n : Nat) : Int) := by push_cast; rfl
    rw [f0, wrap64]; unfold Alu.shl; generalize a * 2 ^ n = p; omega
  rw [hn] at e e'
  show Calls Try.prog 40 #[.int .i64 12, .int .u64 a, .int .u64 b] w fun e w' => e = .returned (.int .u64 ((Alu.shl a (b % 64) : Nat) : Int)) ∧ w = w'
  rw [hn]
  generalize Alu.shl a n = r at f f2 ⊢
  clear ha hb hn
  go_enter Try.func40, Try.ntmps40
  go_wp2_with fail
  go_ret
  exact ⟨rfl, rfl⟩
theorem wh_13 (a b : Nat) (w : World) (ha : a < 18446744073709551616) (hb : b < 18446744073709551616) : Calls Try.prog 40 #[.int .i64 13, .int .u64 a, .int .u64 b] w fun e w' => e = .returned (.int .u64 ((Alu.rk 13 a b).1 : Nat)) ∧ w = w' := by
  obtain ⟨n, hn⟩ : ∃ n, b % 64 = n := ⟨_, rfl⟩
  have n64 : n < 64 := by omega
  have e := mod6 b
  have e' : (b : Int) % 64 = ((b % 64 : Nat) : Int) := by omega
  have f := shr_run a n n64
  have f2 : (a : Int) / 2 ^ n = ((Alu.shr a n : Nat) : Int) := by
    unfold Alu.shr; push_cast; rfl
  rw [hn] at e e'
  show Calls Try.prog 40 #[.int .i64 13, .int .u64 a, .int .u64 b] w fun e w' => e = .returned (.int .u64 ((Alu.shr a (b % 64) : Nat) : Int)) ∧ w = w'
  rw [hn]
  generalize Alu.shr a n = r at f f2 ⊢
  clear ha hb hn
  go_enter Try.func40, Try.ntmps40
  go_wp2_with fail
  go_ret
  exact ⟨rfl, rfl⟩
theorem wh_14 (a b : Nat) (w : World) (ha : a < 18446744073709551616) (hb : b < 18446744073709551616) : Calls Try.prog 40 #[.int .i64 14, .int .u64 a, .int .u64 b] w fun e w' => e = .returned (.int .u64 ((Alu.rk 14 a b).1 : Nat)) ∧ w = w' := by
  obtain ⟨n, hn⟩ : ∃ n, b % 64 = n := ⟨_, rfl⟩
  have n64 : n < 64 := by omega
  have e := mod6 b
  have e' : (b : Int) % 64 = ((b % 64 : Nat) : Int) := by omega
  have f := sar_run a n ha n64
  have s := sgn_wrap a ha
  have u : IntKind.u64.wrap (Alu.sg a / 2 ^ n) = ((Alu.sar a n : Nat) : Int) := by rw [Alu.sar_sg a n ha, wrap64]
  rw [hn] at e e'
  show Calls Try.prog 40 #[.int .i64 14, .int .u64 a, .int .u64 b] w fun e w' => e = .returned (.int .u64 ((Alu.sar a (b % 64) : Nat) : Int)) ∧ w = w'
  rw [hn]
  generalize Alu.sar a n = r at u ⊢
  generalize Alu.sg a = x at f s u
  clear ha hb hn
  go_enter Try.func40, Try.ntmps40
  go_wp2_with fail
  go_ret
  exact ⟨rfl, rfl⟩
theorem wh_15 (a b : Nat) (w : World) (ha : a < 18446744073709551616) (hb : b < 18446744073709551616) : Calls Try.prog 40 #[.int .i64 15, .int .u64 a, .int .u64 b] w fun e w' => e = .returned (.int .u64 ((Alu.rk 15 a b).1 : Nat)) ∧ w = w' := by
  have A := Lib.hid (And.intro (fun w => truth_any true w) (fun w => truth_any false w))
  simp only [if_true, Bool.false_eq_true, if_false] at A
  show Calls Try.prog 40 #[.int .i64 15, .int .u64 a, .int .u64 b] w fun e w' => e = .returned (.int .u64 ((if Alu.sg a < Alu.sg b then 1 else 0 : Nat) : Int)) ∧ w = w'
  have s1 := sgn_wrap a ha
  have s2 := sgn_wrap b hb
  generalize Alu.sg a = x at s1 ⊢
  generalize Alu.sg b = y at s2 ⊢
  clear ha hb
  by_cases h : x < y
  · rw [if_pos h]
    have d : decide (x < y) = true := by simp [h]
    clear h
    go_enter Try.func40, Try.ntmps40
    go_wp2_with fail
    refine ((A.out.1 _) : Calls _ _ _ _ _).mono ?_; rintro e w' ⟨rfl, rfl⟩
    go_wp2_with fail
    go_ret
    exact ⟨rfl, rfl⟩
  · rw [if_neg h]
    have d : decide (x < y) = false := by simp [h]
    clear h
    go_enter Try.func40, Try.ntmps40
    go_wp2_with fail
    refine ((A.out.2 _) : Calls _ _ _ _ _).mono ?_; rintro e w' ⟨rfl, rfl⟩
    go_wp2_with fail
    go_ret
    exact ⟨rfl, rfl⟩
theorem wh_16 (a b : Nat) (w : World) (ha : a < 18446744073709551616) (hb : b < 18446744073709551616) : Calls Try.prog 40 #[.int .i64 16, .int .u64 a, .int .u64 b] w fun e w' => e = .returned (.int .u64 ((Alu.rk 16 a b).1 : Nat)) ∧ w = w' := by
  have A := Lib.hid (And.intro (fun w => truth_any true w) (fun w => truth_any false w))
  simp only [if_true, Bool.false_eq_true, if_false] at A
  show Calls Try.prog 40 #[.int .i64 16, .int .u64 a, .int .u64 b] w fun e w' => e = .returned (.int .u64 ((if a < b then 1 else 0 : Nat) : Int)) ∧ w = w'
  clear ha hb
  by_cases h : a < b
  · rw [if_pos h]
    have d : decide ((a : Int) < b) = true := by simp [h]
    have d2 : decide (a < b) = true := by simp [h]
    clear h
    go_enter Try.func40, Try.ntmps40
    go_wp2_with fail
    refine ((A.out.1 _) : Calls _ _ _ _ _).mono ?_; rintro e w' ⟨rfl, rfl⟩
    go_wp2_with fail
    go_ret
    exact ⟨rfl, rfl⟩
  · rw [if_neg h]
    have d : decide ((a : Int) < b) = false := by simp; omega
    have d2 : decide (a < b) = false := by simp; omega
    clear h
    go_enter Try.func40, Try.ntmps40
    go_wp2_with fail
    refine ((A.out.2 _) : Calls _ _ _ _ _).mono ?_; rintro e w' ⟨rfl, rfl⟩
    go_wp2_with fail
    go_ret
    exact ⟨rfl, rfl⟩
theorem wh_17 (a b : Nat) (w : World) (ha : a < 18446744073709551616) (hb : b < 18446744073709551616) : Calls Try.prog 40 #[.int .i64 17, .int .u64 a, .int .u64 b] w fun e w' => e = .returned (.int .u64 ((Alu.rk 17 a b).1 : Nat)) ∧ w = w' := by
  have A := Lib.hid (And.intro (fun w => truth_any true w) (fun w => truth_any false w))
  simp only [if_true, Bool.false_eq_true, if_false] at A
  show Calls Try.prog 40 #[.int .i64 17, .int .u64 a, .int .u64 b] w fun e w' => e = .returned (.int .u64 ((if a = b then 1 else 0 : Nat) : Int)) ∧ w = w'
  clear ha hb
  by_cases h : a = b
  · rw [if_pos h]
    have d : ((a : Int) == b) = true := by simp [h]
    clear h
    go_enter Try.func40, Try.ntmps40
    go_wp2_with fail
    refine ((A.out.1 _) : Calls _ _ _ _ _).mono ?_; rintro e w' ⟨rfl, rfl⟩
    go_wp2_with fail
    go_ret
    exact ⟨rfl, rfl⟩
  · rw [if_neg h]
    have d : ((a : Int) == b) = false := by simp; omega
    clear h
    go_enter Try.func40, Try.ntmps40
    go_wp2_with fail
    refine ((A.out.2 _) : Calls _ _ _ _ _).mono ?_; rintro e w' ⟨rfl, rfl⟩
    go_wp2_with fail
    go_ret
    exact ⟨rfl, rfl⟩
theorem whole_any (op : Int) (a b : Nat) (w : World) (ha : a < 18446744073709551616) (hb : b < 18446744073709551616) (l : 4 ≤ op) (u : op ≤ 17) (h7 : op ≠ 7) (h8 : op ≠ 8) : Calls Try.prog 40 #[.int .i64 op, .int .u64 a, .int .u64 b] w fun e w' => e = .returned (.int .u64 ((Alu.rk op a b).1 : Nat)) ∧ w = w' := by
  have c : op = 4 ∨ op = 5 ∨ op = 6 ∨ op = 9 ∨ op = 10 ∨ op = 11 ∨ op = 12 ∨ op = 13 ∨ op = 14 ∨ op = 15 ∨ op = 16 ∨ op = 17 := by omega
  rcases c with rfl | rfl | rfl | rfl | rfl | rfl | rfl | rfl | rfl | rfl | rfl | rfl
  · exact wh_4 a b w ha hb
  · exact wh_5 a b w ha hb
  · exact wh_6 a b w ha hb
  · exact wh_9 a b w ha hb
  · exact wh_10 a b w ha hb
  · exact wh_11 a b w ha hb
  · exact wh_12 a b w ha hb
  · exact wh_13 a b w ha hb
  · exact wh_14 a b w ha hb
  · exact wh_15 a b w ha hb
  · exact wh_16 a b w ha hb
  · exact wh_17 a b w ha hb
theorem rk_true (op : Int) (a b : Nat) (l : 4 ≤ op) (u : op ≤ 17) (h7 : op ≠ 7) (h8 : op ≠ 8) : (Alu.rk op a b).2 = true := by
  have c : op = 4 ∨ op = 5 ∨ op = 6 ∨ op = 9 ∨ op = 10 ∨ op = 11 ∨ op = 12 ∨ op = 13 ∨ op = 14 ∨ op = 15 ∨ op = 16 ∨ op = 17 := by omega
  rcases c with rfl | rfl | rfl | rfl | rfl | rfl | rfl | rfl | rfl | rfl | rfl | rfl
  all_goals rfl
end Go.Proofs.Ytojnokaeopadfaa
-- with Uc
namespace Go.Proofs.Ytojnokaeopadfaa
open Go.RowKit
set_option linter.unusedVariables false
set_option linter.unusedSimpArgs false

theorem flo_sub (a b : Nat) (hb : b < 18446744073709551616) : (Alu.flo 32 a b).1 = Flo.fSub a b := by
  show Flo.fAdd a (b ^^^ 9223372036854775808) = Flo.fSub a b
  rw [Flo.sub_neg hb]
theorem fo_31 (a b : Nat) (w : World) (ha : a < 18446744073709551616) (hb : b < 18446744073709551616) : Calls Try.prog 41 #[.int .i64 31, .int .u64 a, .int .u64 b] w (Gives (.int .u64 ((Alu.flo 31 a b).1 : Nat)) w) := by
  have A := Lib.hid (fun w => addG a b w)
  have g : (Alu.flo 31 a b).1 = Flo.fAdd a b := rfl
  rw [g]
  clear g
  generalize Flo.fAdd a b = r at A ⊢
  clear ha hb
  go_enter Try.func41, Try.ntmps41
  go_wp2_with fail
  refine (A.out _).mono ?_; rintro e w1 ⟨rfl, g1⟩
  go_wp2_with fail
  go_ret
  exact ⟨rfl, g1⟩
theorem fo_32 (a b : Nat) (w : World) (ha : a < 18446744073709551616) (hb : b < 18446744073709551616) : Calls Try.prog 41 #[.int .i64 32, .int .u64 a, .int .u64 b] w (Gives (.int .u64 ((Alu.flo 32 a b).1 : Nat)) w) := by
  have A := Lib.hid (fun w => subG a b w)
  have g : (Alu.flo 32 a b).1 = Flo.fSub a b := flo_sub a b hb
  rw [g]
  clear g
  generalize Flo.fSub a b = r at A ⊢
  clear ha hb
  go_enter Try.func41, Try.ntmps41
  go_wp2_with fail
  refine (A.out _).mono ?_; rintro e w1 ⟨rfl, g1⟩
  go_wp2_with fail
  go_ret
  exact ⟨rfl, g1⟩
theorem fo_33 (a b : Nat) (w : World) (ha : a < 18446744073709551616) (hb : b < 18446744073709551616) : Calls Try.prog 41 #[.int .i64 33, .int .u64 a, .int .u64 b] w (Gives (.int .u64 ((Alu.flo 33 a b).1 : Nat)) w) := by
  have A := Lib.hid (fun w => mulG a b w)
  have g : (Alu.flo 33 a b).1 = Flo.fMul a b := rfl
  rw [g]
  clear g
  generalize Flo.fMul a b = r at A ⊢
  clear ha hb
  go_enter Try.func41, Try.ntmps41
  go_wp2_with fail
  refine (A.out _).mono ?_; rintro e w1 ⟨rfl, g1⟩
  go_wp2_with fail
  go_ret
  exact ⟨rfl, g1⟩
theorem fo_34 (a b : Nat) (w : World) (ha : a < 18446744073709551616) (hb : b < 18446744073709551616) : Calls Try.prog 41 #[.int .i64 34, .int .u64 a, .int .u64 b] w (Gives (.int .u64 ((Alu.flo 34 a b).1 : Nat)) w) := by
  have A := Lib.hid (fun w => divG a b w)
  have g : (Alu.flo 34 a b).1 = Flo.fDiv a b := rfl
  rw [g]
  clear g
  generalize Flo.fDiv a b = r at A ⊢
  clear ha hb
  go_enter Try.func41, Try.ntmps41
  go_wp2_with fail
  refine (A.out _).mono ?_; rintro e w1 ⟨rfl, g1⟩
  go_wp2_with fail
  go_ret
  exact ⟨rfl, g1⟩
theorem fo_39 (a b : Nat) (w : World) (ha : a < 18446744073709551616) (hb : b < 18446744073709551616) : Calls Try.prog 41 #[.int .i64 39, .int .u64 a, .int .u64 b] w (Gives (.int .u64 ((Alu.flo 39 a b).1 : Nat)) w) := by
  have A := Lib.hid (fun w => sqrtG a w)
  have g : (Alu.flo 39 a b).1 = Flo.fSqrt a := rfl
  rw [g]
  clear g
  generalize Flo.fSqrt a = r at A ⊢
  clear ha hb
  go_enter Try.func41, Try.ntmps41
  go_wp2_with fail
  refine (A.out _).mono ?_; rintro e w1 ⟨rfl, g1⟩
  go_wp2_with fail
  go_ret
  exact ⟨rfl, g1⟩
theorem fo_35 (a b : Nat) (w : World) (ha : a < 18446744073709551616) (hb : b < 18446744073709551616) : Calls Try.prog 41 #[.int .i64 35, .int .u64 a, .int .u64 b] w (Gives (.int .u64 ((Alu.flo 35 a b).1 : Nat)) w) := by
  have A := Lib.hid (fun w => min_any a b w ha hb)
  have g : (Alu.flo 35 a b).1 = Flo.fMin a b := by rw [Flo.min_eq ha hb]; rfl
  rw [g]
  clear g
  generalize Flo.fMin a b = r at A ⊢
  clear ha hb
  go_enter Try.func41, Try.ntmps41
  go_wp2_with fail
  refine (A.out _).mono ?_; rintro e w' ⟨rfl, rfl⟩
  go_wp2_with fail
  go_ret
  exact ⟨rfl, Grown.refl w⟩
theorem fo_36 (a b : Nat) (w : World) (ha : a < 18446744073709551616) (hb : b < 18446744073709551616) : Calls Try.prog 41 #[.int .i64 36, .int .u64 a, .int .u64 b] w (Gives (.int .u64 ((Alu.flo 36 a b).1 : Nat)) w) := by
  have A := Lib.hid (fun w => max_any a b w ha hb)
  have g : (Alu.flo 36 a b).1 = Flo.fMax a b := by rw [Flo.max_eq ha hb]; rfl
  rw [g]
  clear g
  generalize Flo.fMax a b = r at A ⊢
  clear ha hb
  go_enter Try.func41, Try.ntmps41
  go_wp2_with fail
  refine (A.out _).mono ?_; rintro e w' ⟨rfl, rfl⟩
  go_wp2_with fail
  go_ret
  exact ⟨rfl, Grown.refl w⟩
theorem fo_37 (a b : Nat) (w : World) (ha : a < 18446744073709551616) (hb : b < 18446744073709551616) : Calls Try.prog 41 #[.int .i64 37, .int .u64 a, .int .u64 b] w (Gives (.int .u64 ((Alu.flo 37 a b).1 : Nat)) w) := by
  have A := Lib.hid (And.intro (fun w => less_any a b w) (And.intro (fun w => truth_any true w) (fun w => truth_any false w)))
  have q : (Ieee.double.order a b == some .lt) = Flo.rLess a b := Flo.order_less a b
  rw [q] at A
  simp only [if_true, Bool.false_eq_true, if_false] at A
  have g : (Alu.flo 37 a b).1 = if Flo.rLess a b = true then 1 else 0 := rfl
  rw [g]
  clear g q ha hb
  generalize Flo.rLess a b = t at A ⊢
  rcases t with _ | _
  all_goals
    simp only [if_true, Bool.false_eq_true, if_false]
    go_enter Try.func41, Try.ntmps41
    go_wp2_with fail
    refine (A.out.1 _).mono ?_; rintro e w' ⟨rfl, rfl⟩
    go_wp2_with fail
    refine ((by first | exact A.out.2.1 _ | exact A.out.2.2 _) : Calls _ _ _ _ _).mono ?_; rintro e w' ⟨rfl, rfl⟩
    go_wp2_with fail
    go_ret
    exact ⟨rfl, Grown.refl w⟩
theorem fo_38 (a b : Nat) (w : World) (ha : a < 18446744073709551616) (hb : b < 18446744073709551616) : Calls Try.prog 41 #[.int .i64 38, .int .u64 a, .int .u64 b] w (Gives (.int .u64 ((Alu.flo 38 a b).1 : Nat)) w) := by
  have A := Lib.hid (And.intro (fun w => equal_any a b w) (And.intro (fun w => truth_any true w) (fun w => truth_any false w)))
  have q : (Ieee.double.order a b == some .eq) = Flo.rEqual a b := Flo.order_equal a b
  rw [q] at A
  simp only [if_true, Bool.false_eq_true, if_false] at A
  have g : (Alu.flo 38 a b).1 = if Flo.rEqual a b = true then 1 else 0 := rfl
  rw [g]
  clear g q ha hb
  generalize Flo.rEqual a b = t at A ⊢
  rcases t with _ | _
  all_goals
    simp only [if_true, Bool.false_eq_true, if_false]
    go_enter Try.func41, Try.ntmps41
    go_wp2_with fail
    refine (A.out.1 _).mono ?_; rintro e w' ⟨rfl, rfl⟩
    go_wp2_with fail
    refine ((by first | exact A.out.2.1 _ | exact A.out.2.2 _) : Calls _ _ _ _ _).mono ?_; rintro e w' ⟨rfl, rfl⟩
    go_wp2_with fail
    go_ret
    exact ⟨rfl, Grown.refl w⟩
theorem fo_40 (a b : Nat) (w : World) (ha : a < 18446744073709551616) (hb : b < 18446744073709551616) : Calls Try.prog 41 #[.int .i64 40, .int .u64 a, .int .u64 b] w (Gives (.int .u64 ((Alu.flo 40 a b).1 : Nat)) w) := by
  have A := Lib.hid (fun w => toInt_any a w ha)
  have e : IntKind.u64.wrap (Flo.fToInt a) = (((Flo.fToInt a % 18446744073709551616).toNat : Nat) : Int) := by rw [wrap64]; omega
  have g : (Alu.flo 40 a b).1 = (Flo.fToInt a % 18446744073709551616).toNat := rfl
  rw [g]
  clear g ha hb
  generalize (Flo.fToInt a % 18446744073709551616).toNat = r at e ⊢
  generalize Flo.fToInt a = n at A e
  go_enter Try.func41, Try.ntmps41
  go_wp2_with fail
  refine (A.out _).mono ?_; rintro e w' ⟨rfl, rfl⟩
  go_wp2_with fail
  go_ret
  exact ⟨rfl, Grown.refl w⟩
theorem fo_41 (a b : Nat) (w : World) (ha : a < 18446744073709551616) (hb : b < 18446744073709551616) : Calls Try.prog 41 #[.int .i64 41, .int .u64 a, .int .u64 b] w (Gives (.int .u64 ((Alu.flo 41 a b).1 : Nat)) w) := by
  have A := Lib.hid (fun w => fromInt_any (Alu.sg a) w)
  have e := sgn_wrap a ha
  have g : (Alu.flo 41 a b).1 = FloatKind.f64.nearest (Alu.sg a) := rfl
  rw [g]
  clear g ha hb
  generalize FloatKind.f64.nearest (Alu.sg a) = r at A ⊢
  generalize Alu.sg a = n at A e
  go_enter Try.func41, Try.ntmps41
  go_wp2_with fail
  refine (A.out _).mono ?_; rintro e w' ⟨rfl, rfl⟩
  go_wp2_with fail
  go_ret
  exact ⟨rfl, Grown.refl w⟩
theorem fo_42 (a b : Nat) (w : World) (ha : a < 18446744073709551616) (hb : b < 18446744073709551616) : Calls Try.prog 41 #[.int .i64 42, .int .u64 a, .int .u64 b] w (Gives (.int .u64 ((Alu.flo 42 a b).1 : Nat)) w) := by
  have A := Lib.hid (fun w => class_any a w ha)
  have e : IntKind.u64.wrap (Flo.cls a : Int) = ((Flo.cls a % 18446744073709551616 : Nat) : Int) := by rw [wrap64]; omega
  have g : (Alu.flo 42 a b).1 = Flo.cls a % 18446744073709551616 := rfl
  rw [g]
  clear g ha hb
  generalize Flo.cls a % 18446744073709551616 = r at e ⊢
  generalize Flo.cls a = n at A e
  go_enter Try.func41, Try.ntmps41
  go_wp2_with fail
  refine (A.out _).mono ?_; rintro e w' ⟨rfl, rfl⟩
  go_wp2_with fail
  go_ret
  exact ⟨rfl, Grown.refl w⟩
theorem floating_any (op : Int) (a b : Nat) (w : World) (ha : a < 18446744073709551616) (hb : b < 18446744073709551616) (l : 31 ≤ op) (u : op ≤ 42) : Calls Try.prog 41 #[.int .i64 op, .int .u64 a, .int .u64 b] w (Gives (.int .u64 ((Alu.flo op a b).1 : Nat)) w) := by
  have c : op = 31 ∨ op = 32 ∨ op = 33 ∨ op = 34 ∨ op = 35 ∨ op = 36 ∨ op = 37 ∨ op = 38 ∨ op = 39 ∨ op = 40 ∨ op = 41 ∨ op = 42 := by omega
  rcases c with rfl | rfl | rfl | rfl | rfl | rfl | rfl | rfl | rfl | rfl | rfl | rfl
  · exact fo_31 a b w ha hb
  · exact fo_32 a b w ha hb
  · exact fo_33 a b w ha hb
  · exact fo_34 a b w ha hb
  · exact fo_35 a b w ha hb
  · exact fo_36 a b w ha hb
  · exact fo_37 a b w ha hb
  · exact fo_38 a b w ha hb
  · exact fo_39 a b w ha hb
  · exact fo_40 a b w ha hb
  · exact fo_41 a b w ha hb
  · exact fo_42 a b w ha hb
theorem flo_true (op : Int) (a b : Nat) (l : 31 ≤ op) (u : op ≤ 42) : (Alu.flo op a b).2 = true := by
  have c : op = 31 ∨ op = 32 ∨ op = 33 ∨ op = 34 ∨ op = 35 ∨ op = 36 ∨ op = 37 ∨ op = 38 ∨ op = 39 ∨ op = 40 ∨ op = 41 ∨ op = 42 := by omega
  rcases c with rfl | rfl | rfl | rfl | rfl | rfl | rfl | rfl | rfl | rfl | rfl | rfl
  all_goals rfl
end Go.Proofs.Ytojnokaeopadfaa
