import Derived.Test.YtojnokaeopadfaaYa
import Derived.Test.YtojnokaeopadfaaFh
import Derived.Test.YtojnokaeopadfaaRows
import Derived.WalkKit
import Derived.Lib.Walk
import Derived.Lib.Hide
import Derived.BigCall
import Derived.BigGuard
import Derived.IntWalk
/- What glacisref05 answers: whole numbers. Written by genYb.py. -/
namespace Go.Proofs.Ytojnokaeopadfaa
open Go.RowKit
set_option linter.unusedVariables false
set_option linter.unusedSimpArgs false

/-- A number and whether there is one. -/
def Two (r : Nat × Bool) (w : World) (e : Ending) (w' : World) : Prop := e = .returned (.tuple #[.int .u64 (r.1 : Nat), .bool r.2]) ∧ Grown w w'
theorem two_none (w : World) : Two (0, false) w = fun e w' => e = .returned (.tuple #[.int .u64 0, .bool false]) ∧ Grown w w' := rfl
theorem two_t (t : Bool) (w : World) : Two (if t = true then 1 else 0, true) w = fun e w' => e = .returned (.tuple #[.int .u64 (if t = true then 1 else 0), .bool true]) ∧ Grown w w' := by cases t <;> rfl
theorem low6 (b : Nat) (hb : b < 18446744073709551616) : bits .and .u64 (b : Int) 63 = ((b % 64 : Nat) : Int) := by
  rw [show (63 : Int) = ((63 : Nat) : Int) from rfl, Alu.and_u64 b 63 hb (by omega), show 63 = 2 ^ 6 - 1 from rfl, Nat.and_two_pow_sub_one_eq_mod]
theorem top1 (a : Nat) (ha : a < 18446744073709551616) : ((a : Int) / 9223372036854775808 == 1) = Alu.ng a := by
  unfold Alu.ng; rw [Bool.eq_iff_iff]; simp; omega
theorem wrap64 (n : Int) : IntKind.u64.wrap n = n % 18446744073709551616 := by simp [IntKind.wrap, IntKind.bits, IntKind.signed]
theorem rtruth_any (b : Bool) (w : World) : Calls Try.prog 37 #[.bool b] w fun e w' => e = .returned (.int .u64 (if b then 1 else 0)) ∧ w = w' := by
  cases b
  all_goals
    go_enter Try.func37, Try.ntmps37
    go_wp2_with fail
    go_ret
    exact ⟨rfl, rfl⟩
theorem rbelow_any (a b : Nat) (w : World) (ha : a < 18446744073709551616) (hb : b < 18446744073709551616) : Calls Try.prog 35 #[.int .u64 a, .int .u64 b] w fun e w' => e = .returned (.bool (decide (Alu.sg a < Alu.sg b))) ∧ w = w' := by
  have e : decide (bits .xor .u64 (a : Int) 9223372036854775808 < bits .xor .u64 (b : Int) 9223372036854775808) = decide (Alu.sg a < Alu.sg b) := by
    rw [← Alu.below_sg a b ha hb, show (9223372036854775808 : Int) = ((9223372036854775808 : Nat) : Int) from rfl, Alu.xor_u64 a _ ha (by omega), Alu.xor_u64 b _ hb (by omega), Alu.xor_top a ha, Alu.xor_top b hb, decide_eq_decide]
    omega
  go_enter Try.func35, Try.ntmps35
  go_wp2_with fail
  go_ret
  exact ⟨rfl, rfl⟩
theorem rabs_any (a : Nat) (w : World) (ha : a < 18446744073709551616) : Calls Try.prog 36 #[.int .u64 a] w fun e w' => e = .returned (.tuple #[.int .u64 (Alu.mag a : Nat), .bool (Alu.ng a)]) ∧ w = w' := by
  have t := top1 a ha
  rcases h : Alu.ng a with _ | _
  · rw [h] at t
    have m : Alu.mag a = a := by unfold Alu.ng at h; unfold Alu.mag; simp at h; split <;> omega
    rw [m]
    go_enter Try.func36, Try.ntmps36
    go_wp2_with fail
    go_ret2
    exact ⟨rfl, rfl⟩
  · rw [h] at t
    have m : IntKind.u64.wrap (-(a : Int)) = ((Alu.mag a : Nat) : Int) := by unfold Alu.ng at h; unfold Alu.mag; simp at h; rw [wrap64]; split <;> omega
    go_enter Try.func36, Try.ntmps36
    go_wp2_with fail
    go_ret2
    try rw [m]
    exact ⟨rfl, rfl⟩
theorem rk_4 (a b : Nat) (w : World) (ha : a < 18446744073709551616) (hb : b < 18446744073709551616) : Calls Try.prog 30 #[.int .i64 4, .int .u64 a, .int .u64 b] w (Two (Alu.rk 4 a b) w) := by
  have e : IntKind.u64.wrap ((a : Int) + b) = (((a + b) % 18446744073709551616 : Nat) : Int) := by rw [wrap64]; omega
  go_enter Try.func30, Try.ntmps30
  go_wp2_with fail
  go_ret2
  try rw [e]
  exact ⟨rfl, Grown.refl w⟩
theorem rk_5 (a b : Nat) (w : World) (ha : a < 18446744073709551616) (hb : b < 18446744073709551616) : Calls Try.prog 30 #[.int .i64 5, .int .u64 a, .int .u64 b] w (Two (Alu.rk 5 a b) w) := by
  have e : IntKind.u64.wrap ((a : Int) - b) = (((a + (18446744073709551616 - b)) % 18446744073709551616 : Nat) : Int) := by rw [wrap64]; omega
  go_enter Try.func30, Try.ntmps30
  go_wp2_with fail
  go_ret2
  try rw [e]
  exact ⟨rfl, Grown.refl w⟩
theorem rk_6 (a b : Nat) (w : World) (ha : a < 18446744073709551616) (hb : b < 18446744073709551616) : Calls Try.prog 30 #[.int .i64 6, .int .u64 a, .int .u64 b] w (Two (Alu.rk 6 a b) w) := by
  have e : IntKind.u64.wrap ((a : Int) * b) = ((a * b % 18446744073709551616 : Nat) : Int) := by rw [wrap64, ← Int.natCast_mul]; generalize a * b = p; omega
  go_enter Try.func30, Try.ntmps30
  go_wp2_with fail
  go_ret2
  try rw [e]
  exact ⟨rfl, Grown.refl w⟩
theorem rk_9 (a b : Nat) (w : World) (ha : a < 18446744073709551616) (hb : b < 18446744073709551616) : Calls Try.prog 30 #[.int .i64 9, .int .u64 a, .int .u64 b] w (Two (Alu.rk 9 a b) w) := by
  have e : bits .and .u64 (a : Int) b = ((a &&& b : Nat) : Int) := by exact Alu.and_u64 a b ha hb
  go_enter Try.func30, Try.ntmps30
  go_wp2_with fail
  go_ret2
  try rw [e]
  exact ⟨rfl, Grown.refl w⟩
theorem rk_10 (a b : Nat) (w : World) (ha : a < 18446744073709551616) (hb : b < 18446744073709551616) : Calls Try.prog 30 #[.int .i64 10, .int .u64 a, .int .u64 b] w (Two (Alu.rk 10 a b) w) := by
  have e : bits .or .u64 (a : Int) b = ((a ||| b : Nat) : Int) := by exact Alu.or_u64 a b ha hb
  go_enter Try.func30, Try.ntmps30
  go_wp2_with fail
  go_ret2
  try rw [e]
  exact ⟨rfl, Grown.refl w⟩
theorem rk_11 (a b : Nat) (w : World) (ha : a < 18446744073709551616) (hb : b < 18446744073709551616) : Calls Try.prog 30 #[.int .i64 11, .int .u64 a, .int .u64 b] w (Two (Alu.rk 11 a b) w) := by
  have e : bits .xor .u64 (a : Int) b = ((a ^^^ b : Nat) : Int) := by exact Alu.xor_u64 a b ha hb
  go_enter Try.func30, Try.ntmps30
  go_wp2_with fail
  go_ret2
  try rw [e]
  exact ⟨rfl, Grown.refl w⟩
theorem not_u64 (a c : Nat) (ha : a < 18446744073709551616) (hc : 18446744073709551615 - a = c) : bits .xor .u64 IntKind.u64.max (a : Int) = (c : Int) := by
  rw [show IntKind.u64.max = ((18446744073709551615 : Nat) : Int) from rfl, Alu.xor_u64 _ a (by omega) ha, Nat.xor_comm, Alu.xor_all a ha, hc]
theorem shl_run (a n : Nat) (hn : n < 64) : Op.shift BinOp.shl .u64 (a : Int) .u64 (n : Int) = pure (.int .u64 ((Alu.shl a n : Nat) : Int)) := by
  rw [shift_shl .u64 .u64 (a : Int) (n : Int) (by omega) (by simp [IntKind.bits]; omega)]
  rw [wrap64, Int.toNat_natCast]
  have e : (a : Int) * 2 ^ n = ((a * 2 ^ n : Nat) : Int) := by push_cast; rfl
  rw [e]
  unfold Alu.shl
  generalize a * 2 ^ n = p
  rw [show (p : Int) % 18446744073709551616 = ((p % 18446744073709551616 : Nat) : Int) by omega]
theorem shr_run (a n : Nat) (hn : n < 64) : Op.shift BinOp.shr .u64 (a : Int) .u64 (n : Int) = pure (.int .u64 ((Alu.shr a n : Nat) : Int)) := by
  rw [shift_shr .u64 .u64 (a : Int) (n : Int) (by omega) (by simp [IntKind.bits]; omega)]
  have e : (a : Int) / 2 ^ n = ((a / 2 ^ n : Nat) : Int) := by push_cast; rfl
  rw [Int.toNat_natCast, e]
  rfl
theorem rk_12 (a b : Nat) (w : World) (ha : a < 18446744073709551616) (hb : b < 18446744073709551616) : Calls Try.prog 30 #[.int .i64 12, .int .u64 a, .int .u64 b] w (Two (Alu.rk 12 a b) w) := by
  have e := low6 b hb
  obtain ⟨n, hn⟩ : ∃ n, b % 64 = n := ⟨_, rfl⟩
  have n64 : n < 64 := by omega
  have f := shl_run a n n64
  rw [hn] at e
  have g : Alu.rk 12 a b = (Alu.shl a n, true) := by rw [← hn]; rfl
  rw [g]
  clear g hn
  go_enter Try.func30, Try.ntmps30
  go_wp2_with fail
  go_ret2
  exact ⟨rfl, Grown.refl w⟩
theorem rk_13 (a b : Nat) (w : World) (ha : a < 18446744073709551616) (hb : b < 18446744073709551616) : Calls Try.prog 30 #[.int .i64 13, .int .u64 a, .int .u64 b] w (Two (Alu.rk 13 a b) w) := by
  have e := low6 b hb
  obtain ⟨n, hn⟩ : ∃ n, b % 64 = n := ⟨_, rfl⟩
  have n64 : n < 64 := by omega
  have f := shr_run a n n64
  rw [hn] at e
  have g : Alu.rk 13 a b = (Alu.shr a n, true) := by rw [← hn]; rfl
  rw [g]
  clear g hn
  go_enter Try.func30, Try.ntmps30
  go_wp2_with fail
  go_ret2
  exact ⟨rfl, Grown.refl w⟩
theorem rk_14 (a b : Nat) (w : World) (ha : a < 18446744073709551616) (hb : b < 18446744073709551616) : Calls Try.prog 30 #[.int .i64 14, .int .u64 a, .int .u64 b] w (Two (Alu.rk 14 a b) w) := by
  have e := low6 b hb
  obtain ⟨n, hn⟩ : ∃ n, b % 64 = n := ⟨_, rfl⟩
  have n64 : n < 64 := by omega
  rw [hn] at e
  have t := top1 a ha
  rcases h : Alu.ng a with _ | _
  · have f := shr_run a n n64
    rw [h] at t
    have g : Alu.rk 14 a b = (Alu.shr a n, true) := by rw [← hn]; show (Alu.sar a (b % 64), true) = _; unfold Alu.sar Alu.shr; rw [h]; rfl
    rw [g]
    clear g hn
    go_enter Try.func30, Try.ntmps30
    go_wp2_with fail
    go_ret2
    exact ⟨rfl, Grown.refl w⟩
  · obtain ⟨c, hc⟩ : ∃ c, 18446744073709551615 - a = c := ⟨_, rfl⟩
    have l := Nat.div_le_self c (2 ^ n)
    rw [h] at t
    have x1 : bits .xor .u64 IntKind.u64.max (a : Int) = (c : Int) := not_u64 a c ha hc
    have g : Alu.rk 14 a b = (Alu.sar a n, true) := by rw [← hn]; rfl
    have x2 : bits .xor .u64 IntKind.u64.max ((c : Int) / 2 ^ n) = ((Alu.sar a n : Nat) : Int) := by
      rw [show (c : Int) / 2 ^ n = ((Alu.shr c n : Nat) : Int) by unfold Alu.shr; push_cast; rfl]
      refine not_u64 _ _ (Alu.shr_lt c n (by omega)) ?_
      unfold Alu.sar Alu.shr; rw [h, hc]; rfl
    rw [g]
    clear g hn l hc
    go_enter Try.func30, Try.ntmps30
    go_wp2_with fail
    go_ret2
    exact ⟨rfl, Grown.refl w⟩
set_option maxRecDepth 100000 in
theorem rk_7 (a b : Nat) (w : World) (ha : a < 18446744073709551616) (hb : b < 18446744073709551616) : Calls Try.prog 30 #[.int .i64 7, .int .u64 a, .int .u64 b] w (Two (Alu.rk 7 a b) w) := by
  have A := Lib.hid (And.intro (fun w => rabs_any a w ha) (fun w => rabs_any b w hb))
  by_cases z : b = 0
  · subst z
    have g : Alu.rk 7 a 0 = (0, false) := by simp [Alu.rk]
    rw [g, two_none]
    clear g
    go_enter Try.func30, Try.ntmps30
    go_wp2_with fail
    go_ret2
    exact ⟨rfl, Grown.refl w⟩
  · have zb : ((b : Int) == 0) = false := by rw [beq_eq_false_iff_ne]; omega
    have py := Alu.mag_pos b hb z
    have g : Alu.rk 7 a b = (Alu.quo a b, true) := by show (if b = 0 then (0, false) else (Alu.quo a b, true)) = _; rw [if_neg z]
    rw [g]
    unfold Alu.quo
    clear g
    have lx := Alu.mag_le a ha
    generalize Alu.mag a = x at A lx ⊢
    generalize Alu.mag b = y at A py ⊢
    generalize Alu.ng a = m at A ⊢
    generalize Alu.ng b = k at A ⊢
    have y0 : (y : Int) ≠ 0 := by omega
    have q1 : (x : Int) / (y : Int) = ((x / y : Nat) : Int) := (Int.natCast_ediv x y).symm
    have lq := Nat.div_le_self x y
    have dm := Nat.div_add_mod x y
    have q0 : IntKind.u64.wrap ((x / y : Nat) : Int) = ((x / y : Nat) : Int) := by generalize x / y = q at lq ⊢; rw [wrap64]; omega
    have q2 : IntKind.u64.wrap (-((x / y : Nat) : Int)) = ((Alu.neg (x / y) : Nat) : Int) := by rw [wrap64]; unfold Alu.neg; omega
    have q3 : IntKind.u64.wrap (((x / y : Nat) : Int) * (y : Int)) = ((y * (x / y) : Nat) : Int) := by
      rw [wrap64, ← Int.natCast_mul, Nat.mul_comm]; generalize y * (x / y) = p at dm ⊢; omega
    have q4 : IntKind.u64.wrap ((x : Int) - ((y * (x / y) : Nat) : Int)) = ((x % y : Nat) : Int) := by rw [wrap64]; omega
    have q5 : IntKind.u64.wrap (-((x % y : Nat) : Int)) = ((Alu.neg (x % y) : Nat) : Int) := by rw [wrap64]; unfold Alu.neg; have := Nat.mod_le x y; omega
    generalize y * (x / y) = p at *
    generalize x / y = q at *
    generalize x % y = r at *
    clear lx py lq dm ha hb z
    rcases m with _ | _ <;> rcases k with _ | _
    all_goals
      go_enter Try.func30, Try.ntmps30
      go_wp2_with fail
      refine (A.out.1 _).mono ?_; rintro e w' ⟨rfl, rfl⟩
      go_wp2_with fail
      refine (A.out.2 _).mono ?_; rintro e w' ⟨rfl, rfl⟩
      go_wp2_with fail
      go_ret2
      exact ⟨rfl, Grown.refl w⟩
set_option maxRecDepth 100000 in
theorem rk_8 (a b : Nat) (w : World) (ha : a < 18446744073709551616) (hb : b < 18446744073709551616) : Calls Try.prog 30 #[.int .i64 8, .int .u64 a, .int .u64 b] w (Two (Alu.rk 8 a b) w) := by
  have A := Lib.hid (And.intro (fun w => rabs_any a w ha) (fun w => rabs_any b w hb))
  by_cases z : b = 0
  · subst z
    have g : Alu.rk 8 a 0 = (0, false) := by simp [Alu.rk]
    rw [g, two_none]
    clear g
    go_enter Try.func30, Try.ntmps30
    go_wp2_with fail
    go_ret2
    exact ⟨rfl, Grown.refl w⟩
  · have zb : ((b : Int) == 0) = false := by rw [beq_eq_false_iff_ne]; omega
    have py := Alu.mag_pos b hb z
    have g : Alu.rk 8 a b = (Alu.rem a b, true) := by show (if b = 0 then (0, false) else (Alu.rem a b, true)) = _; rw [if_neg z]
    rw [g]
    unfold Alu.rem
    clear g
    have lx := Alu.mag_le a ha
    generalize Alu.mag a = x at A lx ⊢
    generalize Alu.mag b = y at A py ⊢
    generalize Alu.ng a = m at A ⊢
    generalize Alu.ng b = k at A ⊢
    have y0 : (y : Int) ≠ 0 := by omega
    have q1 : (x : Int) / (y : Int) = ((x / y : Nat) : Int) := (Int.natCast_ediv x y).symm
    have lq := Nat.div_le_self x y
    have dm := Nat.div_add_mod x y
    have q0 : IntKind.u64.wrap ((x / y : Nat) : Int) = ((x / y : Nat) : Int) := by generalize x / y = q at lq ⊢; rw [wrap64]; omega
    have q2 : IntKind.u64.wrap (-((x / y : Nat) : Int)) = ((Alu.neg (x / y) : Nat) : Int) := by rw [wrap64]; unfold Alu.neg; omega
    have q3 : IntKind.u64.wrap (((x / y : Nat) : Int) * (y : Int)) = ((y * (x / y) : Nat) : Int) := by
      rw [wrap64, ← Int.natCast_mul, Nat.mul_comm]; generalize y * (x / y) = p at dm ⊢; omega
    have q4 : IntKind.u64.wrap ((x : Int) - ((y * (x / y) : Nat) : Int)) = ((x % y : Nat) : Int) := by rw [wrap64]; omega
    have q5 : IntKind.u64.wrap (-((x % y : Nat) : Int)) = ((Alu.neg (x % y) : Nat) : Int) := by rw [wrap64]; unfold Alu.neg; have := Nat.mod_le x y; omega
    generalize y * (x / y) = p at *
    generalize x / y = q at *
    generalize x % y = r at *
    clear lx py lq dm ha hb z
    rcases m with _ | _ <;> rcases k with _ | _
    all_goals
      go_enter Try.func30, Try.ntmps30
      go_wp2_with fail
      refine (A.out.1 _).mono ?_; rintro e w' ⟨rfl, rfl⟩
      go_wp2_with fail
      refine (A.out.2 _).mono ?_; rintro e w' ⟨rfl, rfl⟩
      go_wp2_with fail
      go_ret2
      exact ⟨rfl, Grown.refl w⟩
theorem rk_15 (a b : Nat) (w : World) (ha : a < 18446744073709551616) (hb : b < 18446744073709551616) : Calls Try.prog 30 #[.int .i64 15, .int .u64 a, .int .u64 b] w (Two (Alu.rk 15 a b) w) := by
  obtain ⟨t, ht⟩ : ∃ t, decide (Alu.sg a < Alu.sg b) = t := ⟨_, rfl⟩
  have A := Lib.hid (And.intro (fun w => rbelow_any a b w ha hb) (And.intro (fun w => rtruth_any true w) (fun w => rtruth_any false w)))
  simp only [if_true, Bool.false_eq_true, if_false] at A
  have g : Alu.rk 15 a b = (if t = true then 1 else 0, true) := by
    rw [← ht]; show (if Alu.sg a < Alu.sg b then 1 else 0, true) = _; simp only [decide_eq_true_eq]
  rw [g, two_t]
  clear g
  rw [ht] at A
  clear ht
  rcases t with _ | _
  all_goals
    simp only [if_true, Bool.false_eq_true, if_false]
    go_enter Try.func30, Try.ntmps30
    go_wp2_with fail
    refine (A.out.1 _).mono ?_; rintro e w' ⟨rfl, rfl⟩
    go_wp2_with fail
    refine ((by first | exact A.out.2.1 _ | exact A.out.2.2 _) : Calls _ _ _ _ _).mono ?_; rintro e w' ⟨rfl, rfl⟩
    go_wp2_with fail
    go_ret2
    exact ⟨rfl, Grown.refl w⟩
theorem rk_16 (a b : Nat) (w : World) (ha : a < 18446744073709551616) (hb : b < 18446744073709551616) : Calls Try.prog 30 #[.int .i64 16, .int .u64 a, .int .u64 b] w (Two (Alu.rk 16 a b) w) := by
  obtain ⟨t, ht⟩ : ∃ t, decide (a < b) = t := ⟨_, rfl⟩
  have A := Lib.hid (And.intro (fun w => rbelow_any a b w ha hb) (And.intro (fun w => rtruth_any true w) (fun w => rtruth_any false w)))
  simp only [if_true, Bool.false_eq_true, if_false] at A
  have g : Alu.rk 16 a b = (if t = true then 1 else 0, true) := by
    rw [← ht]; show (if a < b then 1 else 0, true) = _; simp only [decide_eq_true_eq]
  rw [g, two_t]
  clear g
  have e : decide ((a : Int) < b) = t := by rw [← ht, Bool.eq_iff_iff]; simp; try omega
  have e2 : decide (a < b) = t := ht
  clear ht
  rcases t with _ | _
  all_goals
    simp only [if_true, Bool.false_eq_true, if_false]
    go_enter Try.func30, Try.ntmps30
    go_wp2_with fail
    refine ((by first | exact A.out.2.1 _ | exact A.out.2.2 _) : Calls _ _ _ _ _).mono ?_; rintro e w' ⟨rfl, rfl⟩
    go_wp2_with fail
    go_ret2
    exact ⟨rfl, Grown.refl w⟩
theorem rk_17 (a b : Nat) (w : World) (ha : a < 18446744073709551616) (hb : b < 18446744073709551616) : Calls Try.prog 30 #[.int .i64 17, .int .u64 a, .int .u64 b] w (Two (Alu.rk 17 a b) w) := by
  obtain ⟨t, ht⟩ : ∃ t, decide (a = b) = t := ⟨_, rfl⟩
  have A := Lib.hid (And.intro (fun w => rbelow_any a b w ha hb) (And.intro (fun w => rtruth_any true w) (fun w => rtruth_any false w)))
  simp only [if_true, Bool.false_eq_true, if_false] at A
  have g : Alu.rk 17 a b = (if t = true then 1 else 0, true) := by
    rw [← ht]; show (if a = b then 1 else 0, true) = _; simp only [decide_eq_true_eq]
  rw [g, two_t]
  clear g
  have e : ((a : Int) == b) = t := by rw [← ht, Bool.eq_iff_iff]; simp; try omega
  have e2 : decide (a = b) = t := ht
  clear ht
  rcases t with _ | _
  all_goals
    simp only [if_true, Bool.false_eq_true, if_false]
    go_enter Try.func30, Try.ntmps30
    go_wp2_with fail
    refine ((by first | exact A.out.2.1 _ | exact A.out.2.2 _) : Calls _ _ _ _ _).mono ?_; rintro e w' ⟨rfl, rfl⟩
    go_wp2_with fail
    go_ret2
    exact ⟨rfl, Grown.refl w⟩
end Go.Proofs.Ytojnokaeopadfaa
