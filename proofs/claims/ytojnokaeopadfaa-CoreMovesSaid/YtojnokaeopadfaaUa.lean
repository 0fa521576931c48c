import Derived.Test.YtojnokaeopadfaaUb
import Derived.Test.YtojnokaeopadfaaYc
/- Package alu: its four functions. Written by genUa.py. -/
namespace Go.Proofs.Ytojnokaeopadfaa
open Go.RowKit
set_option linter.unusedVariables false
set_option linter.unusedSimpArgs false

theorem reckon_any (op : Int) (a b : Nat) (w : World) (ha : a < 18446744073709551616) (hb : b < 18446744073709551616) : Calls Try.prog 34 #[.int .i64 op, .int .u64 a, .int .u64 b] w (Two (Alu.rk op a b) w) := by
  by_cases c1 : op = 7 ∨ op = 8
  · have s1 := sgn_wrap a ha
    have s2 := sgn_wrap b hb
    by_cases z : b = 0
    · have g : Alu.rk op a b = (0, false) := by rcases c1 with rfl | rfl <;> simp [Alu.rk, z]
      rw [g, two_none]
      have A := Lib.hid (fun w => quot_none op (Alu.sg a) w)
      have s3 : Alu.sg b = 0 := (sgn_zero b hb).2 z
      rw [s3] at s2
      clear g ha hb s3 z
      generalize Alu.sg a = x at A s1
      rcases c1 with rfl | rfl
      all_goals
        go_enter Try.func34, Try.ntmps34
        go_wp2_with fail
        refine (A.out _).mono ?_; rintro e w' ⟨rfl, rfl⟩
        go_wp2_with fail
        go_ret2
        exact ⟨rfl, Grown.refl w⟩
    · obtain ⟨r, hr, A⟩ : ∃ r, Alu.rk op a b = (r, true) ∧ Hid (∀ w, Calls Try.prog 39 #[.int .i64 op, .int .i64 (Alu.sg a), .int .i64 (Alu.sg b)] w fun e w' => e = .returned (.tuple #[.int .u64 (r : Nat), .bool true]) ∧ w = w') := by
        rcases c1 with rfl | rfl
        · exact ⟨Alu.quo a b, by simp [Alu.rk, z], Lib.hid (fun w => quot_7 a b w ha hb z)⟩
        · exact ⟨Alu.rem a b, by simp [Alu.rk, z], Lib.hid (fun w => quot_8 a b w ha hb z)⟩
      rw [hr]
      clear hr ha hb z
      generalize Alu.sg a = x at A s1
      generalize Alu.sg b = y at A s2
      rcases c1 with rfl | rfl
      all_goals
        go_enter Try.func34, Try.ntmps34
        go_wp2_with fail
        refine (A.out _).mono ?_; rintro e w' ⟨rfl, rfl⟩
        go_wp2_with fail
        go_ret2
        exact ⟨rfl, Grown.refl w⟩
  · have h7 : op ≠ 7 := fun h => c1 (.inl h)
    have h8 : op ≠ 8 := fun h => c1 (.inr h)
    have n7 : (op == 7) = false := by simp [h7]
    have n8 : (op == 8) = false := by simp [h8]
    by_cases c2 : 4 ≤ op ∧ op ≤ 17
    · have A := Lib.hid (fun w => whole_any op a b w ha hb c2.1 c2.2 h7 h8)
      obtain ⟨r, hr⟩ : ∃ r, Alu.rk op a b = r := ⟨_, rfl⟩
      have t := rk_true op a b c2.1 c2.2 h7 h8
      rw [hr] at A t ⊢
      obtain ⟨r1, r2⟩ := r
      obtain rfl : r2 = true := t
      have d1 : decide (4 ≤ op) = true := by simp [c2.1]
      have d2 : decide (op ≤ 17) = true := by simp [c2.2]
      obtain ⟨l, u⟩ := c2
      clear hr c1 ha hb h7 h8
      go_enter Try.func34, Try.ntmps34
      go_wp2_with fail
      refine (A.out _).mono ?_; rintro e w' ⟨rfl, rfl⟩
      go_wp2_with fail
      go_ret2
      exact ⟨rfl, Grown.refl w⟩
    · have g : Alu.rk op a b = Alu.flo op a b := by
        unfold Alu.rk
        simp only [show ¬ op = 4 by omega, show ¬ op = 5 by omega, show ¬ op = 6 by omega, show ¬ op = 7 by omega, show ¬ op = 8 by omega, show ¬ op = 9 by omega, show ¬ op = 10 by omega, show ¬ op = 11 by omega, show ¬ op = 12 by omega, show ¬ op = 13 by omega, show ¬ op = 14 by omega, show ¬ op = 15 by omega, show ¬ op = 16 by omega, show ¬ op = 17 by omega, if_false]
      have o : (decide (4 ≤ op) && decide (op ≤ 17)) = false := by rw [Bool.and_eq_false_iff]; simp; omega
      by_cases c3 : 31 ≤ op ∧ op ≤ 42
      · have A := Lib.hid (fun w => floating_any op a b w ha hb c3.1 c3.2)
        rw [g]
        obtain ⟨r, hr⟩ : ∃ r, Alu.flo op a b = r := ⟨_, rfl⟩
        have t := flo_true op a b c3.1 c3.2
        rw [hr] at A t ⊢
        obtain ⟨r1, r2⟩ := r
        obtain rfl : r2 = true := t
        have d1 : 4 ≤ op := by omega
        have d2 : ¬ op ≤ 17 := by omega
        obtain ⟨l, u⟩ := c3
        clear hr g o c1 c2 ha hb h7 h8
        go_enter Try.func34, Try.ntmps34
        go_wp2_with fail
        refine (A.out _).mono ?_; rintro e w1 ⟨rfl, g1⟩
        go_wp2_with fail
        go_ret2
        exact ⟨rfl, g1⟩
      · have g2 : Alu.flo op a b = (0, false) := by
          unfold Alu.flo
          simp only [show ¬ op = 31 by omega, show ¬ op = 32 by omega, show ¬ op = 33 by omega, show ¬ op = 34 by omega, show ¬ op = 35 by omega, show ¬ op = 36 by omega, show ¬ op = 37 by omega, show ¬ op = 38 by omega, show ¬ op = 39 by omega, show ¬ op = 40 by omega, show ¬ op = 41 by omega, show ¬ op = 42 by omega, if_false]
        rw [g, g2, two_none]
        clear g g2 o ha hb h7 h8 c1
        by_cases l : 4 ≤ op
        · have l2 : ¬ op ≤ 17 := by omega
          by_cases m : 31 ≤ op
          · have m2 : ¬ op ≤ 42 := by omega
            clear c2 c3
            go_enter Try.func34, Try.ntmps34
            go_wp2_with fail
            go_ret2
            exact ⟨rfl, Grown.refl w⟩
          · clear c2 c3
            go_enter Try.func34, Try.ntmps34
            go_wp2_with fail
            go_ret2
            exact ⟨rfl, Grown.refl w⟩
        · have m : ¬ 31 ≤ op := by omega
          clear c2 c3
          go_enter Try.func34, Try.ntmps34
          go_wp2_with fail
          go_ret2
          exact ⟨rfl, Grown.refl w⟩
theorem takes_25 (a b : Nat) (w : World) (ha : a < 18446744073709551616) (hb : b < 18446744073709551616) : Calls Try.prog 23 #[.int .i64 25, .int .u64 a, .int .u64 b] w fun e w' => e = .returned (.bool (Alu.takes 25 a b)) ∧ w = w' := by
  show Calls Try.prog 23 #[.int .i64 25, .int .u64 a, .int .u64 b] w fun e w' => e = .returned (.bool (decide (a = b))) ∧ w = w'
  clear ha hb
  by_cases h : a = b
  · have d : ((a : Int) == b) = true := by simp [h]
    have d2 : ((a : Int) != b) = false := by simp [h]
    have d3 : decide (a = b) = true := by simp [h]
    try rw [d3]
    clear h
    go_enter Try.func23, Try.ntmps23
    go_wp2_with fail
    go_ret
    exact ⟨rfl, rfl⟩
  · have d : ((a : Int) == b) = false := by simp; omega
    have d2 : ((a : Int) != b) = true := by simp; omega
    have d3 : decide (a = b) = false := by simp [h]
    try rw [d3]
    clear h
    go_enter Try.func23, Try.ntmps23
    go_wp2_with fail
    go_ret
    exact ⟨rfl, rfl⟩
theorem takes_26 (a b : Nat) (w : World) (ha : a < 18446744073709551616) (hb : b < 18446744073709551616) : Calls Try.prog 23 #[.int .i64 26, .int .u64 a, .int .u64 b] w fun e w' => e = .returned (.bool (Alu.takes 26 a b)) ∧ w = w' := by
  show Calls Try.prog 23 #[.int .i64 26, .int .u64 a, .int .u64 b] w fun e w' => e = .returned (.bool (!decide (a = b))) ∧ w = w'
  clear ha hb
  by_cases h : a = b
  · have d : ((a : Int) == b) = true := by simp [h]
    have d2 : ((a : Int) != b) = false := by simp [h]
    have d3 : decide (a = b) = true := by simp [h]
    try rw [d3]
    clear h
    go_enter Try.func23, Try.ntmps23
    go_wp2_with fail
    go_ret
    exact ⟨rfl, rfl⟩
  · have d : ((a : Int) == b) = false := by simp; omega
    have d2 : ((a : Int) != b) = true := by simp; omega
    have d3 : decide (a = b) = false := by simp [h]
    try rw [d3]
    clear h
    go_enter Try.func23, Try.ntmps23
    go_wp2_with fail
    go_ret
    exact ⟨rfl, rfl⟩
theorem takes_27 (a b : Nat) (w : World) (ha : a < 18446744073709551616) (hb : b < 18446744073709551616) : Calls Try.prog 23 #[.int .i64 27, .int .u64 a, .int .u64 b] w fun e w' => e = .returned (.bool (Alu.takes 27 a b)) ∧ w = w' := by
  show Calls Try.prog 23 #[.int .i64 27, .int .u64 a, .int .u64 b] w fun e w' => e = .returned (.bool (decide (Alu.sg a < Alu.sg b))) ∧ w = w'
  have s1 := sgn_wrap a ha
  have s2 := sgn_wrap b hb
  generalize Alu.sg a = x at s1 ⊢
  generalize Alu.sg b = y at s2 ⊢
  clear ha hb
  go_enter Try.func23, Try.ntmps23
  go_wp2_with fail
  go_ret
  exact ⟨rfl, rfl⟩
theorem takes_28 (a b : Nat) (w : World) (ha : a < 18446744073709551616) (hb : b < 18446744073709551616) : Calls Try.prog 23 #[.int .i64 28, .int .u64 a, .int .u64 b] w fun e w' => e = .returned (.bool (Alu.takes 28 a b)) ∧ w = w' := by
  show Calls Try.prog 23 #[.int .i64 28, .int .u64 a, .int .u64 b] w fun e w' => e = .returned (.bool (decide (a < b))) ∧ w = w'
  clear ha hb
  by_cases h : a < b
  · have d : decide ((a : Int) < b) = true := by simp [h]
    have d2 : decide (a < b) = true := by simp [h]
    try rw [d2]
    clear h
    go_enter Try.func23, Try.ntmps23
    go_wp2_with fail
    go_ret
    exact ⟨rfl, rfl⟩
  · have d : decide ((a : Int) < b) = false := by simp; omega
    have d2 : decide (a < b) = false := by simp; omega
    try rw [d2]
    clear h
    go_enter Try.func23, Try.ntmps23
    go_wp2_with fail
    go_ret
    exact ⟨rfl, rfl⟩
theorem takes_any (op : Int) (a b : Nat) (w : World) (ha : a < 18446744073709551616) (hb : b < 18446744073709551616) : Calls Try.prog 23 #[.int .i64 op, .int .u64 a, .int .u64 b] w fun e w' => e = .returned (.bool (Alu.takes op a b)) ∧ Grown w w' := by
  suffices h : Calls Try.prog 23 #[.int .i64 op, .int .u64 a, .int .u64 b] w fun e w' => e = .returned (.bool (Alu.takes op a b)) ∧ w = w' from h.mono fun _ _ h => ⟨h.1, h.2 ▸ Grown.refl w⟩
  by_cases h25 : op = 25
  · subst h25; exact takes_25 a b w ha hb
  by_cases h26 : op = 26
  · subst h26; exact takes_26 a b w ha hb
  by_cases h27 : op = 27
  · subst h27; exact takes_27 a b w ha hb
  by_cases h28 : op = 28
  · subst h28; exact takes_28 a b w ha hb
  have g : Alu.takes op a b = false := by unfold Alu.takes; simp only [h25, h26, h27, h28, if_false]
  replace h25 : (op == 25) = false := by simp [h25]
  replace h26 : (op == 26) = false := by simp [h26]
  replace h27 : (op == 27) = false := by simp [h27]
  replace h28 : (op == 28) = false := by simp [h28]
  rw [g]
  clear g ha hb
  go_enter Try.func23, Try.ntmps23
  go_wp2_with fail
  go_ret
  exact ⟨rfl, rfl⟩
theorem width_19 (w : World) : Calls Try.prog 32 #[.int .i64 19] w (TwoI (Alu.width 19) w) := by
  go_enter Try.func32, Try.ntmps32
  go_wp2_with fail
  go_ret2
  exact ⟨rfl, rfl⟩
theorem width_20 (w : World) : Calls Try.prog 32 #[.int .i64 20] w (TwoI (Alu.width 20) w) := by
  go_enter Try.func32, Try.ntmps32
  go_wp2_with fail
  go_ret2
  exact ⟨rfl, rfl⟩
theorem width_21 (w : World) : Calls Try.prog 32 #[.int .i64 21] w (TwoI (Alu.width 21) w) := by
  go_enter Try.func32, Try.ntmps32
  go_wp2_with fail
  go_ret2
  exact ⟨rfl, rfl⟩
theorem width_22 (w : World) : Calls Try.prog 32 #[.int .i64 22] w (TwoI (Alu.width 22) w) := by
  go_enter Try.func32, Try.ntmps32
  go_wp2_with fail
  go_ret2
  exact ⟨rfl, rfl⟩
theorem width_23 (w : World) : Calls Try.prog 32 #[.int .i64 23] w (TwoI (Alu.width 23) w) := by
  go_enter Try.func32, Try.ntmps32
  go_wp2_with fail
  go_ret2
  exact ⟨rfl, rfl⟩
theorem width_24 (w : World) : Calls Try.prog 32 #[.int .i64 24] w (TwoI (Alu.width 24) w) := by
  go_enter Try.func32, Try.ntmps32
  go_wp2_with fail
  go_ret2
  exact ⟨rfl, rfl⟩
theorem width_any (op : Int) (w : World) : Calls Try.prog 32 #[.int .i64 op] w fun e w' => e = .returned (.tuple #[.int .i64 (Alu.width op).1, .bool (Alu.width op).2]) ∧ Grown w w' := by
  suffices h : Calls Try.prog 32 #[.int .i64 op] w (TwoI (Alu.width op) w) from h.mono fun _ _ h => ⟨h.1, h.2 ▸ Grown.refl w⟩
  by_cases h19 : op = 19
  · subst h19; exact width_19 w
  by_cases h20 : op = 20
  · subst h20; exact width_20 w
  by_cases h21 : op = 21
  · subst h21; exact width_21 w
  by_cases h22 : op = 22
  · subst h22; exact width_22 w
  by_cases h23 : op = 23
  · subst h23; exact width_23 w
  by_cases h24 : op = 24
  · subst h24; exact width_24 w
  have g : Alu.width op = (0, false) := by unfold Alu.width; simp only [h19, h20, h21, h22, h23, h24, if_false]
  replace h19 : (op == 19) = false := by simp [h19]
  replace h20 : (op == 20) = false := by simp [h20]
  replace h21 : (op == 21) = false := by simp [h21]
  replace h22 : (op == 22) = false := by simp [h22]
  replace h23 : (op == 23) = false := by simp [h23]
  replace h24 : (op == 24) = false := by simp [h24]
  rw [g]
  clear g
  go_enter Try.func32, Try.ntmps32
  go_wp2_with fail
  go_ret2
  exact ⟨rfl, rfl⟩
theorem place_0 (b : Nat) (imm : Int) (w : World) (hb : b < 18446744073709551616) (i1 : -2147483648 ≤ imm) (i2 : imm ≤ 2147483647) :
    Calls Try.prog 11 #[.int .u64 b, .int .i32 imm, .int .i64 0] w (TwoI (Alu.place b imm 0) w) := by
  have g : Alu.place b imm 0 = (0, false) := by unfold Alu.place; rw [if_pos (.inl (by omega))]
  rw [g]
  clear g i1 i2 hb
  go_enter Try.func11, Try.ntmps11
  go_wp2_with fail
  go_ret2
  exact ⟨rfl, rfl⟩
theorem place_1 (b : Nat) (imm : Int) (w : World) (hb : b < 18446744073709551616) (i1 : -2147483648 ≤ imm) (i2 : imm ≤ 2147483647) :
    Calls Try.prog 11 #[.int .u64 b, .int .i32 imm, .int .i64 1] w (TwoI (Alu.place b imm 1) w) := by
  obtain ⟨x, hx⟩ : ∃ x : Int, ((b : Int) + imm) % 18446744073709551616 = x := ⟨_, rfl⟩
  have e1 : RowKit.wrap64 imm = imm := by unfold RowKit.wrap64; omega
  have e2 : IntKind.u64.wrap ((b : Int) + IntKind.u64.wrap imm) = x := by rw [wrap64, wrap64]; omega
  unfold Alu.place
  rw [hx]
  by_cases c2 : 262143 < x
  · rw [if_pos (.inr (by by_cases h : 262144 ≤ x; exact .inl h; exact .inr (by omega)))]
    clear i1 i2 hx hb
    go_enter Try.func11, Try.ntmps11
    go_wp2_with fail
    go_ret2
    exact ⟨rfl, rfl⟩
  · have e3 : RowKit.wrap64 x = x := by unfold RowKit.wrap64; omega
    obtain ⟨r, hr⟩ : ∃ r : Int, x % 1 = r := ⟨_, rfl⟩
    have e4 : x.tmod 1 = r := by rw [Int.tmod_eq_emod_of_nonneg (by omega), hr]
    rw [hr]
    by_cases c3 : r = 0
    · have c4 : (r != 0) = false := by simp [c3]
      rw [if_neg (by rintro (h | h | h); all_goals omega)]
      clear i1 i2 hx hb hr c3
      go_enter Try.func11, Try.ntmps11
      go_wp2_with fail
      go_ret2
      exact ⟨rfl, rfl⟩
    · have c4 : (r != 0) = true := by simp [c3]
      rw [if_pos (.inr (.inr c3))]
      clear i1 i2 hx hb hr c3
      go_enter Try.func11, Try.ntmps11
      go_wp2_with fail
      go_ret2
      exact ⟨rfl, rfl⟩
theorem place_2 (b : Nat) (imm : Int) (w : World) (hb : b < 18446744073709551616) (i1 : -2147483648 ≤ imm) (i2 : imm ≤ 2147483647) :
    Calls Try.prog 11 #[.int .u64 b, .int .i32 imm, .int .i64 2] w (TwoI (Alu.place b imm 2) w) := by
  obtain ⟨x, hx⟩ : ∃ x : Int, ((b : Int) + imm) % 18446744073709551616 = x := ⟨_, rfl⟩
  have e1 : RowKit.wrap64 imm = imm := by unfold RowKit.wrap64; omega
  have e2 : IntKind.u64.wrap ((b : Int) + IntKind.u64.wrap imm) = x := by rw [wrap64, wrap64]; omega
  unfold Alu.place
  rw [hx]
  by_cases c2 : 262142 < x
  · rw [if_pos (.inr (by by_cases h : 262144 ≤ x; exact .inl h; exact .inr (by omega)))]
    clear i1 i2 hx hb
    go_enter Try.func11, Try.ntmps11
    go_wp2_with fail
    go_ret2
    exact ⟨rfl, rfl⟩
  · have e3 : RowKit.wrap64 x = x := by unfold RowKit.wrap64; omega
    obtain ⟨r, hr⟩ : ∃ r : Int, x % 2 = r := ⟨_, rfl⟩
    have e4 : x.tmod 2 = r := by rw [Int.tmod_eq_emod_of_nonneg (by omega), hr]
    rw [hr]
    by_cases c3 : r = 0
    · have c4 : (r != 0) = false := by simp [c3]
      rw [if_neg (by rintro (h | h | h); all_goals omega)]
      clear i1 i2 hx hb hr c3
      go_enter Try.func11, Try.ntmps11
      go_wp2_with fail
      go_ret2
      exact ⟨rfl, rfl⟩
    · have c4 : (r != 0) = true := by simp [c3]
      rw [if_pos (.inr (.inr c3))]
      clear i1 i2 hx hb hr c3
      go_enter Try.func11, Try.ntmps11
      go_wp2_with fail
      go_ret2
      exact ⟨rfl, rfl⟩
theorem place_4 (b : Nat) (imm : Int) (w : World) (hb : b < 18446744073709551616) (i1 : -2147483648 ≤ imm) (i2 : imm ≤ 2147483647) :
    Calls Try.prog 11 #[.int .u64 b, .int .i32 imm, .int .i64 4] w (TwoI (Alu.place b imm 4) w) := by
  obtain ⟨x, hx⟩ : ∃ x : Int, ((b : Int) + imm) % 18446744073709551616 = x := ⟨_, rfl⟩
  have e1 : RowKit.wrap64 imm = imm := by unfold RowKit.wrap64; omega
  have e2 : IntKind.u64.wrap ((b : Int) + IntKind.u64.wrap imm) = x := by rw [wrap64, wrap64]; omega
  unfold Alu.place
  rw [hx]
  by_cases c2 : 262140 < x
  · rw [if_pos (.inr (by by_cases h : 262144 ≤ x; exact .inl h; exact .inr (by omega)))]
    clear i1 i2 hx hb
    go_enter Try.func11, Try.ntmps11
    go_wp2_with fail
    go_ret2
    exact ⟨rfl, rfl⟩
  · have e3 : RowKit.wrap64 x = x := by unfold RowKit.wrap64; omega
    obtain ⟨r, hr⟩ : ∃ r : Int, x % 4 = r := ⟨_, rfl⟩
    have e4 : x.tmod 4 = r := by rw [Int.tmod_eq_emod_of_nonneg (by omega), hr]
    rw [hr]
    by_cases c3 : r = 0
    · have c4 : (r != 0) = false := by simp [c3]
      rw [if_neg (by rintro (h | h | h); all_goals omega)]
      clear i1 i2 hx hb hr c3
      go_enter Try.func11, Try.ntmps11
      go_wp2_with fail
      go_ret2
      exact ⟨rfl, rfl⟩
    · have c4 : (r != 0) = true := by simp [c3]
      rw [if_pos (.inr (.inr c3))]
      clear i1 i2 hx hb hr c3
      go_enter Try.func11, Try.ntmps11
      go_wp2_with fail
      go_ret2
      exact ⟨rfl, rfl⟩
theorem place_8 (b : Nat) (imm : Int) (w : World) (hb : b < 18446744073709551616) (i1 : -2147483648 ≤ imm) (i2 : imm ≤ 2147483647) :
    Calls Try.prog 11 #[.int .u64 b, .int .i32 imm, .int .i64 8] w (TwoI (Alu.place b imm 8) w) := by
  obtain ⟨x, hx⟩ : ∃ x : Int, ((b : Int) + imm) % 18446744073709551616 = x := ⟨_, rfl⟩
  have e1 : RowKit.wrap64 imm = imm := by unfold RowKit.wrap64; omega
  have e2 : IntKind.u64.wrap ((b : Int) + IntKind.u64.wrap imm) = x := by rw [wrap64, wrap64]; omega
  unfold Alu.place
  rw [hx]
  by_cases c2 : 262136 < x
  · rw [if_pos (.inr (by by_cases h : 262144 ≤ x; exact .inl h; exact .inr (by omega)))]
    clear i1 i2 hx hb
    go_enter Try.func11, Try.ntmps11
    go_wp2_with fail
    go_ret2
    exact ⟨rfl, rfl⟩
  · have e3 : RowKit.wrap64 x = x := by unfold RowKit.wrap64; omega
    obtain ⟨r, hr⟩ : ∃ r : Int, x % 8 = r := ⟨_, rfl⟩
    have e4 : x.tmod 8 = r := by rw [Int.tmod_eq_emod_of_nonneg (by omega), hr]
    rw [hr]
    by_cases c3 : r = 0
    · have c4 : (r != 0) = false := by simp [c3]
      rw [if_neg (by rintro (h | h | h); all_goals omega)]
      clear i1 i2 hx hb hr c3
      go_enter Try.func11, Try.ntmps11
      go_wp2_with fail
      go_ret2
      exact ⟨rfl, rfl⟩
    · have c4 : (r != 0) = true := by simp [c3]
      rw [if_pos (.inr (.inr c3))]
      clear i1 i2 hx hb hr c3
      go_enter Try.func11, Try.ntmps11
      go_wp2_with fail
      go_ret2
      exact ⟨rfl, rfl⟩
theorem place_any (b : Nat) (imm width : Int) (w : World) (hw : width = 0 ∨ width = 1 ∨ width = 2 ∨ width = 4 ∨ width = 8) (hb : b < 18446744073709551616) (i1 : -2147483648 ≤ imm) (i2 : imm ≤ 2147483647) :
    Calls Try.prog 11 #[.int .u64 b, .int .i32 imm, .int .i64 width] w fun e w' => e = .returned (.tuple #[.int .i64 (Alu.place b imm width).1, .bool (Alu.place b imm width).2]) ∧ Grown w w' := by
  suffices h : Calls Try.prog 11 #[.int .u64 b, .int .i32 imm, .int .i64 width] w (TwoI (Alu.place b imm width) w) from h.mono fun _ _ h => ⟨h.1, h.2 ▸ Grown.refl w⟩
  rcases hw with rfl | rfl | rfl | rfl | rfl
  · exact place_0 b imm w hb i1 i2
  · exact place_1 b imm w hb i1 i2
  · exact place_2 b imm w hb i1 i2
  · exact place_4 b imm w hb i1 i2
  · exact place_8 b imm w hb i1 i2
end Go.Proofs.Ytojnokaeopadfaa
