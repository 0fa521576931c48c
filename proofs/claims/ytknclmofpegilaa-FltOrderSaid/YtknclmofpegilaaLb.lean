import Derived.Test.YtknclmofpegilaaFj
namespace Go.Proofs.Ytknclmofpegilaa
open Go.RowKit
set_option linter.unusedVariables false
set_option linter.unusedSimpArgs false

set_option maxRecDepth 100000 in
set_option maxHeartbeats 4000000 in
theorem order_A (a b : Nat) (w : World) (ha : a < 18446744073709551616) (hb : b < 18446744073709551616) (hna : Flo.nanB a = true)
    (hL : Flo.rLess a b = false) (hM : Flo.rLess b a = false) (hS : Flo.rEqual a b = false) :
    Calls Try.prog 6 #[.int .u64 a, .int .u64 b] w fun e w' => e = .returned (.bool true) ∧ Grown w w' := by
  have c1 := fun w => less_any a b w
  have c2 := fun w => less_any b a w
  have c3 := fun w => equal_any a b w
  rw [show (Ieee.double.order a b == some .lt) = false from (Flo.order_less a b).trans hL] at c1
  rw [show (Ieee.double.order b a == some .lt) = false from (Flo.order_less b a).trans hM] at c2
  rw [show (Ieee.double.order a b == some .eq) = false from (Flo.order_equal a b).trans hS] at c3
  have d1 := fun w => none_is a _ w ha hna
  have r1 := fun w => rless_is a b _ w ha hb hL
  have r2 := fun w => requal_is a b _ w ha hb hS
  have m1 := fun w => min_any a b w ha hb
  have m2 := fun w => rmin_any a b w ha hb
  have m3 := fun w => max_any a b w ha hb
  have m4 := fun w => rmax_any a b w ha hb
  have m5 := fun w => class_any a w ha
  have m6 := fun w => rclass_any a w ha
  rw [Flo.min_eq ha hb] at m1
  rw [Flo.max_eq ha hb] at m3
  generalize Flo.rMin a b = p at m1 m2
  generalize Flo.rMax a b = q at m3 m4
  generalize Flo.cls a = k at m5 m6
  have C := Lib.hid (And.intro c1 (And.intro c2 c3))
  have R := Lib.hid (And.intro r1 r2)
  have T := Lib.hid (And.intro m1 (And.intro m2 (And.intro m3 (And.intro m4 (And.intro m5 m6)))))
  have N := Lib.hid d1
  clear c1 c2 c3 r1 r2 m1 m2 m3 m4 m5 m6 d1 hL hM hS hna  ha hb
  go_enter Try.func6, Try.ntmps6
  go_wp2_with fail
  refine (fit_any _).mono ?_; rintro e w' ⟨rfl, rfl⟩
  go_wp2_with fail
  refine (C.out.1 _).mono ?_; rintro e w' ⟨rfl, rfl⟩
  go_wp2_with fail
  refine (C.out.2.1 _).mono ?_; rintro e w' ⟨rfl, rfl⟩
  go_wp2_with fail
  refine (C.out.2.2 _).mono ?_; rintro e w' ⟨rfl, rfl⟩
  go_wp2_with fail
  go_loop [8, 28] (fun n i => (n = .int .i64 0 ∧ i = .int .i64 0) ∨ (n = .int .i64 0 ∧ i = .int .i64 1) ∨ (n = .int .i64 0 ∧ i = .int .i64 2) ∨ (n = .int .i64 0 ∧ i = .int .i64 3)) (fun _ i => 3 - (intOf i).toNat)
  case atStart => exact .inl ⟨rfl, rfl⟩
  case round =>
    rcases hrel with ⟨rfl, rfl⟩ | ⟨rfl, rfl⟩ | ⟨rfl, rfl⟩ | ⟨rfl, rfl⟩
    · go_wp2
      go_round
      case rel => exact .inr (.inl ⟨rfl, rfl⟩)
      case measure => simp [intOf]
    · go_wp2
      go_round
      case rel => exact .inr (.inr (.inl ⟨rfl, rfl⟩))
      case measure => simp [intOf]
    · go_wp2
      go_round
      case rel => exact .inr (.inr (.inr ⟨rfl, rfl⟩))
      case measure => simp [intOf]
    · go_wp2_with fail
      refine (N.out _).mono ?_; rintro e w' ⟨rfl, rfl⟩
      go_wp2_with fail
      refine (R.out.1 _).mono ?_; rintro e w1 ⟨rfl, g1⟩
      go_wp2_with fail
      refine (R.out.2 _).mono ?_; rintro e w2 ⟨rfl, g2⟩
      go_wp2_with fail
      refine (T.out.1 _).mono ?_; rintro e w' ⟨rfl, rfl⟩
      go_wp2_with fail
      refine (T.out.2.1 _).mono ?_; rintro e w3 ⟨rfl, g3⟩
      go_wp2_with fail
      refine (T.out.2.2.1 _).mono ?_; rintro e w' ⟨rfl, rfl⟩
      go_wp2_with fail
      refine (T.out.2.2.2.1 _).mono ?_; rintro e w4 ⟨rfl, g4⟩
      go_wp2_with fail
      refine (T.out.2.2.2.2.1 _).mono ?_; rintro e w' ⟨rfl, rfl⟩
      go_wp2_with fail
      refine (T.out.2.2.2.2.2 _).mono ?_; rintro e w5 ⟨rfl, g5⟩
      go_wp2_with fail
      go_ret
      exact ⟨rfl, grown_trans (grown_trans (grown_trans ((Grown.refl _).alloc _ _) g1) (grown_trans g2 g3)) (grown_trans g4 g5)⟩

set_option maxRecDepth 100000 in
set_option maxHeartbeats 4000000 in
theorem order_B (a b : Nat) (w : World) (ha : a < 18446744073709551616) (hb : b < 18446744073709551616) (hna : Flo.nanB a = false) (hnb : Flo.nanB b = true)
    (hL : Flo.rLess a b = false) (hM : Flo.rLess b a = false) (hS : Flo.rEqual a b = false) :
    Calls Try.prog 6 #[.int .u64 a, .int .u64 b] w fun e w' => e = .returned (.bool true) ∧ Grown w w' := by
  have c1 := fun w => less_any a b w
  have c2 := fun w => less_any b a w
  have c3 := fun w => equal_any a b w
  rw [show (Ieee.double.order a b == some .lt) = false from (Flo.order_less a b).trans hL] at c1
  rw [show (Ieee.double.order b a == some .lt) = false from (Flo.order_less b a).trans hM] at c2
  rw [show (Ieee.double.order a b == some .eq) = false from (Flo.order_equal a b).trans hS] at c3
  have d1 := fun w => none_is a _ w ha hna
  have r1 := fun w => rless_is a b _ w ha hb hL
  have r2 := fun w => requal_is a b _ w ha hb hS
  have m1 := fun w => min_any a b w ha hb
  have m2 := fun w => rmin_any a b w ha hb
  have m3 := fun w => max_any a b w ha hb
  have m4 := fun w => rmax_any a b w ha hb
  have m5 := fun w => class_any a w ha
  have m6 := fun w => rclass_any a w ha
  rw [Flo.min_eq ha hb] at m1
  rw [Flo.max_eq ha hb] at m3
  generalize Flo.rMin a b = p at m1 m2
  generalize Flo.rMax a b = q at m3 m4
  generalize Flo.cls a = k at m5 m6
  have C := Lib.hid (And.intro c1 (And.intro c2 c3))
  have R := Lib.hid (And.intro r1 r2)
  have T := Lib.hid (And.intro m1 (And.intro m2 (And.intro m3 (And.intro m4 (And.intro m5 m6)))))
  have N := Lib.hid d1
  have N2 := Lib.hid (fun w => none_is b _ w hb hnb)
  clear c1 c2 c3 r1 r2 m1 m2 m3 m4 m5 m6 d1 hL hM hS hna hnb ha hb
  go_enter Try.func6, Try.ntmps6
  go_wp2_with fail
  refine (fit_any _).mono ?_; rintro e w' ⟨rfl, rfl⟩
  go_wp2_with fail
  refine (C.out.1 _).mono ?_; rintro e w' ⟨rfl, rfl⟩
  go_wp2_with fail
  refine (C.out.2.1 _).mono ?_; rintro e w' ⟨rfl, rfl⟩
  go_wp2_with fail
  refine (C.out.2.2 _).mono ?_; rintro e w' ⟨rfl, rfl⟩
  go_wp2_with fail
  go_loop [8, 28] (fun n i => (n = .int .i64 0 ∧ i = .int .i64 0) ∨ (n = .int .i64 0 ∧ i = .int .i64 1) ∨ (n = .int .i64 0 ∧ i = .int .i64 2) ∨ (n = .int .i64 0 ∧ i = .int .i64 3)) (fun _ i => 3 - (intOf i).toNat)
  case atStart => exact .inl ⟨rfl, rfl⟩
  case round =>
    rcases hrel with ⟨rfl, rfl⟩ | ⟨rfl, rfl⟩ | ⟨rfl, rfl⟩ | ⟨rfl, rfl⟩
    · go_wp2
      go_round
      case rel => exact .inr (.inl ⟨rfl, rfl⟩)
      case measure => simp [intOf]
    · go_wp2
      go_round
      case rel => exact .inr (.inr (.inl ⟨rfl, rfl⟩))
      case measure => simp [intOf]
    · go_wp2
      go_round
      case rel => exact .inr (.inr (.inr ⟨rfl, rfl⟩))
      case measure => simp [intOf]
    · go_wp2_with fail
      refine (N.out _).mono ?_; rintro e w' ⟨rfl, rfl⟩
      go_wp2_with fail
      refine (N2.out _).mono ?_; rintro e w' ⟨rfl, rfl⟩
      go_wp2_with fail
      refine (R.out.1 _).mono ?_; rintro e w1 ⟨rfl, g1⟩
      go_wp2_with fail
      refine (R.out.2 _).mono ?_; rintro e w2 ⟨rfl, g2⟩
      go_wp2_with fail
      refine (T.out.1 _).mono ?_; rintro e w' ⟨rfl, rfl⟩
      go_wp2_with fail
      refine (T.out.2.1 _).mono ?_; rintro e w3 ⟨rfl, g3⟩
      go_wp2_with fail
      refine (T.out.2.2.1 _).mono ?_; rintro e w' ⟨rfl, rfl⟩
      go_wp2_with fail
      refine (T.out.2.2.2.1 _).mono ?_; rintro e w4 ⟨rfl, g4⟩
      go_wp2_with fail
      refine (T.out.2.2.2.2.1 _).mono ?_; rintro e w' ⟨rfl, rfl⟩
      go_wp2_with fail
      refine (T.out.2.2.2.2.2 _).mono ?_; rintro e w5 ⟨rfl, g5⟩
      go_wp2_with fail
      go_ret
      exact ⟨rfl, grown_trans (grown_trans (grown_trans ((Grown.refl _).alloc _ _) g1) (grown_trans g2 g3)) (grown_trans g4 g5)⟩

set_option maxRecDepth 100000 in
set_option maxHeartbeats 4000000 in
theorem order_L (a b : Nat) (w : World) (ha : a < 18446744073709551616) (hb : b < 18446744073709551616) (hna : Flo.nanB a = false) (hnb : Flo.nanB b = false)
    (hL : Flo.rLess a b = true) (hM : Flo.rLess b a = false) (hS : Flo.rEqual a b = false) :
    Calls Try.prog 6 #[.int .u64 a, .int .u64 b] w fun e w' => e = .returned (.bool true) ∧ Grown w w' := by
  have c1 := fun w => less_any a b w
  have c2 := fun w => less_any b a w
  have c3 := fun w => equal_any a b w
  rw [show (Ieee.double.order a b == some .lt) = true from (Flo.order_less a b).trans hL] at c1
  rw [show (Ieee.double.order b a == some .lt) = false from (Flo.order_less b a).trans hM] at c2
  rw [show (Ieee.double.order a b == some .eq) = false from (Flo.order_equal a b).trans hS] at c3
  have d1 := fun w => none_is a _ w ha hna
  have r1 := fun w => rless_is a b _ w ha hb hL
  have r2 := fun w => requal_is a b _ w ha hb hS
  have m1 := fun w => min_any a b w ha hb
  have m2 := fun w => rmin_any a b w ha hb
  have m3 := fun w => max_any a b w ha hb
  have m4 := fun w => rmax_any a b w ha hb
  have m5 := fun w => class_any a w ha
  have m6 := fun w => rclass_any a w ha
  rw [Flo.min_eq ha hb] at m1
  rw [Flo.max_eq ha hb] at m3
  generalize Flo.rMin a b = p at m1 m2
  generalize Flo.rMax a b = q at m3 m4
  generalize Flo.cls a = k at m5 m6
  have C := Lib.hid (And.intro c1 (And.intro c2 c3))
  have R := Lib.hid (And.intro r1 r2)
  have T := Lib.hid (And.intro m1 (And.intro m2 (And.intro m3 (And.intro m4 (And.intro m5 m6)))))
  have N := Lib.hid d1
  have N2 := Lib.hid (fun w => none_is b _ w hb hnb)
  clear c1 c2 c3 r1 r2 m1 m2 m3 m4 m5 m6 d1 hL hM hS hna hnb ha hb
  go_enter Try.func6, Try.ntmps6
  go_wp2_with fail
  refine (fit_any _).mono ?_; rintro e w' ⟨rfl, rfl⟩
  go_wp2_with fail
  refine (C.out.1 _).mono ?_; rintro e w' ⟨rfl, rfl⟩
  go_wp2_with fail
  refine (C.out.2.1 _).mono ?_; rintro e w' ⟨rfl, rfl⟩
  go_wp2_with fail
  refine (C.out.2.2 _).mono ?_; rintro e w' ⟨rfl, rfl⟩
  go_wp2_with fail
  go_loop [8, 28] (fun n i => (n = .int .i64 0 ∧ i = .int .i64 0) ∨ (n = .int .i64 1 ∧ i = .int .i64 1) ∨ (n = .int .i64 1 ∧ i = .int .i64 2) ∨ (n = .int .i64 1 ∧ i = .int .i64 3)) (fun _ i => 3 - (intOf i).toNat)
  case atStart => exact .inl ⟨rfl, rfl⟩
  case round =>
    rcases hrel with ⟨rfl, rfl⟩ | ⟨rfl, rfl⟩ | ⟨rfl, rfl⟩ | ⟨rfl, rfl⟩
    · go_wp2
      go_round
      case rel => exact .inr (.inl ⟨rfl, rfl⟩)
      case measure => simp [intOf]
    · go_wp2
      go_round
      case rel => exact .inr (.inr (.inl ⟨rfl, rfl⟩))
      case measure => simp [intOf]
    · go_wp2
      go_round
      case rel => exact .inr (.inr (.inr ⟨rfl, rfl⟩))
      case measure => simp [intOf]
    · go_wp2_with fail
      refine (N.out _).mono ?_; rintro e w' ⟨rfl, rfl⟩
      go_wp2_with fail
      refine (N2.out _).mono ?_; rintro e w' ⟨rfl, rfl⟩
      go_wp2_with fail
      refine (R.out.1 _).mono ?_; rintro e w1 ⟨rfl, g1⟩
      go_wp2_with fail
      refine (R.out.2 _).mono ?_; rintro e w2 ⟨rfl, g2⟩
      go_wp2_with fail
      refine (T.out.1 _).mono ?_; rintro e w' ⟨rfl, rfl⟩
      go_wp2_with fail
      refine (T.out.2.1 _).mono ?_; rintro e w3 ⟨rfl, g3⟩
      go_wp2_with fail
      refine (T.out.2.2.1 _).mono ?_; rintro e w' ⟨rfl, rfl⟩
      go_wp2_with fail
      refine (T.out.2.2.2.1 _).mono ?_; rintro e w4 ⟨rfl, g4⟩
      go_wp2_with fail
      refine (T.out.2.2.2.2.1 _).mono ?_; rintro e w' ⟨rfl, rfl⟩
      go_wp2_with fail
      refine (T.out.2.2.2.2.2 _).mono ?_; rintro e w5 ⟨rfl, g5⟩
      go_wp2_with fail
      go_ret
      exact ⟨rfl, grown_trans (grown_trans (grown_trans ((Grown.refl _).alloc _ _) g1) (grown_trans g2 g3)) (grown_trans g4 g5)⟩

set_option maxRecDepth 100000 in
set_option maxHeartbeats 4000000 in
theorem order_G (a b : Nat) (w : World) (ha : a < 18446744073709551616) (hb : b < 18446744073709551616) (hna : Flo.nanB a = false) (hnb : Flo.nanB b = false)
    (hL : Flo.rLess a b = false) (hM : Flo.rLess b a = true) (hS : Flo.rEqual a b = false) :
    Calls Try.prog 6 #[.int .u64 a, .int .u64 b] w fun e w' => e = .returned (.bool true) ∧ Grown w w' := by
  have c1 := fun w => less_any a b w
  have c2 := fun w => less_any b a w
  have c3 := fun w => equal_any a b w
  rw [show (Ieee.double.order a b == some .lt) = false from (Flo.order_less a b).trans hL] at c1
  rw [show (Ieee.double.order b a == some .lt) = true from (Flo.order_less b a).trans hM] at c2
  rw [show (Ieee.double.order a b == some .eq) = false from (Flo.order_equal a b).trans hS] at c3
  have d1 := fun w => none_is a _ w ha hna
  have r1 := fun w => rless_is a b _ w ha hb hL
  have r2 := fun w => requal_is a b _ w ha hb hS
  have m1 := fun w => min_any a b w ha hb
  have m2 := fun w => rmin_any a b w ha hb
  have m3 := fun w => max_any a b w ha hb
  have m4 := fun w => rmax_any a b w ha hb
  have m5 := fun w => class_any a w ha
  have m6 := fun w => rclass_any a w ha
  rw [Flo.min_eq ha hb] at m1
  rw [Flo.max_eq ha hb] at m3
  generalize Flo.rMin a b = p at m1 m2
  generalize Flo.rMax a b = q at m3 m4
  generalize Flo.cls a = k at m5 m6
  have C := Lib.hid (And.intro c1 (And.intro c2 c3))
  have R := Lib.hid (And.intro r1 r2)
  have T := Lib.hid (And.intro m1 (And.intro m2 (And.intro m3 (And.intro m4 (And.intro m5 m6)))))
  have N := Lib.hid d1
  have N2 := Lib.hid (fun w => none_is b _ w hb hnb)
  clear c1 c2 c3 r1 r2 m1 m2 m3 m4 m5 m6 d1 hL hM hS hna hnb ha hb
  go_enter Try.func6, Try.ntmps6
  go_wp2_with fail
  refine (fit_any _).mono ?_; rintro e w' ⟨rfl, rfl⟩
  go_wp2_with fail
  refine (C.out.1 _).mono ?_; rintro e w' ⟨rfl, rfl⟩
  go_wp2_with fail
  refine (C.out.2.1 _).mono ?_; rintro e w' ⟨rfl, rfl⟩
  go_wp2_with fail
  refine (C.out.2.2 _).mono ?_; rintro e w' ⟨rfl, rfl⟩
  go_wp2_with fail
  go_loop [8, 28] (fun n i => (n = .int .i64 0 ∧ i = .int .i64 0) ∨ (n = .int .i64 0 ∧ i = .int .i64 1) ∨ (n = .int .i64 1 ∧ i = .int .i64 2) ∨ (n = .int .i64 1 ∧ i = .int .i64 3)) (fun _ i => 3 - (intOf i).toNat)
  case atStart => exact .inl ⟨rfl, rfl⟩
  case round =>
    rcases hrel with ⟨rfl, rfl⟩ | ⟨rfl, rfl⟩ | ⟨rfl, rfl⟩ | ⟨rfl, rfl⟩
    · go_wp2
      go_round
      case rel => exact .inr (.inl ⟨rfl, rfl⟩)
      case measure => simp [intOf]
    · go_wp2
      go_round
      case rel => exact .inr (.inr (.inl ⟨rfl, rfl⟩))
      case measure => simp [intOf]
    · go_wp2
      go_round
      case rel => exact .inr (.inr (.inr ⟨rfl, rfl⟩))
      case measure => simp [intOf]
    · go_wp2_with fail
      refine (N.out _).mono ?_; rintro e w' ⟨rfl, rfl⟩
      go_wp2_with fail
      refine (N2.out _).mono ?_; rintro e w' ⟨rfl, rfl⟩
      go_wp2_with fail
      refine (R.out.1 _).mono ?_; rintro e w1 ⟨rfl, g1⟩
      go_wp2_with fail
      refine (R.out.2 _).mono ?_; rintro e w2 ⟨rfl, g2⟩
      go_wp2_with fail
      refine (T.out.1 _).mono ?_; rintro e w' ⟨rfl, rfl⟩
      go_wp2_with fail
      refine (T.out.2.1 _).mono ?_; rintro e w3 ⟨rfl, g3⟩
      go_wp2_with fail
      refine (T.out.2.2.1 _).mono ?_; rintro e w' ⟨rfl, rfl⟩
      go_wp2_with fail
      refine (T.out.2.2.2.1 _).mono ?_; rintro e w4 ⟨rfl, g4⟩
      go_wp2_with fail
      refine (T.out.2.2.2.2.1 _).mono ?_; rintro e w' ⟨rfl, rfl⟩
      go_wp2_with fail
      refine (T.out.2.2.2.2.2 _).mono ?_; rintro e w5 ⟨rfl, g5⟩
      go_wp2_with fail
      go_ret
      exact ⟨rfl, grown_trans (grown_trans (grown_trans ((Grown.refl _).alloc _ _) g1) (grown_trans g2 g3)) (grown_trans g4 g5)⟩

set_option maxRecDepth 100000 in
set_option maxHeartbeats 4000000 in
theorem order_E (a b : Nat) (w : World) (ha : a < 18446744073709551616) (hb : b < 18446744073709551616) (hna : Flo.nanB a = false) (hnb : Flo.nanB b = false)
    (hL : Flo.rLess a b = false) (hM : Flo.rLess b a = false) (hS : Flo.rEqual a b = true) :
    Calls Try.prog 6 #[.int .u64 a, .int .u64 b] w fun e w' => e = .returned (.bool true) ∧ Grown w w' := by
  have c1 := fun w => less_any a b w
  have c2 := fun w => less_any b a w
  have c3 := fun w => equal_any a b w
  rw [show (Ieee.double.order a b == some .lt) = false from (Flo.order_less a b).trans hL] at c1
  rw [show (Ieee.double.order b a == some .lt) = false from (Flo.order_less b a).trans hM] at c2
  rw [show (Ieee.double.order a b == some .eq) = true from (Flo.order_equal a b).trans hS] at c3
  have d1 := fun w => none_is a _ w ha hna
  have r1 := fun w => rless_is a b _ w ha hb hL
  have r2 := fun w => requal_is a b _ w ha hb hS
  have m1 := fun w => min_any a b w ha hb
  have m2 := fun w => rmin_any a b w ha hb
  have m3 := fun w => max_any a b w ha hb
  have m4 := fun w => rmax_any a b w ha hb
  have m5 := fun w => class_any a w ha
  have m6 := fun w => rclass_any a w ha
  rw [Flo.min_eq ha hb] at m1
  rw [Flo.max_eq ha hb] at m3
  generalize Flo.rMin a b = p at m1 m2
  generalize Flo.rMax a b = q at m3 m4
  generalize Flo.cls a = k at m5 m6
  have C := Lib.hid (And.intro c1 (And.intro c2 c3))
  have R := Lib.hid (And.intro r1 r2)
  have T := Lib.hid (And.intro m1 (And.intro m2 (And.intro m3 (And.intro m4 (And.intro m5 m6)))))
  have N := Lib.hid d1
  have N2 := Lib.hid (fun w => none_is b _ w hb hnb)
  clear c1 c2 c3 r1 r2 m1 m2 m3 m4 m5 m6 d1 hL hM hS hna hnb ha hb
  go_enter Try.func6, Try.ntmps6
  go_wp2_with fail
  refine (fit_any _).mono ?_; rintro e w' ⟨rfl, rfl⟩
  go_wp2_with fail
  refine (C.out.1 _).mono ?_; rintro e w' ⟨rfl, rfl⟩
  go_wp2_with fail
  refine (C.out.2.1 _).mono ?_; rintro e w' ⟨rfl, rfl⟩
  go_wp2_with fail
  refine (C.out.2.2 _).mono ?_; rintro e w' ⟨rfl, rfl⟩
  go_wp2_with fail
  go_loop [8, 28] (fun n i => (n = .int .i64 0 ∧ i = .int .i64 0) ∨ (n = .int .i64 0 ∧ i = .int .i64 1) ∨ (n = .int .i64 0 ∧ i = .int .i64 2) ∨ (n = .int .i64 1 ∧ i = .int .i64 3)) (fun _ i => 3 - (intOf i).toNat)
  case atStart => exact .inl ⟨rfl, rfl⟩
  case round =>
    rcases hrel with ⟨rfl, rfl⟩ | ⟨rfl, rfl⟩ | ⟨rfl, rfl⟩ | ⟨rfl, rfl⟩
    · go_wp2
      go_round
      case rel => exact .inr (.inl ⟨rfl, rfl⟩)
      case measure => simp [intOf]
    · go_wp2
      go_round
      case rel => exact .inr (.inr (.inl ⟨rfl, rfl⟩))
      case measure => simp [intOf]
    · go_wp2
      go_round
      case rel => exact .inr (.inr (.inr ⟨rfl, rfl⟩))
      case measure => simp [intOf]
    · go_wp2_with fail
      refine (N.out _).mono ?_; rintro e w' ⟨rfl, rfl⟩
      go_wp2_with fail
      refine (N2.out _).mono ?_; rintro e w' ⟨rfl, rfl⟩
      go_wp2_with fail
      refine (R.out.1 _).mono ?_; rintro e w1 ⟨rfl, g1⟩
      go_wp2_with fail
      refine (R.out.2 _).mono ?_; rintro e w2 ⟨rfl, g2⟩
      go_wp2_with fail
      refine (T.out.1 _).mono ?_; rintro e w' ⟨rfl, rfl⟩
      go_wp2_with fail
      refine (T.out.2.1 _).mono ?_; rintro e w3 ⟨rfl, g3⟩
      go_wp2_with fail
      refine (T.out.2.2.1 _).mono ?_; rintro e w' ⟨rfl, rfl⟩
      go_wp2_with fail
      refine (T.out.2.2.2.1 _).mono ?_; rintro e w4 ⟨rfl, g4⟩
      go_wp2_with fail
      refine (T.out.2.2.2.2.1 _).mono ?_; rintro e w' ⟨rfl, rfl⟩
      go_wp2_with fail
      refine (T.out.2.2.2.2.2 _).mono ?_; rintro e w5 ⟨rfl, g5⟩
      go_wp2_with fail
      go_ret
      exact ⟨rfl, grown_trans (grown_trans (grown_trans ((Grown.refl _).alloc _ _) g1) (grown_trans g2 g3)) (grown_trans g4 g5)⟩

theorem order_all (a b : Nat) (w : World) (ha : a < 18446744073709551616) (hb : b < 18446744073709551616) :
    Calls Try.prog 6 #[.int .u64 a, .int .u64 b] w fun e w' => e = .returned (.bool true) ∧ Grown w w' := by
  rcases na : Flo.nanB a with _ | _
  · rcases nb : Flo.nanB b with _ | _
    · rcases Int.lt_trichotomy (Flo.rk a) (Flo.rk b) with h | h | h
      · exact order_L a b w ha hb na nb (by unfold Flo.rLess; rw [na, nb, decide_eq_true h]; rfl) (by unfold Flo.rLess; rw [na, nb, decide_eq_false (by omega)]; rfl) (by unfold Flo.rEqual; rw [na, nb, decide_eq_false (by omega)]; rfl)
      · exact order_E a b w ha hb na nb (by unfold Flo.rLess; rw [na, nb, decide_eq_false (by omega)]; rfl) (by unfold Flo.rLess; rw [na, nb, decide_eq_false (by omega)]; rfl) (by unfold Flo.rEqual; rw [na, nb, decide_eq_true h]; rfl)
      · exact order_G a b w ha hb na nb (by unfold Flo.rLess; rw [na, nb, decide_eq_false (by omega)]; rfl) (by unfold Flo.rLess; rw [na, nb, decide_eq_true h]; rfl) (by unfold Flo.rEqual; rw [na, nb, decide_eq_false (by omega)]; rfl)
    · exact order_B a b w ha hb na nb (by unfold Flo.rLess; rw [nb]; simp) (by unfold Flo.rLess; rw [nb]; simp) (by unfold Flo.rEqual; rw [nb]; simp)
  · exact order_A a b w ha hb na (by unfold Flo.rLess; rw [na]; simp) (by unfold Flo.rLess; rw [na]; simp) (by unfold Flo.rEqual; rw [na]; simp)
end Go.Proofs.Ytknclmofpegilaa
