import Derived.Test.YtknclmofpegilaaFh
import Derived.Test.YtknclmofpegilaaMi
namespace Go.Proofs.Ytknclmofpegilaa
open Go.RowKit
set_option linter.unusedVariables false
set_option linter.unusedSimpArgs false

theorem noneN (w : World) : Calls Try.prog 23 #[.int .u64 9221120237041090560] w fun e w' => e = .returned (.bool true) ∧ w = w' := none_is 9221120237041090560 true w (by omega) rfl

set_option maxRecDepth 100000 in
set_option maxHeartbeats 4000000 in
theorem signs_a (a b N M : Nat) (w : World) (ha : a < 18446744073709551616) (hb : b < 18446744073709551616) (hna : Flo.nanB a = true) (hnb : Flo.nanB b = false)
    (hN : a ^^^ 9223372036854775808 = N) (hM : a % 9223372036854775808 = M) :
    Calls Try.prog 8 #[.int .u64 a, .int .u64 b] w fun e w' => e = .returned (.bool true) ∧ Grown w w' := by
  have hbd : Flo.nanB a = true ∨ Flo.nanB b = true := .inl hna
  obtain ⟨r1, r2, r3, r4, r5, r6⟩ := Flo.nan_bad hbd
  have c1 : ∀ w, Calls Try.prog 12 #[.int .u64 a, .int .u64 b] w (Gives (.int .u64 9221120237041090560) w) := fun w => by have h := addG a b w; rw [r1] at h; exact h
  have c2 : ∀ w, Calls Try.prog 14 #[.int .u64 a, .int .u64 b] w (Gives (.int .u64 9221120237041090560) w) := fun w => by have h := subG a b w; rw [r2] at h; exact h
  have c3 : ∀ w, Calls Try.prog 15 #[.int .u64 a, .int .u64 b] w (Gives (.int .u64 9221120237041090560) w) := fun w => by have h := mulG a b w; rw [r3] at h; exact h
  have c4 : ∀ w, Calls Try.prog 17 #[.int .u64 a, .int .u64 b] w (Gives (.int .u64 9221120237041090560) w) := fun w => by have h := divG a b w; rw [r4] at h; exact h
  have c5 : ∀ w, Calls Try.prog 26 #[.int .u64 a, .int .u64 b] w fun e w' => e = .returned (.int .u64 9221120237041090560) ∧ w = w' := fun w => by have h := min_any a b w ha hb; rw [r5] at h; exact h
  have c6 : ∀ w, Calls Try.prog 28 #[.int .u64 a, .int .u64 b] w fun e w' => e = .returned (.int .u64 9221120237041090560) ∧ w = w' := fun w => by have h := max_any a b w ha hb; rw [r6] at h; exact h
  have c7 := fun w => none_is a true w ha hna
  have c8 := fun w => none_is b false w hb hnb
  have hNlt : N < 18446744073709551616 := hN ▸ (Flo.neg_word ha).1
  have hNN : N ^^^ 9223372036854775808 = a := by rw [← hN]; exact Flo.neg_neg a
  have hNM : N % 9223372036854775808 = M := by rw [← hN, ← hM]; exact (Flo.neg_word ha).2.1
  have d1 := fun w => neg_any a w ha
  have d2 := fun w => neg_any N w hNlt
  have d3 := fun w => abs_any a w ha
  have d4 := fun w => abs_any N w hNlt
  rw [hN] at d1; rw [hNN] at d2; rw [hM] at d3; rw [hNM] at d4
  have f1 : bits .xor .u64 (a : Int) 9223372036854775808 = (N : Int) := by rw [← hN]; exact u64_xor_nat a 9223372036854775808 ha (by omega)
  have f2 : bits .and .u64 (a : Int) 9223372036854775807 = (M : Int) := by
    rw [← hM]; refine (u64_and_nat a 9223372036854775807 ha (by omega)).trans ?_
    rw [Nat.and_two_pow_sub_one_eq_mod a 63]
  have C := Lib.hid (And.intro c1 (And.intro c2 (And.intro c3 (And.intro c4 (And.intro c5 c6)))))
  have E := Lib.hid (And.intro c7 c8)
  have X := Lib.hid (And.intro d1 (And.intro d2 (And.intro d3 d4)))
  clear c1 c2 c3 c4 c5 c6 c7 c8 d1 d2 d3 d4 hna hnb hN hM hNlt hNN hNM ha hb r1 r2 r3 r4 r5 r6 hbd
  go_enter Try.func8, Try.ntmps8
  go_wp2_with fail
  refine (fit_any _).mono ?_; rintro e w' ⟨rfl, rfl⟩
  go_wp2_with fail
  refine (E.out.1 _).mono ?_; rintro e w' ⟨rfl, rfl⟩
  go_wp2_with fail
  refine (C.out.1 _).mono ?_; rintro e w1 ⟨rfl, g1⟩
  go_wp2_with fail
  refine (C.out.2.1 _).mono ?_; rintro e w2 ⟨rfl, g2⟩
  go_wp2_with fail
  refine (C.out.2.2.1 _).mono ?_; rintro e w3 ⟨rfl, g3⟩
  go_wp2_with fail
  refine (C.out.2.2.2.1 _).mono ?_; rintro e w4 ⟨rfl, g4⟩
  go_wp2_with fail
  refine (C.out.2.2.2.2.1 _).mono ?_; rintro e w5 ⟨rfl, rfl⟩
  go_wp2_with fail
  refine (C.out.2.2.2.2.2 _).mono ?_; rintro e w6 ⟨rfl, rfl⟩
  go_wp2_with fail
  have G := Lib.hid (grown_trans (grown_trans g1 g2) (grown_trans g3 g4))
  clear C E g1 g2 g3 g4
  go_loop [36] (fun i => ∃ k : Nat, k ≤ 6 ∧ i = .int .i64 k) (fun i => 6 - (intOf i).toNat)
  case atStart => exact ⟨0, by omega, rfl⟩
  case round =>
    obtain ⟨k, hk, rfl⟩ := hrel
    rcases (by omega : k = 0 ∨ k = 1 ∨ k = 2 ∨ k = 3 ∨ k = 4 ∨ k = 5 ∨ k = 6) with rfl | rfl | rfl | rfl | rfl | rfl | rfl
    · have hc : ((0 : Nat) : Int) = 0 := rfl
      go_wp2_with (go_at_call 23; refine (noneN _).mono ?_; rintro e w' ⟨rfl, rfl⟩)
      go_round
      case rel => exact ⟨1, by omega, rfl⟩
      case measure => simp [intOf]
    · have hc : ((1 : Nat) : Int) = 1 := rfl
      go_wp2_with (go_at_call 23; refine (noneN _).mono ?_; rintro e w' ⟨rfl, rfl⟩)
      go_round
      case rel => exact ⟨2, by omega, rfl⟩
      case measure => simp [intOf]
    · have hc : ((2 : Nat) : Int) = 2 := rfl
      go_wp2_with (go_at_call 23; refine (noneN _).mono ?_; rintro e w' ⟨rfl, rfl⟩)
      go_round
      case rel => exact ⟨3, by omega, rfl⟩
      case measure => simp [intOf]
    · have hc : ((3 : Nat) : Int) = 3 := rfl
      go_wp2_with (go_at_call 23; refine (noneN _).mono ?_; rintro e w' ⟨rfl, rfl⟩)
      go_round
      case rel => exact ⟨4, by omega, rfl⟩
      case measure => simp [intOf]
    · have hc : ((4 : Nat) : Int) = 4 := rfl
      go_wp2_with (go_at_call 23; refine (noneN _).mono ?_; rintro e w' ⟨rfl, rfl⟩)
      go_round
      case rel => exact ⟨5, by omega, rfl⟩
      case measure => simp [intOf]
    · have hc : ((5 : Nat) : Int) = 5 := rfl
      go_wp2_with (go_at_call 23; refine (noneN _).mono ?_; rintro e w' ⟨rfl, rfl⟩)
      go_round
      case rel => exact ⟨6, by omega, rfl⟩
      case measure => simp [intOf]
    · have hc : ((6 : Nat) : Int) = 6 := rfl
      go_wp2_with fail
      refine (X.out.1 _).mono ?_; rintro e w' ⟨rfl, rfl⟩
      go_wp2_with fail
      refine (X.out.2.2.1 _).mono ?_; rintro e w' ⟨rfl, rfl⟩
      go_wp2_with fail
      refine (X.out.1 _).mono ?_; rintro e w' ⟨rfl, rfl⟩
      go_wp2_with fail
      refine (X.out.2.1 _).mono ?_; rintro e w' ⟨rfl, rfl⟩
      go_wp2_with fail
      refine (X.out.1 _).mono ?_; rintro e w' ⟨rfl, rfl⟩
      go_wp2_with fail
      refine (X.out.2.2.2 _).mono ?_; rintro e w' ⟨rfl, rfl⟩
      go_wp2_with fail
      refine (X.out.2.2.1 _).mono ?_; rintro e w' ⟨rfl, rfl⟩
      go_wp2_with fail
      go_ret
      exact ⟨rfl, G.out.alloc _ _⟩

set_option maxRecDepth 100000 in
set_option maxHeartbeats 4000000 in
theorem signs_ab (a b N M : Nat) (w : World) (ha : a < 18446744073709551616) (hb : b < 18446744073709551616) (hna : Flo.nanB a = true) (hnb : Flo.nanB b = true)
    (hN : a ^^^ 9223372036854775808 = N) (hM : a % 9223372036854775808 = M) :
    Calls Try.prog 8 #[.int .u64 a, .int .u64 b] w fun e w' => e = .returned (.bool true) ∧ Grown w w' := by
  have hbd : Flo.nanB a = true ∨ Flo.nanB b = true := .inl hna
  obtain ⟨r1, r2, r3, r4, r5, r6⟩ := Flo.nan_bad hbd
  have c1 : ∀ w, Calls Try.prog 12 #[.int .u64 a, .int .u64 b] w (Gives (.int .u64 9221120237041090560) w) := fun w => by have h := addG a b w; rw [r1] at h; exact h
  have c2 : ∀ w, Calls Try.prog 14 #[.int .u64 a, .int .u64 b] w (Gives (.int .u64 9221120237041090560) w) := fun w => by have h := subG a b w; rw [r2] at h; exact h
  have c3 : ∀ w, Calls Try.prog 15 #[.int .u64 a, .int .u64 b] w (Gives (.int .u64 9221120237041090560) w) := fun w => by have h := mulG a b w; rw [r3] at h; exact h
  have c4 : ∀ w, Calls Try.prog 17 #[.int .u64 a, .int .u64 b] w (Gives (.int .u64 9221120237041090560) w) := fun w => by have h := divG a b w; rw [r4] at h; exact h
  have c5 : ∀ w, Calls Try.prog 26 #[.int .u64 a, .int .u64 b] w fun e w' => e = .returned (.int .u64 9221120237041090560) ∧ w = w' := fun w => by have h := min_any a b w ha hb; rw [r5] at h; exact h
  have c6 : ∀ w, Calls Try.prog 28 #[.int .u64 a, .int .u64 b] w fun e w' => e = .returned (.int .u64 9221120237041090560) ∧ w = w' := fun w => by have h := max_any a b w ha hb; rw [r6] at h; exact h
  have c7 := fun w => none_is a true w ha hna
  have c8 := fun w => none_is b true w hb hnb
  have hNlt : N < 18446744073709551616 := hN ▸ (Flo.neg_word ha).1
  have hNN : N ^^^ 9223372036854775808 = a := by rw [← hN]; exact Flo.neg_neg a
  have hNM : N % 9223372036854775808 = M := by rw [← hN, ← hM]; exact (Flo.neg_word ha).2.1
  have d1 := fun w => neg_any a w ha
  have d2 := fun w => neg_any N w hNlt
  have d3 := fun w => abs_any a w ha
  have d4 := fun w => abs_any N w hNlt
  rw [hN] at d1; rw [hNN] at d2; rw [hM] at d3; rw [hNM] at d4
  have f1 : bits .xor .u64 (a : Int) 9223372036854775808 = (N : Int) := by rw [← hN]; exact u64_xor_nat a 9223372036854775808 ha (by omega)
  have f2 : bits .and .u64 (a : Int) 9223372036854775807 = (M : Int) := by
    rw [← hM]; refine (u64_and_nat a 9223372036854775807 ha (by omega)).trans ?_
    rw [Nat.and_two_pow_sub_one_eq_mod a 63]
  have C := Lib.hid (And.intro c1 (And.intro c2 (And.intro c3 (And.intro c4 (And.intro c5 c6)))))
  have E := Lib.hid (And.intro c7 c8)
  have X := Lib.hid (And.intro d1 (And.intro d2 (And.intro d3 d4)))
  clear c1 c2 c3 c4 c5 c6 c7 c8 d1 d2 d3 d4 hna hnb hN hM hNlt hNN hNM ha hb r1 r2 r3 r4 r5 r6 hbd
  go_enter Try.func8, Try.ntmps8
  go_wp2_with fail
  refine (fit_any _).mono ?_; rintro e w' ⟨rfl, rfl⟩
  go_wp2_with fail
  refine (E.out.1 _).mono ?_; rintro e w' ⟨rfl, rfl⟩
  go_wp2_with fail
  refine (C.out.1 _).mono ?_; rintro e w1 ⟨rfl, g1⟩
  go_wp2_with fail
  refine (C.out.2.1 _).mono ?_; rintro e w2 ⟨rfl, g2⟩
  go_wp2_with fail
  refine (C.out.2.2.1 _).mono ?_; rintro e w3 ⟨rfl, g3⟩
  go_wp2_with fail
  refine (C.out.2.2.2.1 _).mono ?_; rintro e w4 ⟨rfl, g4⟩
  go_wp2_with fail
  refine (C.out.2.2.2.2.1 _).mono ?_; rintro e w5 ⟨rfl, rfl⟩
  go_wp2_with fail
  refine (C.out.2.2.2.2.2 _).mono ?_; rintro e w6 ⟨rfl, rfl⟩
  go_wp2_with fail
  have G := Lib.hid (grown_trans (grown_trans g1 g2) (grown_trans g3 g4))
  clear C E g1 g2 g3 g4
  go_loop [36] (fun i => ∃ k : Nat, k ≤ 6 ∧ i = .int .i64 k) (fun i => 6 - (intOf i).toNat)
  case atStart => exact ⟨0, by omega, rfl⟩
  case round =>
    obtain ⟨k, hk, rfl⟩ := hrel
    rcases (by omega : k = 0 ∨ k = 1 ∨ k = 2 ∨ k = 3 ∨ k = 4 ∨ k = 5 ∨ k = 6) with rfl | rfl | rfl | rfl | rfl | rfl | rfl
    · have hc : ((0 : Nat) : Int) = 0 := rfl
      go_wp2_with (go_at_call 23; refine (noneN _).mono ?_; rintro e w' ⟨rfl, rfl⟩)
      go_round
      case rel => exact ⟨1, by omega, rfl⟩
      case measure => simp [intOf]
    · have hc : ((1 : Nat) : Int) = 1 := rfl
      go_wp2_with (go_at_call 23; refine (noneN _).mono ?_; rintro e w' ⟨rfl, rfl⟩)
      go_round
      case rel => exact ⟨2, by omega, rfl⟩
      case measure => simp [intOf]
    · have hc : ((2 : Nat) : Int) = 2 := rfl
      go_wp2_with (go_at_call 23; refine (noneN _).mono ?_; rintro e w' ⟨rfl, rfl⟩)
      go_round
      case rel => exact ⟨3, by omega, rfl⟩
      case measure => simp [intOf]
    · have hc : ((3 : Nat) : Int) = 3 := rfl
      go_wp2_with (go_at_call 23; refine (noneN _).mono ?_; rintro e w' ⟨rfl, rfl⟩)
      go_round
      case rel => exact ⟨4, by omega, rfl⟩
      case measure => simp [intOf]
    · have hc : ((4 : Nat) : Int) = 4 := rfl
      go_wp2_with (go_at_call 23; refine (noneN _).mono ?_; rintro e w' ⟨rfl, rfl⟩)
      go_round
      case rel => exact ⟨5, by omega, rfl⟩
      case measure => simp [intOf]
    · have hc : ((5 : Nat) : Int) = 5 := rfl
      go_wp2_with (go_at_call 23; refine (noneN _).mono ?_; rintro e w' ⟨rfl, rfl⟩)
      go_round
      case rel => exact ⟨6, by omega, rfl⟩
      case measure => simp [intOf]
    · have hc : ((6 : Nat) : Int) = 6 := rfl
      go_wp2_with fail
      refine (X.out.1 _).mono ?_; rintro e w' ⟨rfl, rfl⟩
      go_wp2_with fail
      refine (X.out.2.2.1 _).mono ?_; rintro e w' ⟨rfl, rfl⟩
      go_wp2_with fail
      refine (X.out.1 _).mono ?_; rintro e w' ⟨rfl, rfl⟩
      go_wp2_with fail
      refine (X.out.2.1 _).mono ?_; rintro e w' ⟨rfl, rfl⟩
      go_wp2_with fail
      refine (X.out.1 _).mono ?_; rintro e w' ⟨rfl, rfl⟩
      go_wp2_with fail
      refine (X.out.2.2.2 _).mono ?_; rintro e w' ⟨rfl, rfl⟩
      go_wp2_with fail
      refine (X.out.2.2.1 _).mono ?_; rintro e w' ⟨rfl, rfl⟩
      go_wp2_with fail
      go_ret
      exact ⟨rfl, G.out.alloc _ _⟩

set_option maxRecDepth 100000 in
set_option maxHeartbeats 4000000 in
theorem signs_b (a b N M : Nat) (w : World) (ha : a < 18446744073709551616) (hb : b < 18446744073709551616) (hna : Flo.nanB a = false) (hnb : Flo.nanB b = true)
    (hN : a ^^^ 9223372036854775808 = N) (hM : a % 9223372036854775808 = M) :
    Calls Try.prog 8 #[.int .u64 a, .int .u64 b] w fun e w' => e = .returned (.bool true) ∧ Grown w w' := by
  have hbd : Flo.nanB a = true ∨ Flo.nanB b = true := .inr hnb
  obtain ⟨r1, r2, r3, r4, r5, r6⟩ := Flo.nan_bad hbd
  have c1 : ∀ w, Calls Try.prog 12 #[.int .u64 a, .int .u64 b] w (Gives (.int .u64 9221120237041090560) w) := fun w => by have h := addG a b w; rw [r1] at h; exact h
  have c2 : ∀ w, Calls Try.prog 14 #[.int .u64 a, .int .u64 b] w (Gives (.int .u64 9221120237041090560) w) := fun w => by have h := subG a b w; rw [r2] at h; exact h
  have c3 : ∀ w, Calls Try.prog 15 #[.int .u64 a, .int .u64 b] w (Gives (.int .u64 9221120237041090560) w) := fun w => by have h := mulG a b w; rw [r3] at h; exact h
  have c4 : ∀ w, Calls Try.prog 17 #[.int .u64 a, .int .u64 b] w (Gives (.int .u64 9221120237041090560) w) := fun w => by have h := divG a b w; rw [r4] at h; exact h
  have c5 : ∀ w, Calls Try.prog 26 #[.int .u64 a, .int .u64 b] w fun e w' => e = .returned (.int .u64 9221120237041090560) ∧ w = w' := fun w => by have h := min_any a b w ha hb; rw [r5] at h; exact h
  have c6 : ∀ w, Calls Try.prog 28 #[.int .u64 a, .int .u64 b] w fun e w' => e = .returned (.int .u64 9221120237041090560) ∧ w = w' := fun w => by have h := max_any a b w ha hb; rw [r6] at h; exact h
  have c7 := fun w => none_is a false w ha hna
  have c8 := fun w => none_is b true w hb hnb
  have hNlt : N < 18446744073709551616 := hN ▸ (Flo.neg_word ha).1
  have hNN : N ^^^ 9223372036854775808 = a := by rw [← hN]; exact Flo.neg_neg a
  have hNM : N % 9223372036854775808 = M := by rw [← hN, ← hM]; exact (Flo.neg_word ha).2.1
  have d1 := fun w => neg_any a w ha
  have d2 := fun w => neg_any N w hNlt
  have d3 := fun w => abs_any a w ha
  have d4 := fun w => abs_any N w hNlt
  rw [hN] at d1; rw [hNN] at d2; rw [hM] at d3; rw [hNM] at d4
  have f1 : bits .xor .u64 (a : Int) 9223372036854775808 = (N : Int) := by rw [← hN]; exact u64_xor_nat a 9223372036854775808 ha (by omega)
  have f2 : bits .and .u64 (a : Int) 9223372036854775807 = (M : Int) := by
    rw [← hM]; refine (u64_and_nat a 9223372036854775807 ha (by omega)).trans ?_
    rw [Nat.and_two_pow_sub_one_eq_mod a 63]
  have C := Lib.hid (And.intro c1 (And.intro c2 (And.intro c3 (And.intro c4 (And.intro c5 c6)))))
  have E := Lib.hid (And.intro c7 c8)
  have X := Lib.hid (And.intro d1 (And.intro d2 (And.intro d3 d4)))
  clear c1 c2 c3 c4 c5 c6 c7 c8 d1 d2 d3 d4 hna hnb hN hM hNlt hNN hNM ha hb r1 r2 r3 r4 r5 r6 hbd
  go_enter Try.func8, Try.ntmps8
  go_wp2_with fail
  refine (fit_any _).mono ?_; rintro e w' ⟨rfl, rfl⟩
  go_wp2_with fail
  refine (E.out.1 _).mono ?_; rintro e w' ⟨rfl, rfl⟩
  go_wp2_with fail
  refine (E.out.2 _).mono ?_; rintro e w' ⟨rfl, rfl⟩
  go_wp2_with fail
  refine (C.out.1 _).mono ?_; rintro e w1 ⟨rfl, g1⟩
  go_wp2_with fail
  refine (C.out.2.1 _).mono ?_; rintro e w2 ⟨rfl, g2⟩
  go_wp2_with fail
  refine (C.out.2.2.1 _).mono ?_; rintro e w3 ⟨rfl, g3⟩
  go_wp2_with fail
  refine (C.out.2.2.2.1 _).mono ?_; rintro e w4 ⟨rfl, g4⟩
  go_wp2_with fail
  refine (C.out.2.2.2.2.1 _).mono ?_; rintro e w5 ⟨rfl, rfl⟩
  go_wp2_with fail
  refine (C.out.2.2.2.2.2 _).mono ?_; rintro e w6 ⟨rfl, rfl⟩
  go_wp2_with fail
  have G := Lib.hid (grown_trans (grown_trans g1 g2) (grown_trans g3 g4))
  clear C E g1 g2 g3 g4
  go_loop [36] (fun i => ∃ k : Nat, k ≤ 6 ∧ i = .int .i64 k) (fun i => 6 - (intOf i).toNat)
  case atStart => exact ⟨0, by omega, rfl⟩
  case round =>
    obtain ⟨k, hk, rfl⟩ := hrel
    rcases (by omega : k = 0 ∨ k = 1 ∨ k = 2 ∨ k = 3 ∨ k = 4 ∨ k = 5 ∨ k = 6) with rfl | rfl | rfl | rfl | rfl | rfl | rfl
    · have hc : ((0 : Nat) : Int) = 0 := rfl
      go_wp2_with (go_at_call 23; refine (noneN _).mono ?_; rintro e w' ⟨rfl, rfl⟩)
      go_round
      case rel => exact ⟨1, by omega, rfl⟩
      case measure => simp [intOf]
    · have hc : ((1 : Nat) : Int) = 1 := rfl
      go_wp2_with (go_at_call 23; refine (noneN _).mono ?_; rintro e w' ⟨rfl, rfl⟩)
      go_round
      case rel => exact ⟨2, by omega, rfl⟩
      case measure => simp [intOf]
    · have hc : ((2 : Nat) : Int) = 2 := rfl
      go_wp2_with (go_at_call 23; refine (noneN _).mono ?_; rintro e w' ⟨rfl, rfl⟩)
      go_round
      case rel => exact ⟨3, by omega, rfl⟩
      case measure => simp [intOf]
    · have hc : ((3 : Nat) : Int) = 3 := rfl
      go_wp2_with (go_at_call 23; refine (noneN _).mono ?_; rintro e w' ⟨rfl, rfl⟩)
      go_round
      case rel => exact ⟨4, by omega, rfl⟩
      case measure => simp [intOf]
    · have hc : ((4 : Nat) : Int) = 4 := rfl
      go_wp2_with (go_at_call 23; refine (noneN _).mono ?_; rintro e w' ⟨rfl, rfl⟩)
      go_round
      case rel => exact ⟨5, by omega, rfl⟩
      case measure => simp [intOf]
    · have hc : ((5 : Nat) : Int) = 5 := rfl
      go_wp2_with (go_at_call 23; refine (noneN _).mono ?_; rintro e w' ⟨rfl, rfl⟩)
      go_round
      case rel => exact ⟨6, by omega, rfl⟩
      case measure => simp [intOf]
    · have hc : ((6 : Nat) : Int) = 6 := rfl
      go_wp2_with fail
      refine (X.out.1 _).mono ?_; rintro e w' ⟨rfl, rfl⟩
      go_wp2_with fail
      refine (X.out.2.2.1 _).mono ?_; rintro e w' ⟨rfl, rfl⟩
      go_wp2_with fail
      refine (X.out.1 _).mono ?_; rintro e w' ⟨rfl, rfl⟩
      go_wp2_with fail
      refine (X.out.2.1 _).mono ?_; rintro e w' ⟨rfl, rfl⟩
      go_wp2_with fail
      refine (X.out.1 _).mono ?_; rintro e w' ⟨rfl, rfl⟩
      go_wp2_with fail
      refine (X.out.2.2.2 _).mono ?_; rintro e w' ⟨rfl, rfl⟩
      go_wp2_with fail
      refine (X.out.2.2.1 _).mono ?_; rintro e w' ⟨rfl, rfl⟩
      go_wp2_with fail
      go_ret
      exact ⟨rfl, G.out.alloc _ _⟩

set_option maxRecDepth 100000 in
set_option maxHeartbeats 4000000 in
theorem signs_ok (a b N M : Nat) (w : World) (ha : a < 18446744073709551616) (hb : b < 18446744073709551616) (hna : Flo.nanB a = false) (hnb : Flo.nanB b = false)
    (hN : a ^^^ 9223372036854775808 = N) (hM : a % 9223372036854775808 = M) :
    Calls Try.prog 8 #[.int .u64 a, .int .u64 b] w fun e w' => e = .returned (.bool true) ∧ Grown w w' := by
  have p1 := Flo.res_add a b
  obtain ⟨r1, q1⟩ : ∃ r, Flo.fAdd a b = r := ⟨_, rfl⟩
  rw [q1] at p1
  have p2 := Flo.res_sub a b
  obtain ⟨r2, q2⟩ : ∃ r, Flo.fSub a b = r := ⟨_, rfl⟩
  rw [q2] at p2
  have p3 := Flo.res_mul a b
  obtain ⟨r3, q3⟩ : ∃ r, Flo.fMul a b = r := ⟨_, rfl⟩
  rw [q3] at p3
  have p4 := Flo.res_div a b
  obtain ⟨r4, q4⟩ : ∃ r, Flo.fDiv a b = r := ⟨_, rfl⟩
  rw [q4] at p4
  have p5 := Flo.min_res ha hb
  obtain ⟨r5, q5⟩ : ∃ r, Flo.fMin a b = r := ⟨_, rfl⟩
  rw [q5] at p5
  have p6 := Flo.max_res ha hb
  obtain ⟨r6, q6⟩ : ∃ r, Flo.fMax a b = r := ⟨_, rfl⟩
  rw [q6] at p6
  have c1 : ∀ w, Calls Try.prog 12 #[.int .u64 a, .int .u64 b] w (Gives (.int .u64 (r1 : Nat)) w) := fun w => by rw [← q1]; exact addG a b w
  have c2 : ∀ w, Calls Try.prog 14 #[.int .u64 a, .int .u64 b] w (Gives (.int .u64 (r2 : Nat)) w) := fun w => by rw [← q2]; exact subG a b w
  have c3 : ∀ w, Calls Try.prog 15 #[.int .u64 a, .int .u64 b] w (Gives (.int .u64 (r3 : Nat)) w) := fun w => by rw [← q3]; exact mulG a b w
  have c4 : ∀ w, Calls Try.prog 17 #[.int .u64 a, .int .u64 b] w (Gives (.int .u64 (r4 : Nat)) w) := fun w => by rw [← q4]; exact divG a b w
  have c5 : ∀ w, Calls Try.prog 26 #[.int .u64 a, .int .u64 b] w fun e w' => e = .returned (.int .u64 (r5 : Nat)) ∧ w = w' := fun w => by rw [← q5]; exact min_any a b w ha hb
  have c6 : ∀ w, Calls Try.prog 28 #[.int .u64 a, .int .u64 b] w fun e w' => e = .returned (.int .u64 (r6 : Nat)) ∧ w = w' := fun w => by rw [← q6]; exact max_any a b w ha hb
  have c7 := fun w => none_is a false w ha hna
  have c8 := fun w => none_is b false w hb hnb
  have hNlt : N < 18446744073709551616 := hN ▸ (Flo.neg_word ha).1
  have hNN : N ^^^ 9223372036854775808 = a := by rw [← hN]; exact Flo.neg_neg a
  have hNM : N % 9223372036854775808 = M := by rw [← hN, ← hM]; exact (Flo.neg_word ha).2.1
  have d1 := fun w => neg_any a w ha
  have d2 := fun w => neg_any N w hNlt
  have d3 := fun w => abs_any a w ha
  have d4 := fun w => abs_any N w hNlt
  rw [hN] at d1; rw [hNN] at d2; rw [hM] at d3; rw [hNM] at d4
  have f1 : bits .xor .u64 (a : Int) 9223372036854775808 = (N : Int) := by rw [← hN]; exact u64_xor_nat a 9223372036854775808 ha (by omega)
  have f2 : bits .and .u64 (a : Int) 9223372036854775807 = (M : Int) := by
    rw [← hM]; refine (u64_and_nat a 9223372036854775807 ha (by omega)).trans ?_
    rw [Nat.and_two_pow_sub_one_eq_mod a 63]
  obtain ⟨B, hB⟩ : ∃ B, b ^^^ 9223372036854775808 = B := ⟨_, rfl⟩
  have d5 := fun w => neg_any b w hb
  have d6 : ∀ w, Calls Try.prog 12 #[.int .u64 a, .int .u64 B] w (Gives (.int .u64 (r2 : Nat)) w) := fun w => by rw [← q2, Flo.sub_neg hb, hB]; exact addG a B w
  rw [hB] at d5
  have Y := Lib.hid (And.intro c2 (And.intro d5 d6))
  have PP := Lib.hid (And.intro p1 (And.intro p2 (And.intro p3 (And.intro p4 (And.intro p5 p6)))))
  clear d5 d6 hB p1 p2 p3 p4 p5 p6 q1 q2 q3 q4 q5 q6
  have C := Lib.hid (And.intro c1 (And.intro c2 (And.intro c3 (And.intro c4 (And.intro c5 c6)))))
  have E := Lib.hid (And.intro c7 c8)
  have X := Lib.hid (And.intro d1 (And.intro d2 (And.intro d3 d4)))
  clear c1 c2 c3 c4 c5 c6 c7 c8 d1 d2 d3 d4 hna hnb hN hM hNlt hNN hNM ha hb
  go_enter Try.func8, Try.ntmps8
  go_wp2_with fail
  refine (fit_any _).mono ?_; rintro e w' ⟨rfl, rfl⟩
  go_wp2_with fail
  refine (E.out.1 _).mono ?_; rintro e w' ⟨rfl, rfl⟩
  go_wp2_with fail
  refine (E.out.2 _).mono ?_; rintro e w' ⟨rfl, rfl⟩
  go_wp2_with fail
  refine (C.out.1 _).mono ?_; rintro e w1 ⟨rfl, g1⟩
  go_wp2_with fail
  refine (C.out.2.1 _).mono ?_; rintro e w2 ⟨rfl, g2⟩
  go_wp2_with fail
  refine (C.out.2.2.1 _).mono ?_; rintro e w3 ⟨rfl, g3⟩
  go_wp2_with fail
  refine (C.out.2.2.2.1 _).mono ?_; rintro e w4 ⟨rfl, g4⟩
  go_wp2_with fail
  refine (C.out.2.2.2.2.1 _).mono ?_; rintro e w5 ⟨rfl, rfl⟩
  go_wp2_with fail
  refine (C.out.2.2.2.2.2 _).mono ?_; rintro e w6 ⟨rfl, rfl⟩
  go_wp2_with fail
  have G := Lib.hid (grown_trans (grown_trans g1 g2) (grown_trans g3 g4))
  clear C E g1 g2 g3 g4
  go_loop [36] (fun i => ∃ k : Nat, k ≤ 6 ∧ i = .int .i64 k) (fun i => 6 - (intOf i).toNat)
  case atStart => exact ⟨0, by omega, rfl⟩
  case round =>
    obtain ⟨k, hk, rfl⟩ := hrel
    rcases (by omega : k = 0 ∨ k = 1 ∨ k = 2 ∨ k = 3 ∨ k = 4 ∨ k = 5 ∨ k = 6) with rfl | rfl | rfl | rfl | rfl | rfl | rfl
    · have hc : ((0 : Nat) : Int) = 0 := rfl
      obtain ⟨hl, hr⟩ := PP.out.1
      rcases hn : Flo.nanB r1 with _ | _
      · have n1 := Lib.hid (fun w => none_is r1 false w hl hn)
        clear hl hr hn
        go_wp2_with (go_at_call 23; refine (n1.out _).mono ?_; rintro e w' ⟨rfl, rfl⟩)
        go_round
        case rel => exact ⟨1, by omega, rfl⟩
        case measure => simp [intOf]
      · have n1 := Lib.hid (fun w => none_is r1 true w hl hn)
        have hv : ((r1 : Int) != 9221120237041090560) = false := by rw [hr hn]; rfl
        clear hl hr hn
        go_wp2_with (go_at_call 23; refine (n1.out _).mono ?_; rintro e w' ⟨rfl, rfl⟩)
        go_round
        case rel => exact ⟨1, by omega, rfl⟩
        case measure => simp [intOf]
    · have hc : ((1 : Nat) : Int) = 1 := rfl
      obtain ⟨hl, hr⟩ := PP.out.2.1
      rcases hn : Flo.nanB r2 with _ | _
      · have n1 := Lib.hid (fun w => none_is r2 false w hl hn)
        clear hl hr hn
        go_wp2_with (go_at_call 23; refine (n1.out _).mono ?_; rintro e w' ⟨rfl, rfl⟩)
        go_round
        case rel => exact ⟨2, by omega, rfl⟩
        case measure => simp [intOf]
      · have n1 := Lib.hid (fun w => none_is r2 true w hl hn)
        have hv : ((r2 : Int) != 9221120237041090560) = false := by rw [hr hn]; rfl
        clear hl hr hn
        go_wp2_with (go_at_call 23; refine (n1.out _).mono ?_; rintro e w' ⟨rfl, rfl⟩)
        go_round
        case rel => exact ⟨2, by omega, rfl⟩
        case measure => simp [intOf]
    · have hc : ((2 : Nat) : Int) = 2 := rfl
      obtain ⟨hl, hr⟩ := PP.out.2.2.1
      rcases hn : Flo.nanB r3 with _ | _
      · have n1 := Lib.hid (fun w => none_is r3 false w hl hn)
        clear hl hr hn
        go_wp2_with (go_at_call 23; refine (n1.out _).mono ?_; rintro e w' ⟨rfl, rfl⟩)
        go_round
        case rel => exact ⟨3, by omega, rfl⟩
        case measure => simp [intOf]
      · have n1 := Lib.hid (fun w => none_is r3 true w hl hn)
        have hv : ((r3 : Int) != 9221120237041090560) = false := by rw [hr hn]; rfl
        clear hl hr hn
        go_wp2_with (go_at_call 23; refine (n1.out _).mono ?_; rintro e w' ⟨rfl, rfl⟩)
        go_round
        case rel => exact ⟨3, by omega, rfl⟩
        case measure => simp [intOf]
    · have hc : ((3 : Nat) : Int) = 3 := rfl
      obtain ⟨hl, hr⟩ := PP.out.2.2.2.1
      rcases hn : Flo.nanB r4 with _ | _
      · have n1 := Lib.hid (fun w => none_is r4 false w hl hn)
        clear hl hr hn
        go_wp2_with (go_at_call 23; refine (n1.out _).mono ?_; rintro e w' ⟨rfl, rfl⟩)
        go_round
        case rel => exact ⟨4, by omega, rfl⟩
        case measure => simp [intOf]
      · have n1 := Lib.hid (fun w => none_is r4 true w hl hn)
        have hv : ((r4 : Int) != 9221120237041090560) = false := by rw [hr hn]; rfl
        clear hl hr hn
        go_wp2_with (go_at_call 23; refine (n1.out _).mono ?_; rintro e w' ⟨rfl, rfl⟩)
        go_round
        case rel => exact ⟨4, by omega, rfl⟩
        case measure => simp [intOf]
    · have hc : ((4 : Nat) : Int) = 4 := rfl
      obtain ⟨hl, hr⟩ := PP.out.2.2.2.2.1
      rcases hn : Flo.nanB r5 with _ | _
      · have n1 := Lib.hid (fun w => none_is r5 false w hl hn)
        clear hl hr hn
        go_wp2_with (go_at_call 23; refine (n1.out _).mono ?_; rintro e w' ⟨rfl, rfl⟩)
        go_round
        case rel => exact ⟨5, by omega, rfl⟩
        case measure => simp [intOf]
      · have n1 := Lib.hid (fun w => none_is r5 true w hl hn)
        have hv : ((r5 : Int) != 9221120237041090560) = false := by rw [hr hn]; rfl
        clear hl hr hn
        go_wp2_with (go_at_call 23; refine (n1.out _).mono ?_; rintro e w' ⟨rfl, rfl⟩)
        go_round
        case rel => exact ⟨5, by omega, rfl⟩
        case measure => simp [intOf]
    · have hc : ((5 : Nat) : Int) = 5 := rfl
      obtain ⟨hl, hr⟩ := PP.out.2.2.2.2.2
      rcases hn : Flo.nanB r6 with _ | _
      · have n1 := Lib.hid (fun w => none_is r6 false w hl hn)
        clear hl hr hn
        go_wp2_with (go_at_call 23; refine (n1.out _).mono ?_; rintro e w' ⟨rfl, rfl⟩)
        go_round
        case rel => exact ⟨6, by omega, rfl⟩
        case measure => simp [intOf]
      · have n1 := Lib.hid (fun w => none_is r6 true w hl hn)
        have hv : ((r6 : Int) != 9221120237041090560) = false := by rw [hr hn]; rfl
        clear hl hr hn
        go_wp2_with (go_at_call 23; refine (n1.out _).mono ?_; rintro e w' ⟨rfl, rfl⟩)
        go_round
        case rel => exact ⟨6, by omega, rfl⟩
        case measure => simp [intOf]
    · have hc : ((6 : Nat) : Int) = 6 := rfl
      go_wp2_with fail
      refine (X.out.1 _).mono ?_; rintro e w' ⟨rfl, rfl⟩
      go_wp2_with fail
      refine (X.out.2.2.1 _).mono ?_; rintro e w' ⟨rfl, rfl⟩
      go_wp2_with fail
      refine (X.out.1 _).mono ?_; rintro e w' ⟨rfl, rfl⟩
      go_wp2_with fail
      refine (X.out.2.1 _).mono ?_; rintro e w' ⟨rfl, rfl⟩
      go_wp2_with fail
      refine (X.out.1 _).mono ?_; rintro e w' ⟨rfl, rfl⟩
      go_wp2_with fail
      refine (X.out.2.2.2 _).mono ?_; rintro e w' ⟨rfl, rfl⟩
      go_wp2_with fail
      refine (X.out.2.2.1 _).mono ?_; rintro e w' ⟨rfl, rfl⟩
      go_wp2_with fail
      refine (Y.out.1 _).mono ?_; rintro e w7 ⟨rfl, g7⟩
      go_wp2_with fail
      refine (Y.out.2.1 _).mono ?_; rintro e w' ⟨rfl, rfl⟩
      go_wp2_with fail
      refine (Y.out.2.2 _).mono ?_; rintro e w8 ⟨rfl, g8⟩
      go_wp2_with fail
      go_ret
      exact ⟨rfl, grown_trans (G.out.alloc _ _) (grown_trans g7 g8)⟩

end Go.Proofs.Ytknclmofpegilaa
