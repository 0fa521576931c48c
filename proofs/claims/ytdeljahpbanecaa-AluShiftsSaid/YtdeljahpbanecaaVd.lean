/- Shifts. Written by genV.py. -/
import Derived.Test.YtdeljahpbanecaaVg
namespace Go.Proofs.Ytdeljahpbanecaa
open Go.RowKit
set_option linter.unusedVariables false
set_option linter.unusedSimpArgs false
theorem doShifts_any (op : Int) (a b r : Nat) (w : World) (ha : a < 18446744073709551616) (hb : b < 18446744073709551616) (h : (Alu.rk op a b).1 = r) : Calls Try.prog 19 #[.int .i64 op, .int .u64 a, .int .u64 b] w fun e w' => e = .returned (.int .u64 r) ∧ Grown w w' := by
  have A := Lib.hid (fun w => reckon_any op a b w ha hb)
  subst h
  generalize Alu.rk op a b = r at A ⊢
  go_enter Try.func19, Try.ntmps19
  go_wp2_with fail
  refine (A.out _).mono ?_; rintro e w1 ⟨rfl, g1⟩
  go_wp2_with fail
  go_ret
  exact ⟨rfl, g1⟩
theorem div_cast (c n : Nat) : (c : Int) / 2 ^ n = ((c / 2 ^ n : Nat) : Int) := by push_cast; rfl
set_option maxHeartbeats 8000000 in
theorem shifts_all (a b : Nat) (w : World) (ha : a < 18446744073709551616) (hb : b < 18446744073709551616) : Calls Try.prog 6 #[.int .u64 a, .int .u64 b] w fun e w' => e = .returned (.bool true) ∧ Grown w w' := by
  have B := Lib.hid fit_any
  have hn := low6 b hb
  obtain ⟨n, en⟩ : ∃ n, b % 64 = n := ⟨_, rfl⟩
  rw [en] at hn
  have n64 : n < 64 := by omega
  have nn : n % 64 = n := by omega
  have lm : n < 18446744073709551616 := by omega
  obtain ⟨D, hD⟩ : ∃ D, (a + a) % 18446744073709551616 = D := ⟨_, rfl⟩
  obtain ⟨V, hV⟩ : ∃ V, a &&& (18446744073709551615 / 2 ^ n) = V := ⟨_, rfl⟩
  have l1 : 1 < 18446744073709551616 := by omega
  have l64 : 64 < 18446744073709551616 := by omega
  have C1 := Lib.hid (fun k w => doShifts_any 12 (Alu.shl a k) 1 (Alu.shl a (k + 1)) w (Alu.shl_lt a k) l1 (by rw [rk_12']; exact Alu.shl_one a k))
  have C2 := Lib.hid (fun k w => doShifts_any 13 (Alu.shr a k) 1 (Alu.shr a (k + 1)) w (Alu.shr_lt a k ha) l1 (by rw [rk_13']; exact Alu.shr_one a k))
  have C3 := Lib.hid (fun k w => doShifts_any 14 (Alu.sar a k) 1 (Alu.sar a (k + 1)) w (Alu.sar_lt a k ha) l1 (by rw [rk_14']; exact Alu.sar_one a k ha))
  have D1 := Lib.hid (fun w => doShifts_any 12 a b (Alu.shl a n) w ha hb (by rw [rk_12', en]))
  have D2 := Lib.hid (fun w => doShifts_any 13 a b (Alu.shr a n) w ha hb (by rw [rk_13', en]))
  have D3 := Lib.hid (fun w => doShifts_any 14 a b (Alu.sar a n) w ha hb (by rw [rk_14', en]))
  have D4 := Lib.hid (fun w => doShifts_any 12 a 1 D w ha l1 (by rw [rk_12', ← hD]; show a * 2 ^ 1 % _ = _; omega))
  have D5 := Lib.hid (fun w => doShifts_any 4 a a D w ha ha (by rw [rk_4']; exact hD))
  have D6 := Lib.hid (fun w => doShifts_any 12 a 64 a w ha l64 (by rw [rk_12']; exact Alu.shl_zero a ha))
  have D7 := Lib.hid (fun w => doShifts_any 12 a n (Alu.shl a n) w ha lm (by rw [rk_12', nn]))
  have D8 := Lib.hid (fun w => doShifts_any 13 (Alu.shl a n) n V w (Alu.shl_lt a n) lm (by rw [rk_13', nn, Alu.shl_shr a n n64]; exact hV))
  have hm : 18446744073709551615 / 2 ^ n < 18446744073709551616 := Nat.lt_of_le_of_lt (Nat.div_le_self _ _) (by omega)
  have e1 : bits .and .u64 (a : Int) (18446744073709551615 / 2 ^ n) = (V : Int) := by
    have h := div_cast 18446744073709551615 n
    rw [show ((18446744073709551615 : Nat) : Int) = 18446744073709551615 from rfl] at h
    rw [h, Alu.and_u64 a _ ha hm, hV]
  have e2 : bits .and .u64 (a : Int) (18446744073709551615 / 2 ^ min n 64) = (V : Int) := by rw [Nat.min_eq_left (by omega)]; exact e1
  have e3 : ((V : Int) == (V : Int)) = true := by rw [beq_iff_eq]
  have z1 := Lib.hid (Alu.shl_zero a ha)
  have z2 := Lib.hid (Alu.shr_zero a)
  have z3 := Lib.hid (Alu.sar_zero a ha)
  have N := Lib.hid n64
  clear en nn lm hD hV l1 l64 ha hb hm n64
  go_enter Try.func6, Try.ntmps6
  go_wp2_with fail
  refine (B.out _).mono ?_; rintro e w1 ⟨rfl, g1⟩
  have G1 := Lib.hid g1
  clear g1
  go_wp2_with fail
  go_loopg [7, 16] n (fun g x i wr => ∃ k : Nat, k ≤ n ∧ g = n - k ∧ x = .int .u64 (Alu.shl a k : Nat) ∧ i = .int .u64 k ∧ Grown w wr)
  case atStart => exact ⟨0, by omega, by omega, by rw [z1.out], rfl, G1.out⟩
  case round =>
    obtain ⟨k, hk, hg, rfl, rfl, gk⟩ := hrel
    have K := Lib.hid (And.intro hk (And.intro hg gk))
    clear hk hg gk
    by_cases hlt : k < n
    · have i1 : IntKind.u64.wrap ((k : Int) + 1) = ((k + 1 : Nat) : Int) := by have := N.out; rw [wrap64]; omega
      go_wp2_with fail
      refine (C1.out k _).mono ?_; rintro e v1 ⟨rfl, k1⟩
      go_wp2_with fail
      go_roundg (n - (k + 1))
      case rel => exact ⟨k + 1, by omega, rfl, rfl, by first | rfl | go_num, grown_trans K.out.2.2 k1⟩
      case measure => have := K.out.2.1; omega
    · obtain rfl : k = n := by have := K.out.1; omega
      go_wp2_with fail
      go_loopg [8, 9, 25] k (fun g y z i wr => ∃ j : Nat, j ≤ k ∧ g = k - j ∧ y = .int .u64 (Alu.shr a j : Nat) ∧ z = .int .u64 (Alu.sar a j : Nat) ∧ i = .int .u64 j ∧ Grown w wr)
      case atStart => exact ⟨0, by omega, by omega, by rw [z2.out], by rw [z3.out], rfl, K.out.2.2⟩
      case round =>
        obtain ⟨j, hj, hg, rfl, rfl, rfl, gj⟩ := hrel
        have J := Lib.hid (And.intro hj (And.intro hg gj))
        clear hj hg gj
        by_cases hlt : j < k
        · have i1 : IntKind.u64.wrap ((j : Int) + 1) = ((j + 1 : Nat) : Int) := by have := N.out; rw [wrap64]; omega
          go_wp2_with fail
          refine (C2.out j _).mono ?_; rintro e v1 ⟨rfl, k1⟩
          go_wp2_with fail
          refine (C3.out j _).mono ?_; rintro e v2 ⟨rfl, k2⟩
          go_wp2_with fail
          go_roundg (k - (j + 1))
          case rel => exact ⟨j + 1, by omega, rfl, rfl, rfl, by first | rfl | go_num, grown_trans J.out.2.2 (grown_trans k1 k2)⟩
          case measure => have := J.out.2.1; omega
        · obtain rfl : j = k := by have := J.out.1; omega
          go_wp2_with fail
          refine (D1.out _).mono ?_; rintro e x1 ⟨rfl, h1⟩
          go_wp2_with fail
          refine (D2.out _).mono ?_; rintro e x2 ⟨rfl, h2⟩
          go_wp2_with fail
          refine (D3.out _).mono ?_; rintro e x3 ⟨rfl, h3⟩
          go_wp2_with fail
          refine (D4.out _).mono ?_; rintro e x4 ⟨rfl, h4⟩
          go_wp2_with fail
          refine (D5.out _).mono ?_; rintro e x5 ⟨rfl, h5⟩
          go_wp2_with fail
          refine (D6.out _).mono ?_; rintro e x6 ⟨rfl, h6⟩
          go_wp2_with fail
          refine (D7.out _).mono ?_; rintro e x7 ⟨rfl, h7⟩
          go_wp2_with fail
          refine (D8.out _).mono ?_; rintro e x8 ⟨rfl, h8⟩
          go_wp2_with fail
          go_ret
          exact ⟨rfl, grown_trans (grown_trans (grown_trans (grown_trans (grown_trans (grown_trans (grown_trans (grown_trans (J.out.2.2) h1) h2) h3) h4) h5) h6) h7) h8⟩
end Go.Proofs.Ytdeljahpbanecaa
