/- Bits. Written by genV.py. -/
import Derived.Test.YtdeljahpbanecaaVg
namespace Go.Proofs.Ytdeljahpbanecaa
open Go.RowKit
set_option linter.unusedVariables false
set_option linter.unusedSimpArgs false
theorem doBits_any (op : Int) (a b r : Nat) (w : World) (ha : a < 18446744073709551616) (hb : b < 18446744073709551616) (h : (Alu.rk op a b).1 = r) : Calls Try.prog 20 #[.int .i64 op, .int .u64 a, .int .u64 b] w fun e w' => e = .returned (.int .u64 r) ∧ Grown w w' := by
  have A := Lib.hid (fun w => reckon_any op a b w ha hb)
  subst h
  generalize Alu.rk op a b = r at A ⊢
  go_enter Try.func20, Try.ntmps20
  go_wp2_with fail
  refine (A.out _).mono ?_; rintro e w1 ⟨rfl, g1⟩
  go_wp2_with fail
  go_ret
  exact ⟨rfl, g1⟩
set_option maxHeartbeats 4000000 in
theorem bits_all (a b : Nat) (w : World) (ha : a < 18446744073709551616) (hb : b < 18446744073709551616) : Calls Try.prog 7 #[.int .u64 a, .int .u64 b] w fun e w' => e = .returned (.bool true) ∧ Grown w w' := by
  have B := Lib.hid fit_any
  obtain ⟨X, hX⟩ : ∃ X, a &&& b = X := ⟨_, rfl⟩
  obtain ⟨Y, hY⟩ : ∃ Y, a ||| b = Y := ⟨_, rfl⟩
  obtain ⟨Z, hZ⟩ : ∃ Z, a ^^^ b = Z := ⟨_, rfl⟩
  obtain ⟨S, hS⟩ : ∃ S, (a + b) % 18446744073709551616 = S := ⟨_, rfl⟩
  obtain ⟨D, hD⟩ : ∃ D, (a + a) % 18446744073709551616 = D := ⟨_, rfl⟩
  obtain ⟨U, hU⟩ : ∃ U, a * 3 % 18446744073709551616 = U := ⟨_, rfl⟩
  have lX : X < 18446744073709551616 := hX ▸ Alu.and_lt a b ha
  have lY : Y < 18446744073709551616 := hY ▸ Alu.or_lt a b ha hb
  have lZ : Z < 18446744073709551616 := hZ ▸ Alu.xor_lt a b ha hb
  have lS : S < 18446744073709551616 := by omega
  have lD : D < 18446744073709551616 := by omega
  have l3 : 3 < 18446744073709551616 := by omega
  have C0 := Lib.hid (fun w => doBits_any 9 a b X w ha hb (by rw [rk_9']; exact hX))
  have C1 := Lib.hid (fun w => doBits_any 10 a b Y w ha hb (by rw [rk_10']; exact hY))
  have C2 := Lib.hid (fun w => doBits_any 11 a b Z w ha hb (by rw [rk_11']; exact hZ))
  have C3 := Lib.hid (fun w => doBits_any 11 X Z Y w lX lZ (by rw [rk_11', ← hX, ← hZ, ← hY]; exact Alu.met_parted a b))
  have C4 := Lib.hid (fun w => doBits_any 9 X Z 0 w lX lZ (by rw [rk_9', ← hX, ← hZ]; exact Alu.met_none a b))
  have C5 := Lib.hid (fun w => doBits_any 11 Z b a w lZ hb (by rw [rk_11', ← hZ]; exact Alu.parted_back a b))
  have C6 := Lib.hid (fun w => doBits_any 4 a b S w ha hb (by rw [rk_4']; exact hS))
  have C7 := Lib.hid (fun w => doBits_any 5 S b a w lS hb (by rw [rk_5']; omega))
  have C8 := Lib.hid (fun w => doBits_any 4 X Y S w lX lY (by rw [rk_4', ← hX, ← hY, Alu.met_joined]; exact hS))
  have C9 := Lib.hid (fun w => doBits_any 4 a b S w ha hb (by rw [rk_4']; exact hS))
  have C10 := Lib.hid (fun w => doBits_any 6 a 3 U w ha l3 (by rw [rk_6']; exact hU))
  have C11 := Lib.hid (fun w => doBits_any 4 a a D w ha ha (by rw [rk_4']; exact hD))
  have C12 := Lib.hid (fun w => doBits_any 4 a D U w ha lD (by rw [rk_4']; omega))
  clear hX hY hZ hS hD hU lX lY lZ lS lD l3 ha hb
  go_enter Try.func7, Try.ntmps7
  go_wp2_with fail
  refine (B.out _).mono ?_; rintro e w1 ⟨rfl, g1⟩
  go_wp2_with fail
  refine (C0.out _).mono ?_; rintro e v0 ⟨rfl, k0⟩
  go_wp2_with fail
  refine (C1.out _).mono ?_; rintro e v1 ⟨rfl, k1⟩
  go_wp2_with fail
  refine (C2.out _).mono ?_; rintro e v2 ⟨rfl, k2⟩
  go_wp2_with fail
  refine (C3.out _).mono ?_; rintro e v3 ⟨rfl, k3⟩
  go_wp2_with fail
  refine (C4.out _).mono ?_; rintro e v4 ⟨rfl, k4⟩
  go_wp2_with fail
  refine (C5.out _).mono ?_; rintro e v5 ⟨rfl, k5⟩
  go_wp2_with fail
  refine (C6.out _).mono ?_; rintro e v6 ⟨rfl, k6⟩
  go_wp2_with fail
  refine (C7.out _).mono ?_; rintro e v7 ⟨rfl, k7⟩
  go_wp2_with fail
  refine (C8.out _).mono ?_; rintro e v8 ⟨rfl, k8⟩
  go_wp2_with fail
  refine (C9.out _).mono ?_; rintro e v9 ⟨rfl, k9⟩
  go_wp2_with fail
  refine (C10.out _).mono ?_; rintro e v10 ⟨rfl, k10⟩
  go_wp2_with fail
  refine (C11.out _).mono ?_; rintro e v11 ⟨rfl, k11⟩
  go_wp2_with fail
  refine (C12.out _).mono ?_; rintro e v12 ⟨rfl, k12⟩
  go_wp2_with fail
  go_ret
  exact ⟨rfl, grown_trans (grown_trans (grown_trans (grown_trans (grown_trans (grown_trans (grown_trans (grown_trans (grown_trans (grown_trans (grown_trans (grown_trans (grown_trans (g1) k0) k1) k2) k3) k4) k5) k6) k7) k8) k9) k10) k11) k12⟩
end Go.Proofs.Ytdeljahpbanecaa
