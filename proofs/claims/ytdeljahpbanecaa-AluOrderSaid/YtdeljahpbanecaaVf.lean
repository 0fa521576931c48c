/- Order. Written by genV.py. -/
import Derived.Test.YtdeljahpbanecaaVg
namespace Go.Proofs.Ytdeljahpbanecaa
open Go.RowKit
set_option linter.unusedVariables false
set_option linter.unusedSimpArgs false
theorem doOrder_any (op : Int) (a b r : Nat) (w : World) (ha : a < 18446744073709551616) (hb : b < 18446744073709551616) (h : (Alu.rk op a b).1 = r) : Calls Try.prog 21 #[.int .i64 op, .int .u64 a, .int .u64 b] w fun e w' => e = .returned (.int .u64 r) ∧ Grown w w' := by
  have A := Lib.hid (fun w => reckon_any op a b w ha hb)
  subst h
  generalize Alu.rk op a b = r at A ⊢
  go_enter Try.func21, Try.ntmps21
  go_wp2_with fail
  refine (A.out _).mono ?_; rintro e w1 ⟨rfl, g1⟩
  go_wp2_with fail
  go_ret
  exact ⟨rfl, g1⟩
theorem takes_is (op : Int) (a b : Nat) (t : Bool) (w : World) (ha : a < 18446744073709551616) (hb : b < 18446744073709551616) (h : Alu.takes op a b = t) : Calls Try.prog 14 #[.int .i64 op, .int .u64 a, .int .u64 b] w fun e w' => e = .returned (.bool t) ∧ Grown w w' := by
  subst h; exact takes_any op a b w ha hb
set_option maxHeartbeats 8000000 in
theorem order_walk (a b s1 s2 u1 u2 q : Nat) (ts tu te tn m : Bool) (w : World) (ha : a < 18446744073709551616) (hb : b < 18446744073709551616)
    (h1 : (Alu.rk 15 a b).1 = s1) (h2 : (Alu.rk 15 b a).1 = s2) (h3 : (Alu.rk 16 a b).1 = u1) (h4 : (Alu.rk 16 b a).1 = u2) (h5 : (Alu.rk 17 a b).1 = q)
    (t1 : Alu.takes 27 a b = ts) (t2 : Alu.takes 28 a b = tu) (t3 : Alu.takes 25 a b = te) (t4 : Alu.takes 26 a b = tn)
    (hm : ((a : Int) / 9223372036854775808 == (b : Int) / 9223372036854775808) = m)
    (hv : (s1 = 0 ∧ s2 = 0 ∧ u1 = 0 ∧ u2 = 0 ∧ q = 1 ∧ ts = false ∧ tu = false ∧ te = true ∧ tn = false ∧ m = true)
      ∨ (s1 = 1 ∧ s2 = 0 ∧ u1 = 1 ∧ u2 = 0 ∧ q = 0 ∧ ts = true ∧ tu = true ∧ te = false ∧ tn = true ∧ m = true)
      ∨ (s1 = 0 ∧ s2 = 1 ∧ u1 = 0 ∧ u2 = 1 ∧ q = 0 ∧ ts = false ∧ tu = false ∧ te = false ∧ tn = true ∧ m = true)
      ∨ (s1 = 1 ∧ s2 = 0 ∧ u1 = 0 ∧ u2 = 1 ∧ q = 0 ∧ ts = true ∧ tu = false ∧ te = false ∧ tn = true ∧ m = false)
      ∨ (s1 = 0 ∧ s2 = 1 ∧ u1 = 1 ∧ u2 = 0 ∧ q = 0 ∧ ts = false ∧ tu = true ∧ te = false ∧ tn = true ∧ m = false)) :
    Calls Try.prog 8 #[.int .u64 a, .int .u64 b] w fun e w' => e = .returned (.bool true) ∧ Grown w w' := by
  have B := Lib.hid fit_any
  have C0 := Lib.hid (fun w => doOrder_any 17 a b q w ha hb h5)
  have C1 := Lib.hid (fun w => doOrder_any 15 a b s1 w ha hb h1)
  have C2 := Lib.hid (fun w => doOrder_any 15 b a s2 w hb ha h2)
  have C3 := Lib.hid (fun w => doOrder_any 16 a b u1 w ha hb h3)
  have C4 := Lib.hid (fun w => doOrder_any 16 b a u2 w hb ha h4)
  have C5 := Lib.hid (fun w => takes_is 27 a b ts w ha hb t1)
  have C6 := Lib.hid (fun w => takes_is 28 a b tu w ha hb t2)
  have C7 := Lib.hid (fun w => takes_is 25 a b te w ha hb t3)
  have C8 := Lib.hid (fun w => takes_is 26 a b tn w ha hb t4)
  obtain ⟨u, d1⟩ : ∃ u, (a : Int) / 9223372036854775808 = u := ⟨_, rfl⟩
  obtain ⟨v, d2⟩ : ∃ v, (b : Int) / 9223372036854775808 = v := ⟨_, rfl⟩
  rw [d1, d2] at hm
  clear h1 h2 h3 h4 h5 t1 t2 t3 t4 ha hb
  rcases hv with ⟨rfl, rfl, rfl, rfl, rfl, rfl, rfl, rfl, rfl, rfl⟩ | ⟨rfl, rfl, rfl, rfl, rfl, rfl, rfl, rfl, rfl, rfl⟩ | ⟨rfl, rfl, rfl, rfl, rfl, rfl, rfl, rfl, rfl, rfl⟩ | ⟨rfl, rfl, rfl, rfl, rfl, rfl, rfl, rfl, rfl, rfl⟩ | ⟨rfl, rfl, rfl, rfl, rfl, rfl, rfl, rfl, rfl, rfl⟩
  all_goals
    go_enter Try.func8, Try.ntmps8
    go_wp2_with fail
    refine (B.out _).mono ?_; rintro e w1 ⟨rfl, g1⟩
    go_wp2_with fail
    refine (C0.out _).mono ?_; rintro e v0 ⟨rfl, k0⟩
    go_wp2_with fail
    refine (C1.out _).mono ?_; rintro e v1 ⟨rfl, k1⟩
    go_wp2_with fail
    refine (C2.out _).mono ?_; rintro e v2 ⟨rfl, k2⟩
    go_wp2_with fail
    refine (C3.out _).mono ?_; rintro e v3 ⟨rfl, k3⟩
    go_wp2_with fail
    refine (C4.out _).mono ?_; rintro e v4 ⟨rfl, k4⟩
    go_wp2_with fail
    refine (C5.out _).mono ?_; rintro e v5 ⟨rfl, k5⟩
    go_wp2_with fail
    refine (C1.out _).mono ?_; rintro e v6 ⟨rfl, k6⟩
    go_wp2_with fail
    refine (C6.out _).mono ?_; rintro e v7 ⟨rfl, k7⟩
    go_wp2_with fail
    refine (C3.out _).mono ?_; rintro e v8 ⟨rfl, k8⟩
    go_wp2_with fail
    refine (C7.out _).mono ?_; rintro e v9 ⟨rfl, k9⟩
    go_wp2_with fail
    refine (C8.out _).mono ?_; rintro e v10 ⟨rfl, k10⟩
    go_wp2_with fail
    refine (C1.out _).mono ?_; rintro e v11 ⟨rfl, k11⟩
    go_wp2_with fail
    refine (C3.out _).mono ?_; rintro e v12 ⟨rfl, k12⟩
    go_wp2_with fail
    go_ret
    exact ⟨rfl, grown_trans (grown_trans (grown_trans (grown_trans (grown_trans (grown_trans (grown_trans (grown_trans (grown_trans (grown_trans (grown_trans (grown_trans (grown_trans (g1) k0) k1) k2) k3) k4) k5) k6) k7) k8) k9) k10) k11) k12⟩
end Go.Proofs.Ytdeljahpbanecaa
