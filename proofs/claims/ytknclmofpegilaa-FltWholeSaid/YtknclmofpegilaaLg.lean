import Derived.Test.YtknclmofpegilaaFh
import Derived.Test.YtknclmofpegilaaMx
import Derived.Lib.MinMax
namespace Go.Proofs.Ytknclmofpegilaa
open Go.RowKit
set_option linter.unusedVariables false
set_option linter.unusedSimpArgs false

theorem fromW (n : Int) (w : World) : Calls Try.prog 32 #[.int .i64 n] w fun e w' => e = .returned (.int .u64 (Flo.W n)) ∧ w = w' := fromInt_any n w

set_option maxRecDepth 100000 in
set_option maxHeartbeats 2000000 in
theorem whole_all (a0 b0 : Int) (w : World) :
    Calls Try.prog 10 #[.int .i64 a0, .int .i64 b0] w fun e w' => e = .returned (.bool true) ∧ Grown w w' := by
  obtain ⟨a, ha⟩ : ∃ a, a0.tmod 33554432 = a := ⟨_, rfl⟩
  obtain ⟨b, hb⟩ : ∃ b, b0.tmod 33554432 = b := ⟨_, rfl⟩
  have a1 : -33554432 < a := by have := Int.lt_tmod_of_pos a0 (show (0 : Int) < 33554432 by omega); omega
  have a2 : a < 33554432 := by have := Int.tmod_lt_of_pos a0 (show (0 : Int) < 33554432 by omega); omega
  have b1 : -33554432 < b := by have := Int.lt_tmod_of_pos b0 (show (0 : Int) < 33554432 by omega); omega
  have b2 : b < 33554432 := by have := Int.tmod_lt_of_pos b0 (show (0 : Int) < 33554432 by omega); omega
  have f1 := fun w => fromW a w
  have f2 := fun w => fromW b w
  have p1 := fun w => addG (Flo.W a) (Flo.W b) w
  have t1 := fun w => toInt_any (Flo.fAdd (Flo.W a) (Flo.W b)) w (Flo.res_add _ _).1
  rw [Flo.whole_add a1 a2 b1 b2] at t1
  have p2 := fun w => mulG (Flo.W a) (Flo.W b) w
  have t2 := fun w => toInt_any (Flo.fMul (Flo.W a) (Flo.W b)) w (Flo.res_mul _ _).1
  rw [Flo.whole_mul a1 a2 b1 b2] at t2
  have p3 := fun w => mulG (Flo.W a) (Flo.W a) w
  have p4 := fun w => sqrtG (Flo.fMul (Flo.W a) (Flo.W a)) w
  have t3 := fun w => toInt_any (Flo.fSqrt (Flo.fMul (Flo.W a) (Flo.W a))) w (Flo.res_sqrt _).1
  rw [Flo.whole_sqrt a1 a2] at t3
  have l1 := fun w => less_any (Flo.W a) (Flo.W b) w
  rw [show (Ieee.double.order (Flo.W a) (Flo.W b) == some .lt) = decide (a < b) from (Flo.order_less _ _).trans (Flo.whole_less a1 a2 b1 b2)] at l1
  have hpb := Flo.prod_lt a1 a2 b1 b2
  have hab : (a * b).natAbs < 9007199254740992 := by rw [Int.natAbs_mul]; exact hpb
  have hw : IntKind.i64.wrap (a * b) = a * b := IntWalk.i64_in _ (by omega)
  have hmx : max a (-a) = (a.natAbs : Int) := by omega
  have hdiv : b ≠ 0 → ∀ w, Calls Try.prog 17 #[.int .u64 (Flo.W a), .int .u64 (Flo.W b)] w (Num (Flo.fDiv (Flo.W a) (Flo.W b)) w) := fun _ w => div_any _ _ w
  have htd : b ≠ 0 → ∀ w, Calls Try.prog 34 #[.int .u64 (Flo.fDiv (Flo.W a) (Flo.W b) : Nat)] w fun e w' => e = .returned (.int .i64 (a.tdiv b)) ∧ w = w' := fun h w => by
    have := toInt_any (Flo.fDiv (Flo.W a) (Flo.W b)) w (Flo.res_div _ _).1
    rw [Flo.whole_div a1 a2 b1 b2 h] at this; exact this
  have hq : (a.tdiv b).natAbs ≤ a.natAbs := by rw [Int.natAbs_tdiv]; exact Nat.div_le_self _ _
  have hwq : IntKind.i64.wrap (a.tdiv b) = a.tdiv b := IntWalk.i64_in _ (by omega)
  generalize Flo.fAdd (Flo.W a) (Flo.W b) = r1 at p1 t1
  generalize Flo.fMul (Flo.W a) (Flo.W b) = r2 at p2 t2
  generalize Flo.fSqrt (Flo.fMul (Flo.W a) (Flo.W a)) = r4 at p4 t3
  generalize Flo.fMul (Flo.W a) (Flo.W a) = r3 at p3 p4
  generalize Flo.fDiv (Flo.W a) (Flo.W b) = r5 at hdiv htd
  generalize Flo.W a = x at *
  generalize Flo.W b = y at *
  obtain ⟨m, hm⟩ : ∃ m, a * b = m := ⟨_, rfl⟩
  rw [hm] at t2 hw
  obtain ⟨n, hn⟩ : ∃ n : Int, (a.natAbs : Int) = n := ⟨_, rfl⟩
  rw [hn] at t3 hmx
  have F := Lib.hid (And.intro f1 f2)
  have P := Lib.hid (And.intro p1 (And.intro t1 (And.intro p2 (And.intro t2 (And.intro p3 (And.intro p4 (And.intro t3 l1)))))))
  have Dv := Lib.hid (And.intro hdiv htd)
  clear f1 f2 p1 t1 p2 t2 p3 p4 t3 l1 hdiv htd hq hpb hab hn
  go_enter Try.func10, Try.ntmps10
  go_wp2_with fail
  refine (fit_any _).mono ?_; rintro e w' ⟨rfl, rfl⟩
  go_wp2_with fail
  refine (F.out.1 _).mono ?_; rintro e w' ⟨rfl, rfl⟩
  go_wp2_with fail
  refine (F.out.2 _).mono ?_; rintro e w' ⟨rfl, rfl⟩
  go_wp2_with fail
  refine (P.out.1 _).mono ?_; rintro e w1 ⟨rfl, g1⟩
  go_wp2_with fail
  refine (P.out.2.1 _).mono ?_; rintro e w' ⟨rfl, rfl⟩
  go_wp2_with fail
  refine (P.out.2.2.1 _).mono ?_; rintro e w2 ⟨rfl, g2⟩
  go_wp2_with fail
  refine (P.out.2.2.2.1 _).mono ?_; rintro e w' ⟨rfl, rfl⟩
  go_wp2_with fail
  refine (P.out.2.2.2.2.1 _).mono ?_; rintro e w3 ⟨rfl, g3⟩
  go_wp2_with fail
  refine (P.out.2.2.2.2.2.1 _).mono ?_; rintro e w4 ⟨rfl, g4⟩
  go_wp2_with fail
  refine (P.out.2.2.2.2.2.2.1 _).mono ?_; rintro e w' ⟨rfl, rfl⟩
  go_wp2_with fail
  refine (P.out.2.2.2.2.2.2.2 _).mono ?_; rintro e w' ⟨rfl, rfl⟩
  go_wp2_with fail
  have G := Lib.hid (grown_trans (grown_trans g1 g2) (grown_trans g3 g4))
  clear g1 g2 g3 g4 F P
  by_cases hb0 : b = 0
  · have hz : (b == 0) = true := by rw [beq_iff_eq]; exact hb0
    clear hb0 Dv hb ha
    go_quiet (fail)
    go_wp2_with fail
    go_ret
    exact ⟨rfl, grown_trans G.out (grown_drewN _ _)⟩
  · have hz : (b == 0) = false := by rw [beq_eq_false_iff_ne]; exact hb0
    have d1 : ∀ w, Calls Try.prog 17 #[.int .u64 x, .int .u64 y] w fun e w' => e = .returned (.int .u64 r5) ∧ ∃ n, w' = w.drewN n := Dv.out.1 hb0
    have d2 : ∀ w, Calls Try.prog 34 #[.int .u64 r5] w fun e w' => e = .returned (.int .i64 (a.tdiv b)) ∧ w' = w := fun w => (Dv.out.2 hb0 w).mono fun _ _ ⟨h1, h2⟩ => ⟨h1, h2.symm⟩
    have D := Lib.hid (And.intro d1 d2)
    clear d1 d2 Dv hb ha
    go_quiet ((first | (go_at_call 17; exact Calls.quiet_of (D.out.1 _)) | (go_at_call 34; exact Calls.quiet_of_same (D.out.2 _))))
    go_wp2_with fail
    go_ret
    exact ⟨by simp, grown_trans G.out (grown_drewN _ _)⟩
end Go.Proofs.Ytknclmofpegilaa
