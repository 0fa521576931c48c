import Derived.Test.YtknclmofpegilaaFh
import Derived.Test.YtknclmofpegilaaMw
namespace Go.Proofs.Ytknclmofpegilaa
open Go.RowKit
set_option linter.unusedVariables false
set_option linter.unusedSimpArgs false

/-- The law's own little function. -/
theorem up_any (x y : Nat) (w : World) (hx : x < 18446744073709551616) (hy : y < 18446744073709551616) :
    Calls Try.prog 38 #[.int .u64 x, .int .u64 y] w fun e w' => e = .returned (.bool (Flo.upB x y)) ∧ w = w' := by
  have hl := Flo.order_less y x
  have c3 := fun w => less_any y x w
  rw [show (Ieee.double.order y x == some .lt) = Flo.rLess y x from hl] at c3
  unfold Flo.upB
  rcases nx : Flo.nanB x with _ | _
  · have c1 := Lib.hid (fun w => none_is x false w hx nx)
    rcases ny : Flo.nanB y with _ | _
    · have c2 := Lib.hid (fun w => none_is y false w hy ny)
      generalize Flo.rLess y x = L at c3 ⊢
      have C3 := Lib.hid c3
      clear c3 nx ny hx hy hl
      cases L
      all_goals
        go_enter Try.func38, Try.ntmps38
        go_wp2_with fail
        refine (c1.out _).mono ?_; rintro e w' ⟨rfl, rfl⟩
        go_wp2_with fail
        refine (c2.out _).mono ?_; rintro e w' ⟨rfl, rfl⟩
        go_wp2_with fail
        refine (C3.out _).mono ?_; rintro e w' ⟨rfl, rfl⟩
        go_wp2_with fail
        go_ret
        exact ⟨rfl, rfl⟩
    · have c2 := Lib.hid (fun w => none_is y true w hy ny)
      clear c3 nx ny hx hy hl
      go_enter Try.func38, Try.ntmps38
      go_wp2_with fail
      refine (c1.out _).mono ?_; rintro e w' ⟨rfl, rfl⟩
      go_wp2_with fail
      refine (c2.out _).mono ?_; rintro e w' ⟨rfl, rfl⟩
      go_wp2_with fail
      go_ret
      exact ⟨rfl, rfl⟩
  · have c1 := Lib.hid (fun w => none_is x true w hx nx)
    clear c3 nx hx hy hl
    go_enter Try.func38, Try.ntmps38
    go_wp2_with fail
    refine (c1.out _).mono ?_; rintro e w' ⟨rfl, rfl⟩
    go_wp2_with fail
    go_ret
    exact ⟨rfl, rfl⟩
theorem up_true (x y : Nat) (w : World) (hx : x < 18446744073709551616) (hy : y < 18446744073709551616) (h : Flo.Up x y) :
    Calls Try.prog 38 #[.int .u64 x, .int .u64 y] w fun e w' => e = .returned (.bool true) ∧ w = w' := by
  have := up_any x y w hx hy
  rw [Flo.up_upB h] at this; exact this

theorem rises_no (a b c : Nat) (w : World) (h : Flo.rLess a b = false) :
    Calls Try.prog 9 #[.int .u64 a, .int .u64 b, .int .u64 c] w fun e w' => e = .returned (.bool true) ∧ Grown w w' := by
  have c1 := fun w => less_any a b w
  rw [show (Ieee.double.order a b == some .lt) = false from (Flo.order_less a b).trans h] at c1
  have C := Lib.hid c1
  clear c1 h
  go_enter Try.func9, Try.ntmps9
  go_wp2_with fail
  refine (fit_any _).mono ?_; rintro e w' ⟨rfl, rfl⟩
  go_wp2_with fail
  refine (C.out _).mono ?_; rintro e w' ⟨rfl, rfl⟩
  go_wp2_with fail
  go_ret
  exact ⟨rfl, Grown.refl _⟩

set_option maxRecDepth 100000 in
set_option maxHeartbeats 2000000 in
theorem rises_yes (a b c : Nat) (w : World) (ha : a < 18446744073709551616) (hb : b < 18446744073709551616) (hc : c < 18446744073709551616) (h : Flo.rLess a b = true) :
    Calls Try.prog 9 #[.int .u64 a, .int .u64 b, .int .u64 c] w fun e w' => e = .returned (.bool true) ∧ Grown w w' := by
  have hh := h
  unfold Flo.rLess at hh
  rw [Bool.and_eq_true, Bool.and_eq_true, decide_eq_true_eq, Bool.not_eq_true', Bool.not_eq_true'] at hh
  obtain ⟨⟨na, nb⟩, hr⟩ := hh
  have c1 := fun w => less_any a b w
  rw [show (Ieee.double.order a b == some .lt) = true from (Flo.order_less a b).trans h] at c1
  obtain ⟨d, hd⟩ : ∃ d, c % 9223372036854775808 = d := ⟨_, rfl⟩
  have c2 := fun w => abs_any c w hc
  rw [hd] at c2
  have hdl : d < 18446744073709551616 := by omega
  have hds : Flo.sg d = false := by unfold Flo.sg; rw [beq_eq_false_iff_ne]; omega
  have u1 := fun w => up_true _ _ w (Flo.res_add a c).1 (Flo.res_add b c).1 (Flo.add_rises ha hb hc na nb hr)
  have u2 := fun w => up_true _ _ w (Flo.res_mul a d).1 (Flo.res_mul b d).1 (Flo.mul_rises ha hb hdl na nb hds hr)
  have u3 := fun w => up_true _ _ w (Flo.res_div a d).1 (Flo.res_div b d).1 (Flo.div_rises ha hb hdl na nb hds hr)
  have u4 := fun w => up_true _ _ w (Flo.res_sqrt a).1 (Flo.res_sqrt b).1 (Flo.sqrt_rises ha hb na nb hr)
  have u5 := fun w => up_true _ _ w (Flo.res_sub c b).1 (Flo.res_sub c a).1 (Flo.sub_rises ha hb hc na nb hr)
  have p1 := fun w => addG a c w
  have p2 := fun w => addG b c w
  have p3 := fun w => mulG a d w
  have p4 := fun w => mulG b d w
  have p5 := fun w => divG a d w
  have p6 := fun w => divG b d w
  have p7 := fun w => sqrtG a w
  have p8 := fun w => sqrtG b w
  have p9 := fun w => subG c b w
  have p10 := fun w => subG c a w
  generalize Flo.fAdd a c = r1 at u1 p1
  generalize Flo.fAdd b c = r2 at u1 p2
  generalize Flo.fMul a d = r3 at u2 p3
  generalize Flo.fMul b d = r4 at u2 p4
  generalize Flo.fDiv a d = r5 at u3 p5
  generalize Flo.fDiv b d = r6 at u3 p6
  generalize Flo.fSqrt a = r7 at u4 p7
  generalize Flo.fSqrt b = r8 at u4 p8
  generalize Flo.fSub c b = r9 at u5 p9
  generalize Flo.fSub c a = r10 at u5 p10
  have C := Lib.hid (And.intro c1 c2)
  have U := Lib.hid (And.intro u1 (And.intro u2 (And.intro u3 (And.intro u4 u5))))
  have P := Lib.hid (And.intro p1 (And.intro p2 (And.intro p3 (And.intro p4 (And.intro p5 p6)))))
  have Q := Lib.hid (And.intro p7 (And.intro p8 (And.intro p9 p10)))
  clear c1 c2 u1 u2 u3 u4 u5 p1 p2 p3 p4 p5 p6 p7 p8 p9 p10 hd hdl hds na nb hr h ha hb hc
  go_enter Try.func9, Try.ntmps9
  go_wp2_with fail
  refine (fit_any _).mono ?_; rintro e w' ⟨rfl, rfl⟩
  go_wp2_with fail
  refine (C.out.1 _).mono ?_; rintro e w' ⟨rfl, rfl⟩
  go_wp2_with fail
  refine (C.out.2 _).mono ?_; rintro e w' ⟨rfl, rfl⟩
  go_wp2_with fail
  refine (P.out.1 _).mono ?_; rintro e w1 ⟨rfl, g1⟩
  go_wp2_with fail
  refine (P.out.2.1 _).mono ?_; rintro e w2 ⟨rfl, g2⟩
  go_wp2_with fail
  refine (U.out.1 _).mono ?_; rintro e w' ⟨rfl, rfl⟩
  go_wp2_with fail
  refine (P.out.2.2.1 _).mono ?_; rintro e w3 ⟨rfl, g3⟩
  go_wp2_with fail
  refine (P.out.2.2.2.1 _).mono ?_; rintro e w4 ⟨rfl, g4⟩
  go_wp2_with fail
  refine (U.out.2.1 _).mono ?_; rintro e w' ⟨rfl, rfl⟩
  go_wp2_with fail
  refine (P.out.2.2.2.2.1 _).mono ?_; rintro e w5 ⟨rfl, g5⟩
  go_wp2_with fail
  refine (P.out.2.2.2.2.2 _).mono ?_; rintro e w6 ⟨rfl, g6⟩
  go_wp2_with fail
  refine (U.out.2.2.1 _).mono ?_; rintro e w' ⟨rfl, rfl⟩
  go_wp2_with fail
  refine (Q.out.1 _).mono ?_; rintro e w7 ⟨rfl, g7⟩
  go_wp2_with fail
  refine (Q.out.2.1 _).mono ?_; rintro e w8 ⟨rfl, g8⟩
  go_wp2_with fail
  refine (U.out.2.2.2.1 _).mono ?_; rintro e w' ⟨rfl, rfl⟩
  go_wp2_with fail
  refine (Q.out.2.2.1 _).mono ?_; rintro e w9 ⟨rfl, g9⟩
  go_wp2_with fail
  refine (Q.out.2.2.2 _).mono ?_; rintro e w10 ⟨rfl, g10⟩
  go_wp2_with fail
  refine (U.out.2.2.2.2 _).mono ?_; rintro e w' ⟨rfl, rfl⟩
  go_wp2_with fail
  go_ret
  exact ⟨rfl, grown_trans (grown_trans (grown_trans (grown_trans (grown_trans (grown_trans (grown_trans (grown_trans (grown_trans g1 g2) g3) g4) g5) g6) g7) g8) g9) g10⟩

theorem rises_all (a b c : Nat) (w : World) (ha : a < 18446744073709551616) (hb : b < 18446744073709551616) (hc : c < 18446744073709551616) :
    Calls Try.prog 9 #[.int .u64 a, .int .u64 b, .int .u64 c] w fun e w' => e = .returned (.bool true) ∧ Grown w w' := by
  rcases h : Flo.rLess a b with _ | _
  · exact rises_no a b c w h
  · exact rises_yes a b c w ha hb hc h
end Go.Proofs.Ytknclmofpegilaa
