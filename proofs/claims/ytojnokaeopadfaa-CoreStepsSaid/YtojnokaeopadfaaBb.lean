import Derived.Test.YtojnokaeopadfaaAe
import Derived.Test.YtojnokaeopadfaaMa
namespace Go.Proofs.Ytojnokaeopadfaa
open Go.RowKit
set_option linter.unusedVariables false
set_option linter.unusedSimpArgs false

set_option maxRecDepth 100000 in
set_option maxHeartbeats 4000000 in
theorem rmul_odd (x y Mx My a0 a1 b0 b1 u v mid t m0 m1 low s m2 h1 l2 high l3 h8 l4 mm l5 m3 R : Nat) (Ex Ey : Int) (sx sy : Bool) (w : World) (q1 : -1200 ≤ Ex) (q2 : Ex ≤ 1000) (q3 : -1200 ≤ Ey) (q4 : Ey ≤ 1000)
    (H1 : Hid (OfC x 102 sx Mx Ex)) (H2 : Hid (OfC y 102 sy My Ey)) (z1 : ((Mx : Int) == 0) = false) (z2 : ((My : Int) == 0) = false)
    (e1 : bits .and .u64 (Mx : Int) 67108863 = a0) (e2 : (Mx : Int) / 67108864 = a1) (e3 : bits .and .u64 (My : Int) 67108863 = b0) (e4 : (My : Int) / 67108864 = b1)
    (e5 : IntKind.u64.wrap ((a1 : Int) * b0) = u) (e6 : IntKind.u64.wrap ((a0 : Int) * b1) = v) (e7 : IntKind.u64.wrap ((u : Int) + v) = mid)
    (e8 : IntKind.u64.wrap ((a0 : Int) * b0) = t) (e9 : bits .and .u64 (mid : Int) 67108863 = m0) (e10 : IntKind.u64.wrap ((m0 : Int) * 67108864) = m1) (e11 : IntKind.u64.wrap ((t : Int) + m1) = low)
    (e12 : IntKind.u64.wrap ((a1 : Int) * b1) = s) (e13 : (mid : Int) / 67108864 = m2) (e14 : IntKind.u64.wrap ((s : Int) + m2) = h1) (e15 : (low : Int) / 4503599627370496 = l2) (e16 : IntKind.u64.wrap ((h1 : Int) + l2) = high)
    (e17 : bits .and .u64 (low : Int) 4503599627370495 = l3) (e18 : IntKind.u64.wrap ((high : Int) * 256) = h8) (e19 : (l3 : Int) / 17592186044416 = l4) (e20 : bits .or .u64 (h8 : Int) l4 = mm)
    (e21 : bits .and .u64 (l3 : Int) 17592186044415 = l5) (e22 : ((l5 : Int) != 0) = true) (e23 : bits .or .u64 (mm : Int) 1 = m3)
    (HR : Hid (∀ w, Calls Try.prog 68 #[.bool (sx != sy), .int .u64 m3, .int .i64 (Ex + Ey + 44)] w fun e w' => e = .returned (.int .u64 R) ∧ w = w')) :
    Calls Try.prog 43 #[.int .u64 x, .int .u64 y] w fun e w' => e = .returned (.int .u64 R) ∧ Grown w w' := by
  have hc2 : ((102 : Nat) : Int) = 102 := rfl
  go_enter Try.func43, Try.ntmps43
  go_wp2_with fail
  refine (H1.out _).mono ?_; rintro e w1 ⟨rfl, g1⟩
  go_wp2_with fail
  refine (H2.out _).mono ?_; rintro e w2 ⟨rfl, g2⟩
  have G := Lib.hid (grown_trans g1 g2)
  clear H1 H2 g1 g2
  go_wp2_with fail
  go_quiet (fail)
  go_wp2_with fail
  refine (HR.out _).mono ?_; rintro e w' ⟨rfl, rfl⟩
  go_wp2_with fail
  go_ret
  exact ⟨rfl, grown_trans ((G.out.alloc _ _).alloc _ _) (grown_drewN _ _)⟩
set_option maxRecDepth 100000 in
set_option maxHeartbeats 4000000 in
theorem rmul_even (x y Mx My a0 a1 b0 b1 u v mid t m0 m1 low s m2 h1 l2 high l3 h8 l4 mm l5 R : Nat) (Ex Ey : Int) (sx sy : Bool) (w : World) (q1 : -1200 ≤ Ex) (q2 : Ex ≤ 1000) (q3 : -1200 ≤ Ey) (q4 : Ey ≤ 1000)
    (H1 : Hid (OfC x 102 sx Mx Ex)) (H2 : Hid (OfC y 102 sy My Ey)) (z1 : ((Mx : Int) == 0) = false) (z2 : ((My : Int) == 0) = false)
    (e1 : bits .and .u64 (Mx : Int) 67108863 = a0) (e2 : (Mx : Int) / 67108864 = a1) (e3 : bits .and .u64 (My : Int) 67108863 = b0) (e4 : (My : Int) / 67108864 = b1)
    (e5 : IntKind.u64.wrap ((a1 : Int) * b0) = u) (e6 : IntKind.u64.wrap ((a0 : Int) * b1) = v) (e7 : IntKind.u64.wrap ((u : Int) + v) = mid)
    (e8 : IntKind.u64.wrap ((a0 : Int) * b0) = t) (e9 : bits .and .u64 (mid : Int) 67108863 = m0) (e10 : IntKind.u64.wrap ((m0 : Int) * 67108864) = m1) (e11 : IntKind.u64.wrap ((t : Int) + m1) = low)
    (e12 : IntKind.u64.wrap ((a1 : Int) * b1) = s) (e13 : (mid : Int) / 67108864 = m2) (e14 : IntKind.u64.wrap ((s : Int) + m2) = h1) (e15 : (low : Int) / 4503599627370496 = l2) (e16 : IntKind.u64.wrap ((h1 : Int) + l2) = high)
    (e17 : bits .and .u64 (low : Int) 4503599627370495 = l3) (e18 : IntKind.u64.wrap ((high : Int) * 256) = h8) (e19 : (l3 : Int) / 17592186044416 = l4) (e20 : bits .or .u64 (h8 : Int) l4 = mm)
    (e21 : bits .and .u64 (l3 : Int) 17592186044415 = l5) (e22 : ((l5 : Int) != 0) = false)
    (HR : Hid (∀ w, Calls Try.prog 68 #[.bool (sx != sy), .int .u64 mm, .int .i64 (Ex + Ey + 44)] w fun e w' => e = .returned (.int .u64 R) ∧ w = w')) :
    Calls Try.prog 43 #[.int .u64 x, .int .u64 y] w fun e w' => e = .returned (.int .u64 R) ∧ Grown w w' := by
  have hc2 : ((102 : Nat) : Int) = 102 := rfl
  go_enter Try.func43, Try.ntmps43
  go_wp2_with fail
  refine (H1.out _).mono ?_; rintro e w1 ⟨rfl, g1⟩
  go_wp2_with fail
  refine (H2.out _).mono ?_; rintro e w2 ⟨rfl, g2⟩
  have G := Lib.hid (grown_trans g1 g2)
  clear H1 H2 g1 g2
  go_wp2_with fail
  go_quiet (fail)
  go_wp2_with fail
  refine (HR.out _).mono ?_; rintro e w' ⟨rfl, rfl⟩
  go_wp2_with fail
  go_ret
  exact ⟨rfl, grown_trans ((G.out.alloc _ _).alloc _ _) (grown_drewN _ _)⟩
set_option maxRecDepth 100000 in
set_option maxHeartbeats 1000000 in
theorem rmul_nan1 (x y kx ky Mx My : Nat) (Ex Ey : Int) (sx sy : Bool) (w : World) (H1 : Hid (OfC x kx sx Mx Ex)) (H2 : Hid (OfC y ky sy My Ey)) (t1 : ((kx : Int) == 110) = true) :
    Calls Try.prog 43 #[.int .u64 x, .int .u64 y] w fun e w' => e = .returned (.int .u64 9221120237041090560) ∧ Grown w w' := by
  go_enter Try.func43, Try.ntmps43
  go_wp2_with fail
  refine (H1.out _).mono ?_; rintro e w1 ⟨rfl, g1⟩
  go_wp2_with fail
  refine (H2.out _).mono ?_; rintro e w2 ⟨rfl, g2⟩
  have G := Lib.hid (grown_trans g1 g2)
  clear H1 H2 g1 g2
  go_wp2_with fail
  go_ret
  exact ⟨rfl, (G.out.alloc _ _).alloc _ _⟩
set_option maxRecDepth 100000 in
set_option maxHeartbeats 1000000 in
theorem rmul_nan2 (x y kx ky Mx My : Nat) (Ex Ey : Int) (sx sy : Bool) (w : World) (H1 : Hid (OfC x kx sx Mx Ex)) (H2 : Hid (OfC y ky sy My Ey)) (t1 : ((kx : Int) == 110) = false) (t2 : ((ky : Int) == 110) = true) :
    Calls Try.prog 43 #[.int .u64 x, .int .u64 y] w fun e w' => e = .returned (.int .u64 9221120237041090560) ∧ Grown w w' := by
  go_enter Try.func43, Try.ntmps43
  go_wp2_with fail
  refine (H1.out _).mono ?_; rintro e w1 ⟨rfl, g1⟩
  go_wp2_with fail
  refine (H2.out _).mono ?_; rintro e w2 ⟨rfl, g2⟩
  have G := Lib.hid (grown_trans g1 g2)
  clear H1 H2 g1 g2
  go_wp2_with fail
  go_ret
  exact ⟨rfl, (G.out.alloc _ _).alloc _ _⟩
set_option maxRecDepth 100000 in
set_option maxHeartbeats 1000000 in
theorem rmul_iz (x y  Mx My : Nat) (Ex Ey : Int) (sx sy : Bool) (w : World) (H1 : Hid (OfC x 105 sx Mx Ex)) (H2 : Hid (OfC y 102 sy My Ey)) (t2 : ((My : Int) == 0) = true) :
    Calls Try.prog 43 #[.int .u64 x, .int .u64 y] w fun e w' => e = .returned (.int .u64 9221120237041090560) ∧ Grown w w' := by
  have hc : ((105 : Nat) : Int) = 105 := rfl
  have hc2 : ((102 : Nat) : Int) = 102 := rfl
  go_enter Try.func43, Try.ntmps43
  go_wp2_with fail
  refine (H1.out _).mono ?_; rintro e w1 ⟨rfl, g1⟩
  go_wp2_with fail
  refine (H2.out _).mono ?_; rintro e w2 ⟨rfl, g2⟩
  have G := Lib.hid (grown_trans g1 g2)
  clear H1 H2 g1 g2
  go_wp2_with fail
  go_ret
  exact ⟨rfl, (G.out.alloc _ _).alloc _ _⟩
set_option maxRecDepth 100000 in
set_option maxHeartbeats 1000000 in
theorem rmul_zi (x y  Mx My : Nat) (Ex Ey : Int) (sx sy : Bool) (w : World) (H1 : Hid (OfC x 102 sx Mx Ex)) (H2 : Hid (OfC y 105 sy My Ey)) (t1 : ((Mx : Int) == 0) = true) :
    Calls Try.prog 43 #[.int .u64 x, .int .u64 y] w fun e w' => e = .returned (.int .u64 9221120237041090560) ∧ Grown w w' := by
  have hc : ((105 : Nat) : Int) = 105 := rfl
  have hc2 : ((102 : Nat) : Int) = 102 := rfl
  go_enter Try.func43, Try.ntmps43
  go_wp2_with fail
  refine (H1.out _).mono ?_; rintro e w1 ⟨rfl, g1⟩
  go_wp2_with fail
  refine (H2.out _).mono ?_; rintro e w2 ⟨rfl, g2⟩
  have G := Lib.hid (grown_trans g1 g2)
  clear H1 H2 g1 g2
  go_wp2_with fail
  go_ret
  exact ⟨rfl, (G.out.alloc _ _).alloc _ _⟩
set_option maxRecDepth 100000 in
set_option maxHeartbeats 1000000 in
theorem rmul_ii (x y  Mx My : Nat) (Ex Ey : Int) (sx sy : Bool) (w : World) (H1 : Hid (OfC x 105 sx Mx Ex)) (H2 : Hid (OfC y 105 sy My Ey))  :
    Calls Try.prog 43 #[.int .u64 x, .int .u64 y] w fun e w' => e = .returned (.int .u64 (Ieee.double.word (sx != sy) 9218868437227405312 : Nat)) ∧ Grown w w' := by
  have hc : ((105 : Nat) : Int) = 105 := rfl
  have hI : ∀ w, Calls Try.prog 67 #[.bool (sx != sy), .int .u64 9218868437227405312] w fun e w' => e = .returned (.int .u64 (Ieee.double.word (sx != sy) 9218868437227405312 : Nat)) ∧ w = w' := fun w => signx_any (sx != sy) 9218868437227405312 w (by omega)
  have HI := Lib.hid hI
  clear hI
  go_enter Try.func43, Try.ntmps43
  go_wp2_with fail
  refine (H1.out _).mono ?_; rintro e w1 ⟨rfl, g1⟩
  go_wp2_with fail
  refine (H2.out _).mono ?_; rintro e w2 ⟨rfl, g2⟩
  have G := Lib.hid (grown_trans g1 g2)
  clear H1 H2 g1 g2
  go_wp2_with fail
  refine (HI.out _).mono ?_; rintro e w' ⟨rfl, rfl⟩
  go_wp2_with fail
  go_ret
  exact ⟨rfl, (G.out.alloc _ _).alloc _ _⟩
set_option maxRecDepth 100000 in
set_option maxHeartbeats 1000000 in
theorem rmul_in (x y  Mx My : Nat) (Ex Ey : Int) (sx sy : Bool) (w : World) (H1 : Hid (OfC x 105 sx Mx Ex)) (H2 : Hid (OfC y 102 sy My Ey)) (t2 : ((My : Int) == 0) = false) :
    Calls Try.prog 43 #[.int .u64 x, .int .u64 y] w fun e w' => e = .returned (.int .u64 (Ieee.double.word (sx != sy) 9218868437227405312 : Nat)) ∧ Grown w w' := by
  have hc : ((105 : Nat) : Int) = 105 := rfl
  have hc2 : ((102 : Nat) : Int) = 102 := rfl
  have hI : ∀ w, Calls Try.prog 67 #[.bool (sx != sy), .int .u64 9218868437227405312] w fun e w' => e = .returned (.int .u64 (Ieee.double.word (sx != sy) 9218868437227405312 : Nat)) ∧ w = w' := fun w => signx_any (sx != sy) 9218868437227405312 w (by omega)
  have HI := Lib.hid hI
  clear hI
  go_enter Try.func43, Try.ntmps43
  go_wp2_with fail
  refine (H1.out _).mono ?_; rintro e w1 ⟨rfl, g1⟩
  go_wp2_with fail
  refine (H2.out _).mono ?_; rintro e w2 ⟨rfl, g2⟩
  have G := Lib.hid (grown_trans g1 g2)
  clear H1 H2 g1 g2
  go_wp2_with fail
  refine (HI.out _).mono ?_; rintro e w' ⟨rfl, rfl⟩
  go_wp2_with fail
  go_ret
  exact ⟨rfl, (G.out.alloc _ _).alloc _ _⟩
set_option maxRecDepth 100000 in
set_option maxHeartbeats 1000000 in
theorem rmul_ni (x y  Mx My : Nat) (Ex Ey : Int) (sx sy : Bool) (w : World) (H1 : Hid (OfC x 102 sx Mx Ex)) (H2 : Hid (OfC y 105 sy My Ey)) (t1 : ((Mx : Int) == 0) = false) :
    Calls Try.prog 43 #[.int .u64 x, .int .u64 y] w fun e w' => e = .returned (.int .u64 (Ieee.double.word (sx != sy) 9218868437227405312 : Nat)) ∧ Grown w w' := by
  have hc : ((105 : Nat) : Int) = 105 := rfl
  have hc2 : ((102 : Nat) : Int) = 102 := rfl
  have hI : ∀ w, Calls Try.prog 67 #[.bool (sx != sy), .int .u64 9218868437227405312] w fun e w' => e = .returned (.int .u64 (Ieee.double.word (sx != sy) 9218868437227405312 : Nat)) ∧ w = w' := fun w => signx_any (sx != sy) 9218868437227405312 w (by omega)
  have HI := Lib.hid hI
  clear hI
  go_enter Try.func43, Try.ntmps43
  go_wp2_with fail
  refine (H1.out _).mono ?_; rintro e w1 ⟨rfl, g1⟩
  go_wp2_with fail
  refine (H2.out _).mono ?_; rintro e w2 ⟨rfl, g2⟩
  have G := Lib.hid (grown_trans g1 g2)
  clear H1 H2 g1 g2
  go_wp2_with fail
  refine (HI.out _).mono ?_; rintro e w' ⟨rfl, rfl⟩
  go_wp2_with fail
  go_ret
  exact ⟨rfl, (G.out.alloc _ _).alloc _ _⟩
set_option maxRecDepth 100000 in
set_option maxHeartbeats 1000000 in
theorem rmul_z1 (x y  Mx My : Nat) (Ex Ey : Int) (sx sy : Bool) (w : World) (H1 : Hid (OfC x 102 sx Mx Ex)) (H2 : Hid (OfC y 102 sy My Ey)) (t1 : ((Mx : Int) == 0) = true) :
    Calls Try.prog 43 #[.int .u64 x, .int .u64 y] w fun e w' => e = .returned (.int .u64 (Ieee.double.word (sx != sy) 0 : Nat)) ∧ Grown w w' := by
  have hc2 : ((102 : Nat) : Int) = 102 := rfl
  have hI : ∀ w, Calls Try.prog 67 #[.bool (sx != sy), .int .u64 0] w fun e w' => e = .returned (.int .u64 (Ieee.double.word (sx != sy) 0 : Nat)) ∧ w = w' := fun w => signx_any (sx != sy) 0 w (by omega)
  have HI := Lib.hid hI
  clear hI
  go_enter Try.func43, Try.ntmps43
  go_wp2_with fail
  refine (H1.out _).mono ?_; rintro e w1 ⟨rfl, g1⟩
  go_wp2_with fail
  refine (H2.out _).mono ?_; rintro e w2 ⟨rfl, g2⟩
  have G := Lib.hid (grown_trans g1 g2)
  clear H1 H2 g1 g2
  go_wp2_with fail
  refine (HI.out _).mono ?_; rintro e w' ⟨rfl, rfl⟩
  go_wp2_with fail
  go_ret
  exact ⟨rfl, (G.out.alloc _ _).alloc _ _⟩
set_option maxRecDepth 100000 in
set_option maxHeartbeats 1000000 in
theorem rmul_z2 (x y  Mx My : Nat) (Ex Ey : Int) (sx sy : Bool) (w : World) (H1 : Hid (OfC x 102 sx Mx Ex)) (H2 : Hid (OfC y 102 sy My Ey)) (t1 : ((Mx : Int) == 0) = false) (t2 : ((My : Int) == 0) = true) :
    Calls Try.prog 43 #[.int .u64 x, .int .u64 y] w fun e w' => e = .returned (.int .u64 (Ieee.double.word (sx != sy) 0 : Nat)) ∧ Grown w w' := by
  have hc2 : ((102 : Nat) : Int) = 102 := rfl
  have hI : ∀ w, Calls Try.prog 67 #[.bool (sx != sy), .int .u64 0] w fun e w' => e = .returned (.int .u64 (Ieee.double.word (sx != sy) 0 : Nat)) ∧ w = w' := fun w => signx_any (sx != sy) 0 w (by omega)
  have HI := Lib.hid hI
  clear hI
  go_enter Try.func43, Try.ntmps43
  go_wp2_with fail
  refine (H1.out _).mono ?_; rintro e w1 ⟨rfl, g1⟩
  go_wp2_with fail
  refine (H2.out _).mono ?_; rintro e w2 ⟨rfl, g2⟩
  have G := Lib.hid (grown_trans g1 g2)
  clear H1 H2 g1 g2
  go_wp2_with fail
  refine (HI.out _).mono ?_; rintro e w' ⟨rfl, rfl⟩
  go_wp2_with fail
  go_ret
  exact ⟨rfl, (G.out.alloc _ _).alloc _ _⟩
end Go.Proofs.Ytojnokaeopadfaa
