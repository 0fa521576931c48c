import Derived.Test.YtojnokaeopadfaaAe
namespace Go.Proofs.Ytojnokaeopadfaa
open Go.RowKit
set_option linter.unusedVariables false
set_option linter.unusedSimpArgs false

set_option maxRecDepth 100000 in
set_option maxHeartbeats 1000000 in
theorem rdiv_nn (x y Mx My : Nat) (Ex Ey : Int) (sx sy : Bool) (w : World) (H1 : Hid (OfC x 110 sx Mx Ex)) (H2 : Hid (OfC y 110 sy My Ey)) :
    Calls Try.prog 44 #[.int .u64 x, .int .u64 y] w fun e w' => e = .returned (.int .u64 9221120237041090560) ∧ Grown w w' := by
  have hc110 : ((110 : Nat) : Int) = 110 := rfl
  go_enter Try.func44, Try.ntmps44
  go_wp2_with fail
  refine (H1.out _).mono ?_; rintro e w1 ⟨rfl, g1⟩
  go_wp2_with fail
  refine (H2.out _).mono ?_; rintro e w2 ⟨rfl, g2⟩
  have G := Lib.hid (grown_trans g1 g2)
  clear H1 H2 g1 g2
  go_wp2_with fail
  go_quiet (fail)
  go_wp2_with fail
  go_ret
  exact ⟨rfl, grown_trans ((G.out.alloc _ _).alloc _ _) (grown_drewN _ _)⟩
set_option maxRecDepth 100000 in
set_option maxHeartbeats 1000000 in
theorem rdiv_ni (x y Mx My : Nat) (Ex Ey : Int) (sx sy : Bool) (w : World) (H1 : Hid (OfC x 110 sx Mx Ex)) (H2 : Hid (OfC y 105 sy My Ey)) :
    Calls Try.prog 44 #[.int .u64 x, .int .u64 y] w fun e w' => e = .returned (.int .u64 9221120237041090560) ∧ Grown w w' := by
  have hc105 : ((105 : Nat) : Int) = 105 := rfl
  have hc110 : ((110 : Nat) : Int) = 110 := rfl
  go_enter Try.func44, Try.ntmps44
  go_wp2_with fail
  refine (H1.out _).mono ?_; rintro e w1 ⟨rfl, g1⟩
  go_wp2_with fail
  refine (H2.out _).mono ?_; rintro e w2 ⟨rfl, g2⟩
  have G := Lib.hid (grown_trans g1 g2)
  clear H1 H2 g1 g2
  go_wp2_with fail
  go_quiet (fail)
  go_wp2_with fail
  go_ret
  exact ⟨rfl, grown_trans ((G.out.alloc _ _).alloc _ _) (grown_drewN _ _)⟩
set_option maxRecDepth 100000 in
set_option maxHeartbeats 1000000 in
theorem rdiv_nz (x y Mx My : Nat) (Ex Ey : Int) (sx sy : Bool) (w : World) (H1 : Hid (OfC x 110 sx Mx Ex)) (H2 : Hid (OfC y 102 sy My Ey)) (t2 : ((My : Int) == 0) = true) :
    Calls Try.prog 44 #[.int .u64 x, .int .u64 y] w fun e w' => e = .returned (.int .u64 9221120237041090560) ∧ Grown w w' := by
  have hc102 : ((102 : Nat) : Int) = 102 := rfl
  have hc110 : ((110 : Nat) : Int) = 110 := rfl
  go_enter Try.func44, Try.ntmps44
  go_wp2_with fail
  refine (H1.out _).mono ?_; rintro e w1 ⟨rfl, g1⟩
  go_wp2_with fail
  refine (H2.out _).mono ?_; rintro e w2 ⟨rfl, g2⟩
  have G := Lib.hid (grown_trans g1 g2)
  clear H1 H2 g1 g2
  go_wp2_with fail
  go_quiet (fail)
  go_wp2_with fail
  go_ret
  exact ⟨rfl, grown_trans ((G.out.alloc _ _).alloc _ _) (grown_drewN _ _)⟩
set_option maxRecDepth 100000 in
set_option maxHeartbeats 1000000 in
theorem rdiv_nf (x y Mx My : Nat) (Ex Ey : Int) (sx sy : Bool) (w : World) (H1 : Hid (OfC x 110 sx Mx Ex)) (H2 : Hid (OfC y 102 sy My Ey)) (t2 : ((My : Int) == 0) = false) :
    Calls Try.prog 44 #[.int .u64 x, .int .u64 y] w fun e w' => e = .returned (.int .u64 9221120237041090560) ∧ Grown w w' := by
  have hc102 : ((102 : Nat) : Int) = 102 := rfl
  have hc110 : ((110 : Nat) : Int) = 110 := rfl
  go_enter Try.func44, Try.ntmps44
  go_wp2_with fail
  refine (H1.out _).mono ?_; rintro e w1 ⟨rfl, g1⟩
  go_wp2_with fail
  refine (H2.out _).mono ?_; rintro e w2 ⟨rfl, g2⟩
  have G := Lib.hid (grown_trans g1 g2)
  clear H1 H2 g1 g2
  go_wp2_with fail
  go_quiet (fail)
  go_wp2_with fail
  go_ret
  exact ⟨rfl, grown_trans ((G.out.alloc _ _).alloc _ _) (grown_drewN _ _)⟩
set_option maxRecDepth 100000 in
set_option maxHeartbeats 1000000 in
theorem rdiv_in (x y Mx My : Nat) (Ex Ey : Int) (sx sy : Bool) (w : World) (H1 : Hid (OfC x 105 sx Mx Ex)) (H2 : Hid (OfC y 110 sy My Ey)) :
    Calls Try.prog 44 #[.int .u64 x, .int .u64 y] w fun e w' => e = .returned (.int .u64 9221120237041090560) ∧ Grown w w' := by
  have hc105 : ((105 : Nat) : Int) = 105 := rfl
  have hc110 : ((110 : Nat) : Int) = 110 := rfl
  go_enter Try.func44, Try.ntmps44
  go_wp2_with fail
  refine (H1.out _).mono ?_; rintro e w1 ⟨rfl, g1⟩
  go_wp2_with fail
  refine (H2.out _).mono ?_; rintro e w2 ⟨rfl, g2⟩
  have G := Lib.hid (grown_trans g1 g2)
  clear H1 H2 g1 g2
  go_wp2_with fail
  go_quiet (fail)
  go_wp2_with fail
  go_ret
  exact ⟨rfl, grown_trans ((G.out.alloc _ _).alloc _ _) (grown_drewN _ _)⟩
set_option maxRecDepth 100000 in
set_option maxHeartbeats 1000000 in
theorem rdiv_ii (x y Mx My : Nat) (Ex Ey : Int) (sx sy : Bool) (w : World) (H1 : Hid (OfC x 105 sx Mx Ex)) (H2 : Hid (OfC y 105 sy My Ey)) :
    Calls Try.prog 44 #[.int .u64 x, .int .u64 y] w fun e w' => e = .returned (.int .u64 9221120237041090560) ∧ Grown w w' := by
  have hc105 : ((105 : Nat) : Int) = 105 := rfl
  go_enter Try.func44, Try.ntmps44
  go_wp2_with fail
  refine (H1.out _).mono ?_; rintro e w1 ⟨rfl, g1⟩
  go_wp2_with fail
  refine (H2.out _).mono ?_; rintro e w2 ⟨rfl, g2⟩
  have G := Lib.hid (grown_trans g1 g2)
  clear H1 H2 g1 g2
  go_wp2_with fail
  go_quiet (fail)
  go_wp2_with fail
  go_ret
  exact ⟨rfl, grown_trans ((G.out.alloc _ _).alloc _ _) (grown_drewN _ _)⟩
set_option maxRecDepth 100000 in
set_option maxHeartbeats 1000000 in
theorem rdiv_iz (x y Mx My : Nat) (Ex Ey : Int) (sx sy : Bool) (w : World) (H1 : Hid (OfC x 105 sx Mx Ex)) (H2 : Hid (OfC y 102 sy My Ey)) (t2 : ((My : Int) == 0) = true) :
    Calls Try.prog 44 #[.int .u64 x, .int .u64 y] w fun e w' => e = .returned (.int .u64 (Ieee.double.word (sx != sy) 9218868437227405312 : Nat)) ∧ Grown w w' := by
  have hc102 : ((102 : Nat) : Int) = 102 := rfl
  have hc105 : ((105 : Nat) : Int) = 105 := rfl
  have hI : ∀ w, Calls Try.prog 67 #[.bool (sx != sy), .int .u64 9218868437227405312] w fun e w' => e = .returned (.int .u64 (Ieee.double.word (sx != sy) 9218868437227405312 : Nat)) ∧ w = w' := fun w => signx_any (sx != sy) 9218868437227405312 w (by omega)
  have HI := Lib.hid hI
  clear hI
  go_enter Try.func44, Try.ntmps44
  go_wp2_with fail
  refine (H1.out _).mono ?_; rintro e w1 ⟨rfl, g1⟩
  go_wp2_with fail
  refine (H2.out _).mono ?_; rintro e w2 ⟨rfl, g2⟩
  have G := Lib.hid (grown_trans g1 g2)
  clear H1 H2 g1 g2
  go_wp2_with fail
  go_quiet (fail)
  go_wp2_with fail
  refine (HI.out _).mono ?_; rintro e w' ⟨rfl, rfl⟩
  go_wp2_with fail
  go_ret
  exact ⟨rfl, grown_trans ((G.out.alloc _ _).alloc _ _) (grown_drewN _ _)⟩
set_option maxRecDepth 100000 in
set_option maxHeartbeats 1000000 in
theorem rdiv_if (x y Mx My : Nat) (Ex Ey : Int) (sx sy : Bool) (w : World) (H1 : Hid (OfC x 105 sx Mx Ex)) (H2 : Hid (OfC y 102 sy My Ey)) (t2 : ((My : Int) == 0) = false) :
    Calls Try.prog 44 #[.int .u64 x, .int .u64 y] w fun e w' => e = .returned (.int .u64 (Ieee.double.word (sx != sy) 9218868437227405312 : Nat)) ∧ Grown w w' := by
  have hc102 : ((102 : Nat) : Int) = 102 := rfl
  have hc105 : ((105 : Nat) : Int) = 105 := rfl
  have hI : ∀ w, Calls Try.prog 67 #[.bool (sx != sy), .int .u64 9218868437227405312] w fun e w' => e = .returned (.int .u64 (Ieee.double.word (sx != sy) 9218868437227405312 : Nat)) ∧ w = w' := fun w => signx_any (sx != sy) 9218868437227405312 w (by omega)
  have HI := Lib.hid hI
  clear hI
  go_enter Try.func44, Try.ntmps44
  go_wp2_with fail
  refine (H1.out _).mono ?_; rintro e w1 ⟨rfl, g1⟩
  go_wp2_with fail
  refine (H2.out _).mono ?_; rintro e w2 ⟨rfl, g2⟩
  have G := Lib.hid (grown_trans g1 g2)
  clear H1 H2 g1 g2
  go_wp2_with fail
  go_quiet (fail)
  go_wp2_with fail
  refine (HI.out _).mono ?_; rintro e w' ⟨rfl, rfl⟩
  go_wp2_with fail
  go_ret
  exact ⟨rfl, grown_trans ((G.out.alloc _ _).alloc _ _) (grown_drewN _ _)⟩
set_option maxRecDepth 100000 in
set_option maxHeartbeats 1000000 in
theorem rdiv_zn (x y Mx My : Nat) (Ex Ey : Int) (sx sy : Bool) (w : World) (H1 : Hid (OfC x 102 sx Mx Ex)) (H2 : Hid (OfC y 110 sy My Ey)) (t1 : ((Mx : Int) == 0) = true) :
    Calls Try.prog 44 #[.int .u64 x, .int .u64 y] w fun e w' => e = .returned (.int .u64 9221120237041090560) ∧ Grown w w' := by
  have hc102 : ((102 : Nat) : Int) = 102 := rfl
  have hc110 : ((110 : Nat) : Int) = 110 := rfl
  go_enter Try.func44, Try.ntmps44
  go_wp2_with fail
  refine (H1.out _).mono ?_; rintro e w1 ⟨rfl, g1⟩
  go_wp2_with fail
  refine (H2.out _).mono ?_; rintro e w2 ⟨rfl, g2⟩
  have G := Lib.hid (grown_trans g1 g2)
  clear H1 H2 g1 g2
  go_wp2_with fail
  go_quiet (fail)
  go_wp2_with fail
  go_ret
  exact ⟨rfl, grown_trans ((G.out.alloc _ _).alloc _ _) (grown_drewN _ _)⟩
set_option maxRecDepth 100000 in
set_option maxHeartbeats 1000000 in
theorem rdiv_zi (x y Mx My : Nat) (Ex Ey : Int) (sx sy : Bool) (w : World) (H1 : Hid (OfC x 102 sx Mx Ex)) (H2 : Hid (OfC y 105 sy My Ey)) (t1 : ((Mx : Int) == 0) = true) :
    Calls Try.prog 44 #[.int .u64 x, .int .u64 y] w fun e w' => e = .returned (.int .u64 (Ieee.double.word (sx != sy) 0 : Nat)) ∧ Grown w w' := by
  have hc102 : ((102 : Nat) : Int) = 102 := rfl
  have hc105 : ((105 : Nat) : Int) = 105 := rfl
  have hI : ∀ w, Calls Try.prog 67 #[.bool (sx != sy), .int .u64 0] w fun e w' => e = .returned (.int .u64 (Ieee.double.word (sx != sy) 0 : Nat)) ∧ w = w' := fun w => signx_any (sx != sy) 0 w (by omega)
  have HI := Lib.hid hI
  clear hI
  go_enter Try.func44, Try.ntmps44
  go_wp2_with fail
  refine (H1.out _).mono ?_; rintro e w1 ⟨rfl, g1⟩
  go_wp2_with fail
  refine (H2.out _).mono ?_; rintro e w2 ⟨rfl, g2⟩
  have G := Lib.hid (grown_trans g1 g2)
  clear H1 H2 g1 g2
  go_wp2_with fail
  go_quiet (fail)
  go_wp2_with fail
  refine (HI.out _).mono ?_; rintro e w' ⟨rfl, rfl⟩
  go_wp2_with fail
  go_ret
  exact ⟨rfl, grown_trans ((G.out.alloc _ _).alloc _ _) (grown_drewN _ _)⟩
set_option maxRecDepth 100000 in
set_option maxHeartbeats 1000000 in
theorem rdiv_zz (x y Mx My : Nat) (Ex Ey : Int) (sx sy : Bool) (w : World) (H1 : Hid (OfC x 102 sx Mx Ex)) (H2 : Hid (OfC y 102 sy My Ey)) (t1 : ((Mx : Int) == 0) = true) (t2 : ((My : Int) == 0) = true) :
    Calls Try.prog 44 #[.int .u64 x, .int .u64 y] w fun e w' => e = .returned (.int .u64 9221120237041090560) ∧ Grown w w' := by
  have hc102 : ((102 : Nat) : Int) = 102 := rfl
  go_enter Try.func44, Try.ntmps44
  go_wp2_with fail
  refine (H1.out _).mono ?_; rintro e w1 ⟨rfl, g1⟩
  go_wp2_with fail
  refine (H2.out _).mono ?_; rintro e w2 ⟨rfl, g2⟩
  have G := Lib.hid (grown_trans g1 g2)
  clear H1 H2 g1 g2
  go_wp2_with fail
  go_quiet (fail)
  go_wp2_with fail
  go_ret
  exact ⟨rfl, grown_trans ((G.out.alloc _ _).alloc _ _) (grown_drewN _ _)⟩
set_option maxRecDepth 100000 in
set_option maxHeartbeats 1000000 in
theorem rdiv_zf (x y Mx My : Nat) (Ex Ey : Int) (sx sy : Bool) (w : World) (H1 : Hid (OfC x 102 sx Mx Ex)) (H2 : Hid (OfC y 102 sy My Ey)) (t1 : ((Mx : Int) == 0) = true) (t2 : ((My : Int) == 0) = false) :
    Calls Try.prog 44 #[.int .u64 x, .int .u64 y] w fun e w' => e = .returned (.int .u64 (Ieee.double.word (sx != sy) 0 : Nat)) ∧ Grown w w' := by
  have hc102 : ((102 : Nat) : Int) = 102 := rfl
  have hI : ∀ w, Calls Try.prog 67 #[.bool (sx != sy), .int .u64 0] w fun e w' => e = .returned (.int .u64 (Ieee.double.word (sx != sy) 0 : Nat)) ∧ w = w' := fun w => signx_any (sx != sy) 0 w (by omega)
  have HI := Lib.hid hI
  clear hI
  go_enter Try.func44, Try.ntmps44
  go_wp2_with fail
  refine (H1.out _).mono ?_; rintro e w1 ⟨rfl, g1⟩
  go_wp2_with fail
  refine (H2.out _).mono ?_; rintro e w2 ⟨rfl, g2⟩
  have G := Lib.hid (grown_trans g1 g2)
  clear H1 H2 g1 g2
  go_wp2_with fail
  go_quiet (fail)
  go_wp2_with fail
  refine (HI.out _).mono ?_; rintro e w' ⟨rfl, rfl⟩
  go_wp2_with fail
  go_ret
  exact ⟨rfl, grown_trans ((G.out.alloc _ _).alloc _ _) (grown_drewN _ _)⟩
set_option maxRecDepth 100000 in
set_option maxHeartbeats 1000000 in
theorem rdiv_fn (x y Mx My : Nat) (Ex Ey : Int) (sx sy : Bool) (w : World) (H1 : Hid (OfC x 102 sx Mx Ex)) (H2 : Hid (OfC y 110 sy My Ey)) (t1 : ((Mx : Int) == 0) = false) :
    Calls Try.prog 44 #[.int .u64 x, .int .u64 y] w fun e w' => e = .returned (.int .u64 9221120237041090560) ∧ Grown w w' := by
  have hc102 : ((102 : Nat) : Int) = 102 := rfl
  have hc110 : ((110 : Nat) : Int) = 110 := rfl
  go_enter Try.func44, Try.ntmps44
  go_wp2_with fail
  refine (H1.out _).mono ?_; rintro e w1 ⟨rfl, g1⟩
  go_wp2_with fail
  refine (H2.out _).mono ?_; rintro e w2 ⟨rfl, g2⟩
  have G := Lib.hid (grown_trans g1 g2)
  clear H1 H2 g1 g2
  go_wp2_with fail
  go_quiet (fail)
  go_wp2_with fail
  go_ret
  exact ⟨rfl, grown_trans ((G.out.alloc _ _).alloc _ _) (grown_drewN _ _)⟩
set_option maxRecDepth 100000 in
set_option maxHeartbeats 1000000 in
theorem rdiv_fi (x y Mx My : Nat) (Ex Ey : Int) (sx sy : Bool) (w : World) (H1 : Hid (OfC x 102 sx Mx Ex)) (H2 : Hid (OfC y 105 sy My Ey)) (t1 : ((Mx : Int) == 0) = false) :
    Calls Try.prog 44 #[.int .u64 x, .int .u64 y] w fun e w' => e = .returned (.int .u64 (Ieee.double.word (sx != sy) 0 : Nat)) ∧ Grown w w' := by
  have hc102 : ((102 : Nat) : Int) = 102 := rfl
  have hc105 : ((105 : Nat) : Int) = 105 := rfl
  have hI : ∀ w, Calls Try.prog 67 #[.bool (sx != sy), .int .u64 0] w fun e w' => e = .returned (.int .u64 (Ieee.double.word (sx != sy) 0 : Nat)) ∧ w = w' := fun w => signx_any (sx != sy) 0 w (by omega)
  have HI := Lib.hid hI
  clear hI
  go_enter Try.func44, Try.ntmps44
  go_wp2_with fail
  refine (H1.out _).mono ?_; rintro e w1 ⟨rfl, g1⟩
  go_wp2_with fail
  refine (H2.out _).mono ?_; rintro e w2 ⟨rfl, g2⟩
  have G := Lib.hid (grown_trans g1 g2)
  clear H1 H2 g1 g2
  go_wp2_with fail
  go_quiet (fail)
  go_wp2_with fail
  refine (HI.out _).mono ?_; rintro e w' ⟨rfl, rfl⟩
  go_wp2_with fail
  go_ret
  exact ⟨rfl, grown_trans ((G.out.alloc _ _).alloc _ _) (grown_drewN _ _)⟩
set_option maxRecDepth 100000 in
set_option maxHeartbeats 1000000 in
theorem rdiv_fz (x y Mx My : Nat) (Ex Ey : Int) (sx sy : Bool) (w : World) (H1 : Hid (OfC x 102 sx Mx Ex)) (H2 : Hid (OfC y 102 sy My Ey)) (t1 : ((Mx : Int) == 0) = false) (t2 : ((My : Int) == 0) = true) :
    Calls Try.prog 44 #[.int .u64 x, .int .u64 y] w fun e w' => e = .returned (.int .u64 (Ieee.double.word (sx != sy) 9218868437227405312 : Nat)) ∧ Grown w w' := by
  have hc102 : ((102 : Nat) : Int) = 102 := rfl
  have hI : ∀ w, Calls Try.prog 67 #[.bool (sx != sy), .int .u64 9218868437227405312] w fun e w' => e = .returned (.int .u64 (Ieee.double.word (sx != sy) 9218868437227405312 : Nat)) ∧ w = w' := fun w => signx_any (sx != sy) 9218868437227405312 w (by omega)
  have HI := Lib.hid hI
  clear hI
  go_enter Try.func44, Try.ntmps44
  go_wp2_with fail
  refine (H1.out _).mono ?_; rintro e w1 ⟨rfl, g1⟩
  go_wp2_with fail
  refine (H2.out _).mono ?_; rintro e w2 ⟨rfl, g2⟩
  have G := Lib.hid (grown_trans g1 g2)
  clear H1 H2 g1 g2
  go_wp2_with fail
  go_quiet (fail)
  go_wp2_with fail
  refine (HI.out _).mono ?_; rintro e w' ⟨rfl, rfl⟩
  go_wp2_with fail
  go_ret
  exact ⟨rfl, grown_trans ((G.out.alloc _ _).alloc _ _) (grown_drewN _ _)⟩
end Go.Proofs.Ytojnokaeopadfaa
