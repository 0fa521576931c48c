import Derived.Test.YtojnokaeopadfaaFk
namespace Go.Proofs.Ytojnokaeopadfaa
open Go.RowKit
set_option linter.unusedVariables false
set_option linter.unusedSimpArgs false

/-- What a call that takes a word apart hands back. -/
def OfC (x K : Nat) (s : Bool) (M : Nat) (E : Int) : Prop := ∀ w, Calls Try.prog 66 #[.int .u64 x] w fun e w' => e = .returned (.agg #[.int .u8 K, .bool s, .int .u64 M, .int .i64 E]) ∧ Grown w w'
set_option maxRecDepth 100000 in
set_option maxHeartbeats 1000000 in
theorem radd_nan1 (x y kx ky Mx My : Nat) (Ex Ey : Int) (sx sy : Bool) (w : World) (H1 : Hid (OfC x kx sx Mx Ex)) (H2 : Hid (OfC y ky sy My Ey)) (t1 : ((kx : Int) == 110) = true) :
    Calls Try.prog 42 #[.int .u64 x, .int .u64 y] w fun e w' => e = .returned (.int .u64 9221120237041090560) ∧ Grown w w' := by
  go_enter Try.func42, Try.ntmps42
  go_wp2_with fail
  refine (H1.out _).mono ?_; rintro e w1 ⟨rfl, g1⟩
  go_wp2_with fail
  refine (H2.out _).mono ?_; rintro e w2 ⟨rfl, g2⟩
  have G := Lib.hid (grown_trans g1 g2)
  clear H1 H2 g1 g2
  go_wp2_with fail
  go_ret
  exact ⟨rfl, (G.out.alloc _ _).alloc _ _⟩
set_option maxRecDepth 100000 in
set_option maxHeartbeats 1000000 in
theorem radd_nan2 (x y kx ky Mx My : Nat) (Ex Ey : Int) (sx sy : Bool) (w : World) (H1 : Hid (OfC x kx sx Mx Ex)) (H2 : Hid (OfC y ky sy My Ey)) (t1 : ((kx : Int) == 110) = false) (t2 : ((ky : Int) == 110) = true) :
    Calls Try.prog 42 #[.int .u64 x, .int .u64 y] w fun e w' => e = .returned (.int .u64 9221120237041090560) ∧ Grown w w' := by
  go_enter Try.func42, Try.ntmps42
  go_wp2_with fail
  refine (H1.out _).mono ?_; rintro e w1 ⟨rfl, g1⟩
  go_wp2_with fail
  refine (H2.out _).mono ?_; rintro e w2 ⟨rfl, g2⟩
  have G := Lib.hid (grown_trans g1 g2)
  clear H1 H2 g1 g2
  go_wp2_with fail
  go_ret
  exact ⟨rfl, (G.out.alloc _ _).alloc _ _⟩
set_option maxRecDepth 100000 in
set_option maxHeartbeats 1000000 in
theorem radd_inf (x y Mx My : Nat) (Ex Ey : Int) (sx sy : Bool) (w : World) (H1 : Hid (OfC x 105 sx Mx Ex)) (H2 : Hid (OfC y 105 sy My Ey)) (t1 : (sx == sy) = false) :
    Calls Try.prog 42 #[.int .u64 x, .int .u64 y] w fun e w' => e = .returned (.int .u64 9221120237041090560) ∧ Grown w w' := by
  have t2 : (sx != sy) = true := by revert t1; cases sx <;> cases sy <;> decide
  have hc : ((105 : Nat) : Int) = 105 := rfl
  go_enter Try.func42, Try.ntmps42
  go_wp2_with fail
  refine (H1.out _).mono ?_; rintro e w1 ⟨rfl, g1⟩
  go_wp2_with fail
  refine (H2.out _).mono ?_; rintro e w2 ⟨rfl, g2⟩
  have G := Lib.hid (grown_trans g1 g2)
  clear H1 H2 g1 g2
  go_wp2_with fail
  go_ret
  exact ⟨rfl, (G.out.alloc _ _).alloc _ _⟩
set_option maxRecDepth 100000 in
set_option maxHeartbeats 1000000 in
theorem radd_left2 (x y Mx My : Nat) (Ex Ey : Int) (s : Bool) (w : World) (H1 : Hid (OfC x 105 s Mx Ex)) (H2 : Hid (OfC y 105 s My Ey)) :
    Calls Try.prog 42 #[.int .u64 x, .int .u64 y] w fun e w' => e = .returned (.int .u64 x) ∧ Grown w w' := by
  have t2 : (s != s) = false := by cases s <;> decide
  have hc : ((105 : Nat) : Int) = 105 := rfl
  go_enter Try.func42, Try.ntmps42
  go_wp2_with fail
  refine (H1.out _).mono ?_; rintro e w1 ⟨rfl, g1⟩
  go_wp2_with fail
  refine (H2.out _).mono ?_; rintro e w2 ⟨rfl, g2⟩
  have G := Lib.hid (grown_trans g1 g2)
  clear H1 H2 g1 g2
  go_wp2_with fail
  go_ret
  exact ⟨rfl, (G.out.alloc _ _).alloc _ _⟩
set_option maxRecDepth 100000 in
set_option maxHeartbeats 1000000 in
theorem radd_left (x y Mx My : Nat) (Ex Ey : Int) (sx sy : Bool) (w : World) (H1 : Hid (OfC x 105 sx Mx Ex)) (H2 : Hid (OfC y 102 sy My Ey)) :
    Calls Try.prog 42 #[.int .u64 x, .int .u64 y] w fun e w' => e = .returned (.int .u64 x) ∧ Grown w w' := by
  have hc : ((105 : Nat) : Int) = 105 := rfl
  have hc2 : ((102 : Nat) : Int) = 102 := rfl
  go_enter Try.func42, Try.ntmps42
  go_wp2_with fail
  refine (H1.out _).mono ?_; rintro e w1 ⟨rfl, g1⟩
  go_wp2_with fail
  refine (H2.out _).mono ?_; rintro e w2 ⟨rfl, g2⟩
  have G := Lib.hid (grown_trans g1 g2)
  clear H1 H2 g1 g2
  go_wp2_with fail
  go_ret
  exact ⟨rfl, (G.out.alloc _ _).alloc _ _⟩
set_option maxRecDepth 100000 in
set_option maxHeartbeats 1000000 in
theorem radd_right (x y Mx My : Nat) (Ex Ey : Int) (sx sy : Bool) (w : World) (H1 : Hid (OfC x 102 sx Mx Ex)) (H2 : Hid (OfC y 105 sy My Ey)) :
    Calls Try.prog 42 #[.int .u64 x, .int .u64 y] w fun e w' => e = .returned (.int .u64 y) ∧ Grown w w' := by
  have hc : ((105 : Nat) : Int) = 105 := rfl
  have hc2 : ((102 : Nat) : Int) = 102 := rfl
  go_enter Try.func42, Try.ntmps42
  go_wp2_with fail
  refine (H1.out _).mono ?_; rintro e w1 ⟨rfl, g1⟩
  go_wp2_with fail
  refine (H2.out _).mono ?_; rintro e w2 ⟨rfl, g2⟩
  have G := Lib.hid (grown_trans g1 g2)
  clear H1 H2 g1 g2
  go_wp2_with fail
  go_ret
  exact ⟨rfl, (G.out.alloc _ _).alloc _ _⟩
set_option maxRecDepth 100000 in
set_option maxHeartbeats 1000000 in
theorem radd_zero (x y Mx My : Nat) (Ex Ey : Int) (sx sy : Bool) (w : World) (H1 : Hid (OfC x 102 sx Mx Ex)) (H2 : Hid (OfC y 102 sy My Ey)) (t1 : ((Mx : Int) == 0) = true) (t2 : ((My : Int) == 0) = true) :
    Calls Try.prog 42 #[.int .u64 x, .int .u64 y] w fun e w' => e = .returned (.int .u64 (Ieee.double.word (sx && sy) 0 : Nat)) ∧ Grown w w' := by
  have hc2 : ((102 : Nat) : Int) = 102 := rfl
  have hI : ∀ s w, Calls Try.prog 67 #[.bool s, .int .u64 0] w fun e w' => e = .returned (.int .u64 (Ieee.double.word s 0 : Nat)) ∧ w = w' := fun s w => signx_any s 0 w (by omega)
  have HI := Lib.hid hI
  clear hI
  cases sx <;> cases sy
  all_goals
    go_enter Try.func42, Try.ntmps42
    go_wp2_with fail
    refine (H1.out _).mono ?_; rintro e w1 ⟨rfl, g1⟩
    go_wp2_with fail
    refine (H2.out _).mono ?_; rintro e w2 ⟨rfl, g2⟩
    have G := Lib.hid (grown_trans g1 g2)
    clear H1 H2 g1 g2
    go_wp2_with fail
    refine (HI.out _ _).mono ?_; rintro e w' ⟨rfl, rfl⟩
    go_wp2_with fail
    go_ret
    exact ⟨rfl, (G.out.alloc _ _).alloc _ _⟩
set_option maxRecDepth 100000 in
set_option maxHeartbeats 1000000 in
theorem radd_zl (x y Mx My : Nat) (Ex Ey : Int) (sx sy : Bool) (w : World) (H1 : Hid (OfC x 102 sx Mx Ex)) (H2 : Hid (OfC y 102 sy My Ey)) (t1 : ((Mx : Int) == 0) = true) (t2 : ((My : Int) == 0) = false) :
    Calls Try.prog 42 #[.int .u64 x, .int .u64 y] w fun e w' => e = .returned (.int .u64 y) ∧ Grown w w' := by
  have hc2 : ((102 : Nat) : Int) = 102 := rfl
  go_enter Try.func42, Try.ntmps42
  go_wp2_with fail
  refine (H1.out _).mono ?_; rintro e w1 ⟨rfl, g1⟩
  go_wp2_with fail
  refine (H2.out _).mono ?_; rintro e w2 ⟨rfl, g2⟩
  have G := Lib.hid (grown_trans g1 g2)
  clear H1 H2 g1 g2
  go_wp2_with fail
  go_ret
  exact ⟨rfl, (G.out.alloc _ _).alloc _ _⟩
set_option maxRecDepth 100000 in
set_option maxHeartbeats 1000000 in
theorem radd_zr (x y Mx My : Nat) (Ex Ey : Int) (sx sy : Bool) (w : World) (H1 : Hid (OfC x 102 sx Mx Ex)) (H2 : Hid (OfC y 102 sy My Ey)) (t1 : ((Mx : Int) == 0) = false) (t2 : ((My : Int) == 0) = true) :
    Calls Try.prog 42 #[.int .u64 x, .int .u64 y] w fun e w' => e = .returned (.int .u64 x) ∧ Grown w w' := by
  have hc2 : ((102 : Nat) : Int) = 102 := rfl
  go_enter Try.func42, Try.ntmps42
  go_wp2_with fail
  refine (H1.out _).mono ?_; rintro e w1 ⟨rfl, g1⟩
  go_wp2_with fail
  refine (H2.out _).mono ?_; rintro e w2 ⟨rfl, g2⟩
  have G := Lib.hid (grown_trans g1 g2)
  clear H1 H2 g1 g2
  go_wp2_with fail
  go_ret
  exact ⟨rfl, (G.out.alloc _ _).alloc _ _⟩
end Go.Proofs.Ytojnokaeopadfaa
