import Derived.Test.YtojnokaeopadfaaFk
namespace Go.Proofs.Ytojnokaeopadfaa
open Go.RowKit
set_option linter.unusedVariables false
set_option linter.unusedSimpArgs false

set_option maxRecDepth 100000 in
set_option maxHeartbeats 4000000 in
theorem radd_i_even_diff (P l q : Nat) (d : Nat) (x y Mx My A B S : Nat) (Ex Ey : Int) (sx sy : Bool) (w : World) (b1 : -1200 ≤ Ex) (b2 : Ex ≤ 1000) (b3 : -1200 ≤ Ey) (b4 : Ey ≤ 1000)
    (H1 : Hid (∀ w, Calls Try.prog 66 #[.int .u64 x] w fun e w' => e = .returned (.agg #[.int .u8 102, .bool sx, .int .u64 Mx, .int .i64 Ex]) ∧ Grown w w'))
    (H2 : Hid (∀ w, Calls Try.prog 66 #[.int .u64 y] w fun e w' => e = .returned (.agg #[.int .u8 102, .bool sy, .int .u64 My, .int .i64 Ey]) ∧ Grown w w'))
    (hMx : ((Mx : Int) == 0) = false) (hMy : ((My : Int) == 0) = false)
     (ho : Ey < Ex) (hA : IntKind.u64.wrap ((Mx : Int) * 512) = A) (hB : IntKind.u64.wrap ((My : Int) * 512) = B) (hd : Ex - Ey = d) (hd1 : 1 ≤ d) (hd2 : d ≤ 62) (hP : IntKind.u64.wrap (2 ^ d) = P) (hl : bits .and .u64 (B : Int) (IntKind.u64.wrap ((P : Int) - 1)) = l) (hq : (B : Int) / 2 ^ d = q) (hl0 : ((l : Int) != 0) = false) (hs : (sx == sy) = false) (hne : ((A : Int) == q) = false) (hS : IntKind.u64.wrap ((A : Int) - q) = S)
    (R : Nat) (HR : Hid (∀ w, Calls Try.prog 68 #[.bool sx, .int .u64 S, .int .i64 (Ex - 9)] w fun e w' => e = .returned (.int .u64 R) ∧ w = w')) :
    Calls Try.prog 42 #[.int .u64 x, .int .u64 y] w fun e w' => e = .returned (.int .u64 R) ∧ Grown w w' := by
  go_enter Try.func42, Try.ntmps42
  go_wp2_with fail
  refine (H1.out _).mono ?_; rintro e w1 ⟨rfl, g1⟩
  go_wp2_with fail
  refine (H2.out _).mono ?_; rintro e w2 ⟨rfl, g2⟩
  have G := Lib.hid (grown_trans g1 g2)
  clear H1 H2 g1 g2
  go_wp2_with fail
  refine (HR.out _).mono ?_; rintro e w' ⟨rfl, rfl⟩
  go_wp2_with fail
  go_ret
  exact ⟨rfl, (G.out.alloc _ _).alloc _ _⟩
set_option maxRecDepth 100000 in
set_option maxHeartbeats 4000000 in
theorem radd_iii_far_same (d : Nat) (x y Mx My A B S : Nat) (Ex Ey : Int) (sx sy : Bool) (w : World) (b1 : -1200 ≤ Ex) (b2 : Ex ≤ 1000) (b3 : -1200 ≤ Ey) (b4 : Ey ≤ 1000)
    (H1 : Hid (∀ w, Calls Try.prog 66 #[.int .u64 x] w fun e w' => e = .returned (.agg #[.int .u8 102, .bool sx, .int .u64 Mx, .int .i64 Ex]) ∧ Grown w w'))
    (H2 : Hid (∀ w, Calls Try.prog 66 #[.int .u64 y] w fun e w' => e = .returned (.agg #[.int .u8 102, .bool sy, .int .u64 My, .int .i64 Ey]) ∧ Grown w w'))
    (hMx : ((Mx : Int) == 0) = false) (hMy : ((My : Int) == 0) = false)
     (ho : Ex < Ey) (hA : IntKind.u64.wrap ((My : Int) * 512) = A) (hB : IntKind.u64.wrap ((Mx : Int) * 512) = B) (hd : Ey - Ex = d) (hd1 : 1 ≤ d) (hd2 : 62 < d) (hs : sx = sy) (hS : IntKind.u64.wrap ((A : Int) + (1 : Int)) = S)
    (R : Nat) (HR : Hid (∀ w, Calls Try.prog 68 #[.bool sy, .int .u64 S, .int .i64 (Ey - 9)] w fun e w' => e = .returned (.int .u64 R) ∧ w = w')) :
    Calls Try.prog 42 #[.int .u64 x, .int .u64 y] w fun e w' => e = .returned (.int .u64 R) ∧ Grown w w' := by
  subst hs
  go_enter Try.func42, Try.ntmps42
  go_wp2_with fail
  refine (H1.out _).mono ?_; rintro e w1 ⟨rfl, g1⟩
  go_wp2_with fail
  refine (H2.out _).mono ?_; rintro e w2 ⟨rfl, g2⟩
  have G := Lib.hid (grown_trans g1 g2)
  clear H1 H2 g1 g2
  go_wp2_with fail
  refine (HR.out _).mono ?_; rintro e w' ⟨rfl, rfl⟩
  go_wp2_with fail
  go_ret
  exact ⟨rfl, (G.out.alloc _ _).alloc _ _⟩
set_option maxRecDepth 100000 in
set_option maxHeartbeats 4000000 in
theorem radd_iii_far_diff (d : Nat) (x y Mx My A B S : Nat) (Ex Ey : Int) (sx sy : Bool) (w : World) (b1 : -1200 ≤ Ex) (b2 : Ex ≤ 1000) (b3 : -1200 ≤ Ey) (b4 : Ey ≤ 1000)
    (H1 : Hid (∀ w, Calls Try.prog 66 #[.int .u64 x] w fun e w' => e = .returned (.agg #[.int .u8 102, .bool sx, .int .u64 Mx, .int .i64 Ex]) ∧ Grown w w'))
    (H2 : Hid (∀ w, Calls Try.prog 66 #[.int .u64 y] w fun e w' => e = .returned (.agg #[.int .u8 102, .bool sy, .int .u64 My, .int .i64 Ey]) ∧ Grown w w'))
    (hMx : ((Mx : Int) == 0) = false) (hMy : ((My : Int) == 0) = false)
     (ho : Ex < Ey) (hA : IntKind.u64.wrap ((My : Int) * 512) = A) (hB : IntKind.u64.wrap ((Mx : Int) * 512) = B) (hd : Ey - Ex = d) (hd1 : 1 ≤ d) (hd2 : 62 < d) (hs : (sy == sx) = false) (hne : ((A : Int) == (1 : Int)) = false) (hS : IntKind.u64.wrap ((A : Int) - (1 : Int)) = S)
    (R : Nat) (HR : Hid (∀ w, Calls Try.prog 68 #[.bool sy, .int .u64 S, .int .i64 (Ey - 9)] w fun e w' => e = .returned (.int .u64 R) ∧ w = w')) :
    Calls Try.prog 42 #[.int .u64 x, .int .u64 y] w fun e w' => e = .returned (.int .u64 R) ∧ Grown w w' := by
  go_enter Try.func42, Try.ntmps42
  go_wp2_with fail
  refine (H1.out _).mono ?_; rintro e w1 ⟨rfl, g1⟩
  go_wp2_with fail
  refine (H2.out _).mono ?_; rintro e w2 ⟨rfl, g2⟩
  have G := Lib.hid (grown_trans g1 g2)
  clear H1 H2 g1 g2
  go_wp2_with fail
  refine (HR.out _).mono ?_; rintro e w' ⟨rfl, rfl⟩
  go_wp2_with fail
  go_ret
  exact ⟨rfl, (G.out.alloc _ _).alloc _ _⟩
set_option maxRecDepth 100000 in
set_option maxHeartbeats 4000000 in
theorem radd_iii_odd_same (b : Nat) (P l q : Nat) (d : Nat) (x y Mx My A B S : Nat) (Ex Ey : Int) (sx sy : Bool) (w : World) (b1 : -1200 ≤ Ex) (b2 : Ex ≤ 1000) (b3 : -1200 ≤ Ey) (b4 : Ey ≤ 1000)
    (H1 : Hid (∀ w, Calls Try.prog 66 #[.int .u64 x] w fun e w' => e = .returned (.agg #[.int .u8 102, .bool sx, .int .u64 Mx, .int .i64 Ex]) ∧ Grown w w'))
    (H2 : Hid (∀ w, Calls Try.prog 66 #[.int .u64 y] w fun e w' => e = .returned (.agg #[.int .u8 102, .bool sy, .int .u64 My, .int .i64 Ey]) ∧ Grown w w'))
    (hMx : ((Mx : Int) == 0) = false) (hMy : ((My : Int) == 0) = false)
     (ho : Ex < Ey) (hA : IntKind.u64.wrap ((My : Int) * 512) = A) (hB : IntKind.u64.wrap ((Mx : Int) * 512) = B) (hd : Ey - Ex = d) (hd1 : 1 ≤ d) (hd2 : d ≤ 62) (hP : IntKind.u64.wrap (2 ^ d) = P) (hl : bits .and .u64 (B : Int) (IntKind.u64.wrap ((P : Int) - 1)) = l) (hq : (B : Int) / 2 ^ d = q) (hl0 : ((l : Int) != 0) = true) (hb : bits .or .u64 (q : Int) 1 = b) (hs : sx = sy) (hS : IntKind.u64.wrap ((A : Int) + b) = S)
    (R : Nat) (HR : Hid (∀ w, Calls Try.prog 68 #[.bool sy, .int .u64 S, .int .i64 (Ey - 9)] w fun e w' => e = .returned (.int .u64 R) ∧ w = w')) :
    Calls Try.prog 42 #[.int .u64 x, .int .u64 y] w fun e w' => e = .returned (.int .u64 R) ∧ Grown w w' := by
  subst hs
  go_enter Try.func42, Try.ntmps42
  go_wp2_with fail
  refine (H1.out _).mono ?_; rintro e w1 ⟨rfl, g1⟩
  go_wp2_with fail
  refine (H2.out _).mono ?_; rintro e w2 ⟨rfl, g2⟩
  have G := Lib.hid (grown_trans g1 g2)
  clear H1 H2 g1 g2
  go_wp2_with fail
  refine (HR.out _).mono ?_; rintro e w' ⟨rfl, rfl⟩
  go_wp2_with fail
  go_ret
  exact ⟨rfl, (G.out.alloc _ _).alloc _ _⟩
end Go.Proofs.Ytojnokaeopadfaa
