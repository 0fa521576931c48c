import Derived.Test.YtojnokaeopadfaaFj
import Derived.Test.YtojnokaeopadfaaMa
namespace Go.Proofs.Ytojnokaeopadfaa
open Go.RowKit
set_option linter.unusedVariables false
set_option linter.unusedSimpArgs false

def RT (v : Int) (w : World) (e : Ending) (w' : World) : Prop := e = .returned (.int .i64 v) ∧ Grown w w'
theorem rt_nan (x : Nat) (w : World) (k M : Nat) (s : Bool) (E : Int)
    (A : Hid (∀ w, Calls Try.prog 66 #[.int .u64 x] w fun e w' => e = .returned (.agg #[.int .u8 k, .bool s, .int .u64 M, .int .i64 E]) ∧ Grown w w')) (hk : ((k : Int) == 110) = true) :
    Calls Try.prog 50 #[.int .u64 x] w (RT 0 w) := by
  go_enter Try.func50, Try.ntmps50
  go_wp2_with fail
  refine (A.out _).mono ?_; rintro e w1 ⟨rfl, g1⟩
  go_wp2_with fail
  go_ret
  exact ⟨rfl, g1.alloc _ _⟩
theorem rt_zero (x : Nat) (w : World) (s : Bool) (E : Int)
    (A : Hid (∀ w, Calls Try.prog 66 #[.int .u64 x] w fun e w' => e = .returned (.agg #[.int .u8 102, .bool s, .int .u64 0, .int .i64 E]) ∧ Grown w w')) :
    Calls Try.prog 50 #[.int .u64 x] w (RT 0 w) := by
  go_enter Try.func50, Try.ntmps50
  go_wp2_with fail
  refine (A.out _).mono ?_; rintro e w1 ⟨rfl, g1⟩
  go_wp2_with fail
  go_ret
  exact ⟨rfl, g1.alloc _ _⟩
theorem rt_far (x : Nat) (w : World) (M : Nat) (s : Bool) (E : Int)
    (A : Hid (∀ w, Calls Try.prog 66 #[.int .u64 x] w fun e w' => e = .returned (.agg #[.int .u8 102, .bool s, .int .u64 M, .int .i64 E]) ∧ Grown w w')) (hM : ((M : Int) == 0) = false) (hE : E < -53) :
    Calls Try.prog 50 #[.int .u64 x] w (RT 0 w) := by
  go_enter Try.func50, Try.ntmps50
  go_wp2_with fail
  refine (A.out _).mono ?_; rintro e w1 ⟨rfl, g1⟩
  go_wp2_with fail
  go_ret
  exact ⟨rfl, g1.alloc _ _⟩
theorem rt_inf (x : Nat) (w : World) (M : Nat) (s : Bool) (E : Int)
    (A : Hid (∀ w, Calls Try.prog 66 #[.int .u64 x] w fun e w' => e = .returned (.agg #[.int .u8 105, .bool s, .int .u64 M, .int .i64 E]) ∧ Grown w w')) :
    Calls Try.prog 50 #[.int .u64 x] w (RT (if s then -9223372036854775808 else 9223372036854775807) w) := by
  cases s
  all_goals
    go_enter Try.func50, Try.ntmps50
    go_wp2_with fail
    refine (A.out _).mono ?_; rintro e w1 ⟨rfl, g1⟩
    go_wp2_with fail
    go_ret
    exact ⟨rfl, g1.alloc _ _⟩
theorem rt_big (x : Nat) (w : World) (M : Nat) (s : Bool) (E : Int)
    (A : Hid (∀ w, Calls Try.prog 66 #[.int .u64 x] w fun e w' => e = .returned (.agg #[.int .u8 102, .bool s, .int .u64 M, .int .i64 E]) ∧ Grown w w')) (hM : ((M : Int) == 0) = false) (hE : 10 < E) :
    Calls Try.prog 50 #[.int .u64 x] w (RT (if s then -9223372036854775808 else 9223372036854775807) w) := by
  cases s
  all_goals
    go_enter Try.func50, Try.ntmps50
    go_wp2_with fail
    refine (A.out _).mono ?_; rintro e w1 ⟨rfl, g1⟩
    go_wp2_with fail
    go_ret
    exact ⟨rfl, g1.alloc _ _⟩
theorem rt_shr (x : Nat) (w : World) (M q d : Nat) (s : Bool)
    (A : Hid (∀ w, Calls Try.prog 66 #[.int .u64 x] w fun e w' => e = .returned (.agg #[.int .u8 102, .bool s, .int .u64 M, .int .i64 (-(d : Int))]) ∧ Grown w w')) (hM : ((M : Int) == 0) = false)
    (hd1 : 0 < d) (hd2 : d ≤ 53) (hq : (M : Int) / 2 ^ d = q) (hw : IntKind.i64.wrap (q : Int) = q) (hw2 : IntKind.i64.wrap (-(q : Int)) = -(q : Int)) :
    Calls Try.prog 50 #[.int .u64 x] w (RT (Flo.sgn s q) w) := by
  cases s
  all_goals
    go_enter Try.func50, Try.ntmps50
    go_wp2_with fail
    refine (A.out _).mono ?_; rintro e w1 ⟨rfl, g1⟩
    go_wp2_with fail
    go_ret
    exact ⟨rfl, g1.alloc _ _⟩
theorem rt_shl (x : Nat) (w : World) (M q d : Nat) (s : Bool)
    (A : Hid (∀ w, Calls Try.prog 66 #[.int .u64 x] w fun e w' => e = .returned (.agg #[.int .u8 102, .bool s, .int .u64 M, .int .i64 (d : Int)]) ∧ Grown w w')) (hM : ((M : Int) == 0) = false)
    (hd2 : d ≤ 10) (hq : IntKind.u64.wrap ((M : Int) * 2 ^ d) = q) (hw : IntKind.i64.wrap (q : Int) = q) (hw2 : IntKind.i64.wrap (-(q : Int)) = -(q : Int)) :
    Calls Try.prog 50 #[.int .u64 x] w (RT (Flo.sgn s q) w) := by
  cases s
  all_goals
    go_enter Try.func50, Try.ntmps50
    go_wp2_with fail
    refine (A.out _).mono ?_; rintro e w1 ⟨rfl, g1⟩
    go_wp2_with fail
    go_ret
    exact ⟨rfl, g1.alloc _ _⟩
end Go.Proofs.Ytojnokaeopadfaa
