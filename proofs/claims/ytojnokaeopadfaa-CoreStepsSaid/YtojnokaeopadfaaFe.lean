import Derived.Test.YtojnokaeopadfaaFc
import Derived.Test.YtojnokaeopadfaaMa
import Derived.Lib.MinMax
import Derived.Deep.Cut
namespace Go.Proofs.Ytojnokaeopadfaa
open Go.RowKit
set_option linter.unusedVariables false
set_option linter.unusedSimpArgs false

set_option maxRecDepth 100000 in
set_option maxHeartbeats 1000000 in
theorem round_none (neg : Bool) (e : Int) (w : World) (h1 : -100000 ≤ e) (h2 : e ≤ 100000) :
    Calls Try.prog 68 #[.bool neg, .int .u64 (0 : Nat), .int .i64 e] w fun e w' => e = .returned (.int .u64 (Ieee.double.word neg 0 : Nat)) ∧ w = w' := by
  have hs : ∀ w, Calls Try.prog 76 #[.int .u64 (0 : Nat)] w fun e w' => e = .returned (.int .i64 (0 : Nat)) ∧ w = w' := fun w => size_any 0 w (by omega)
  have Hs := Lib.hid hs
  have hI : ∀ w, Calls Try.prog 67 #[.bool neg, .int .u64 0] w fun e w' => e = .returned (.int .u64 (Ieee.double.word neg 0 : Nat)) ∧ w = w' := fun w => signx_any neg 0 w (by omega)
  have HI := Lib.hid hI
  clear hs hI
  obtain ⟨D, hmax⟩ : ∃ D, max (((0 : Nat) : Int) - 53) (-1074 - e) = D := ⟨_, rfl⟩
  have hc0 : (((0 : Nat) : Int) == 0) = true := rfl
  go_enter Try.func68, Try.ntmps68
  go_wp2_with (first | (go_at_call 76; refine (Hs.out _).mono ?_; rintro e w' ⟨rfl, rfl⟩) | (go_at_call 67; refine (HI.out _).mono ?_; rintro e w' ⟨rfl, rfl⟩))
  go_ret
  exact ⟨rfl, rfl⟩
set_option maxRecDepth 100000 in
set_option maxHeartbeats 1000000 in
theorem round_far (neg : Bool) (m S : Nat) (e D : Int) (w : World) (h : m < 18446744073709551616) (hm : ((m : Int) == 0) = false) (hS : Flo.sz m = S)
    (h1 : -100000 ≤ e) (h2 : e ≤ 100000) (hS2 : S ≤ 64) (hmax : max ((S : Int) - 53) (-1074 - e) = D) (hD1 : 64 < D) :
    Calls Try.prog 68 #[.bool neg, .int .u64 m, .int .i64 e] w fun e w' => e = .returned (.int .u64 (Ieee.double.word neg 0 : Nat)) ∧ w = w' := by
  have hs : ∀ w, Calls Try.prog 76 #[.int .u64 m] w fun e w' => e = .returned (.int .i64 (S : Int)) ∧ w = w' := fun w => hS ▸ size_any m w h
  have Hs := Lib.hid hs
  have hI : ∀ w, Calls Try.prog 67 #[.bool neg, .int .u64 0] w fun e w' => e = .returned (.int .u64 (Ieee.double.word neg 0 : Nat)) ∧ w = w' := fun w => signx_any neg 0 w (by omega)
  have HI := Lib.hid hI
  clear hs hI hS h
  go_enter Try.func68, Try.ntmps68
  go_wp2_with (first | (go_at_call 76; refine (Hs.out _).mono ?_; rintro e w' ⟨rfl, rfl⟩) | (go_at_call 67; refine (HI.out _).mono ?_; rintro e w' ⟨rfl, rfl⟩))
  go_ret
  exact ⟨rfl, rfl⟩
set_option maxRecDepth 100000 in
set_option maxHeartbeats 1000000 in
theorem round_H0 (neg : Bool) (m S : Nat) (e : Int) (w : World) (h : m < 18446744073709551616) (hm : ((m : Int) == 0) = false) (hS : Flo.sz m = S)
    (h1 : -100000 ≤ e) (h2 : e ≤ 100000) (hS2 : S ≤ 64) (hmax : max ((S : Int) - 53) (-1074 - e) = 64) (hx : e + 64 = -1074) (hk2 : decide (9223372036854775808 < (m : Int)) = false) :
    Calls Try.prog 68 #[.bool neg, .int .u64 m, .int .i64 e] w fun e w' => e = .returned (.int .u64 (Ieee.double.word neg 0 : Nat)) ∧ w = w' := by
  have hs : ∀ w, Calls Try.prog 76 #[.int .u64 m] w fun e w' => e = .returned (.int .i64 (S : Int)) ∧ w = w' := fun w => hS ▸ size_any m w h
  have Hs := Lib.hid hs
  have hI : ∀ w, Calls Try.prog 67 #[.bool neg, .int .u64 0] w fun e w' => e = .returned (.int .u64 (Ieee.double.word neg 0 : Nat)) ∧ w = w' := fun w => signx_any neg 0 w (by omega)
  have HI := Lib.hid hI
  have HK : Unit → _ := fun _ => hk2
  clear hs hS h hI hk2
  go_enter Try.func68, Try.ntmps68
  go_upto_if 34 with (first | (go_at_call 76; refine (Hs.out _).mono ?_; rintro e w' ⟨rfl, rfl⟩))
  refine wp_cond_false (show Value.bool (decide (9223372036854775808 < (m : Int))) = _ by rw [HK ()]) ?_
  clear HK
  go_wp2_with (first | (go_at_call 76; refine (Hs.out _).mono ?_; rintro e w' ⟨rfl, rfl⟩) | (go_at_call 67; refine (HI.out _).mono ?_; rintro e w' ⟨rfl, rfl⟩))
  go_ret
  exact ⟨rfl, rfl⟩
set_option maxRecDepth 100000 in
set_option maxHeartbeats 1000000 in
theorem round_H1 (neg : Bool) (m S : Nat) (e : Int) (w : World) (h : m < 18446744073709551616) (hm : ((m : Int) == 0) = false) (hS : Flo.sz m = S)
    (h1 : -100000 ≤ e) (h2 : e ≤ 100000) (hS2 : S ≤ 64) (hmax : max ((S : Int) - 53) (-1074 - e) = 64) (hx : e + 64 = -1074) (hk2 : decide (9223372036854775808 < (m : Int)) = true) :
    Calls Try.prog 68 #[.bool neg, .int .u64 m, .int .i64 e] w fun e w' => e = .returned (.int .u64 (Ieee.double.word neg 1 : Nat)) ∧ w = w' := by
  have hs : ∀ w, Calls Try.prog 76 #[.int .u64 m] w fun e w' => e = .returned (.int .i64 (S : Int)) ∧ w = w' := fun w => hS ▸ size_any m w h
  have Hs := Lib.hid hs
  have hI : ∀ w, Calls Try.prog 67 #[.bool neg, .int .u64 1] w fun e w' => e = .returned (.int .u64 (Ieee.double.word neg 1 : Nat)) ∧ w = w' := fun w => signx_any neg 1 w (by omega)
  have HI := Lib.hid hI
  have HK : Unit → _ := fun _ => hk2
  clear hs hS h hI hk2
  go_enter Try.func68, Try.ntmps68
  go_upto_if 34 with (first | (go_at_call 76; refine (Hs.out _).mono ?_; rintro e w' ⟨rfl, rfl⟩))
  refine wp_cond_true (show Value.bool (decide (9223372036854775808 < (m : Int))) = _ by rw [HK ()]) ?_
  clear HK
  go_wp2_with (first | (go_at_call 76; refine (Hs.out _).mono ?_; rintro e w' ⟨rfl, rfl⟩) | (go_at_call 67; refine (HI.out _).mono ?_; rintro e w' ⟨rfl, rfl⟩))
  go_ret
  exact ⟨rfl, rfl⟩
set_option maxRecDepth 100000 in
set_option maxHeartbeats 1000000 in
theorem round_ZT1 (neg : Bool) (m S m1 f R : Nat) (e x D : Int) (w : World) (h : m < 18446744073709551616) (hm : ((m : Int) == 0) = false) (hS : Flo.sz m = S)
    (h1 : -100000 ≤ e) (h2 : e ≤ 100000) (hS2 : S ≤ 64) (hmax : max ((S : Int) - 53) (-1074 - e) = D) (hD1 : D ≤ 0) (hD2 : -54 ≤ D)
    (hsh : IntKind.u64.wrap ((m : Int) * 2 ^ (-D).toNat) = m1) (hx : e + D = x) (hx1 : -1074 ≤ x) (hx0 : x ≤ 200000)
    (hx2 : x + 1 ≤ 971) (hm1 : m1 = 9007199254740992) (hRR : R < 9223372036854775808) (hR : bits .or .u64 ((x + 1 + 1075) * 4503599627370496) 0 = R) :
    Calls Try.prog 68 #[.bool neg, .int .u64 m, .int .i64 e] w fun e w' => e = .returned (.int .u64 (Ieee.double.word neg R : Nat)) ∧ w = w' := by
  have hs : ∀ w, Calls Try.prog 76 #[.int .u64 m] w fun e w' => e = .returned (.int .i64 (S : Int)) ∧ w = w' := fun w => hS ▸ size_any m w h
  have Hs := Lib.hid hs
  have HI := Lib.hid (fun w => signx_any neg R w hRR)
  clear hRR
  clear hs hS h
  subst hm1
  have hf0 : bits .and .u64 4503599627370496 4503599627370495 = 0 := by kernel_rfl
  go_enter Try.func68, Try.ntmps68
  go_wp2_with (first | (go_at_call 76; refine (Hs.out _).mono ?_; rintro e w' ⟨rfl, rfl⟩) | (go_at_call 67; refine (HI.out _).mono ?_; rintro e w' ⟨rfl, rfl⟩))
  go_ret
  exact ⟨rfl, rfl⟩
set_option maxRecDepth 100000 in
set_option maxHeartbeats 1000000 in
theorem round_ZT1i (neg : Bool) (m S m1 f R : Nat) (e x D : Int) (w : World) (h : m < 18446744073709551616) (hm : ((m : Int) == 0) = false) (hS : Flo.sz m = S)
    (h1 : -100000 ≤ e) (h2 : e ≤ 100000) (hS2 : S ≤ 64) (hmax : max ((S : Int) - 53) (-1074 - e) = D) (hD1 : D ≤ 0) (hD2 : -54 ≤ D)
    (hsh : IntKind.u64.wrap ((m : Int) * 2 ^ (-D).toNat) = m1) (hx : e + D = x) (hx1 : -1074 ≤ x) (hx0 : x ≤ 200000)
    (hx2 : 971 < x + 1) (hm1 : m1 = 9007199254740992) :
    Calls Try.prog 68 #[.bool neg, .int .u64 m, .int .i64 e] w fun e w' => e = .returned (.int .u64 (Ieee.double.word neg 9218868437227405312 : Nat)) ∧ w = w' := by
  have hs : ∀ w, Calls Try.prog 76 #[.int .u64 m] w fun e w' => e = .returned (.int .i64 (S : Int)) ∧ w = w' := fun w => hS ▸ size_any m w h
  have Hs := Lib.hid hs
  have hI := fun w => signx_any neg 9218868437227405312 w (by omega)
  have HI := Lib.hid hI
  clear hI
  clear hs hS h
  subst hm1
  go_enter Try.func68, Try.ntmps68
  go_wp2_with (first | (go_at_call 76; refine (Hs.out _).mono ?_; rintro e w' ⟨rfl, rfl⟩) | (go_at_call 67; refine (HI.out _).mono ?_; rintro e w' ⟨rfl, rfl⟩))
  go_ret
  exact ⟨rfl, rfl⟩
set_option maxRecDepth 100000 in
set_option maxHeartbeats 1000000 in
theorem round_ZT2 (neg : Bool) (m S m1 f R : Nat) (e x D : Int) (w : World) (h : m < 18446744073709551616) (hm : ((m : Int) == 0) = false) (hS : Flo.sz m = S)
    (h1 : -100000 ≤ e) (h2 : e ≤ 100000) (hS2 : S ≤ 64) (hmax : max ((S : Int) - 53) (-1074 - e) = D) (hD1 : D ≤ 0) (hD2 : -54 ≤ D)
    (hsh : IntKind.u64.wrap ((m : Int) * 2 ^ (-D).toNat) = m1) (hx : e + D = x) (hx1 : -1074 ≤ x) (hx0 : x ≤ 200000)
    (hx2 : 971 < x) (hk1 : ((m1 : Int) == 9007199254740992) = false) :
    Calls Try.prog 68 #[.bool neg, .int .u64 m, .int .i64 e] w fun e w' => e = .returned (.int .u64 (Ieee.double.word neg 9218868437227405312 : Nat)) ∧ w = w' := by
  have hs : ∀ w, Calls Try.prog 76 #[.int .u64 m] w fun e w' => e = .returned (.int .i64 (S : Int)) ∧ w = w' := fun w => hS ▸ size_any m w h
  have Hs := Lib.hid hs
  have hI := fun w => signx_any neg 9218868437227405312 w (by omega)
  have HI := Lib.hid hI
  clear hI
  clear hs hS h
  go_enter Try.func68, Try.ntmps68
  go_wp2_with (first | (go_at_call 76; refine (Hs.out _).mono ?_; rintro e w' ⟨rfl, rfl⟩) | (go_at_call 67; refine (HI.out _).mono ?_; rintro e w' ⟨rfl, rfl⟩))
  go_ret
  exact ⟨rfl, rfl⟩
set_option maxRecDepth 100000 in
set_option maxHeartbeats 1000000 in
theorem round_ZT3 (neg : Bool) (m S m1 f R : Nat) (e x D : Int) (w : World) (h : m < 18446744073709551616) (hm : ((m : Int) == 0) = false) (hS : Flo.sz m = S)
    (h1 : -100000 ≤ e) (h2 : e ≤ 100000) (hS2 : S ≤ 64) (hmax : max ((S : Int) - 53) (-1074 - e) = D) (hD1 : D ≤ 0) (hD2 : -54 ≤ D)
    (hsh : IntKind.u64.wrap ((m : Int) * 2 ^ (-D).toNat) = m1) (hx : e + D = x) (hx1 : -1074 ≤ x) (hx0 : x ≤ 200000)
    (hx2 : x ≤ 971) (hk1 : ((m1 : Int) == 9007199254740992) = false) (hk2 : decide ((m1 : Int) < 4503599627370496) = true) (hRR : m1 < 9223372036854775808) :
    Calls Try.prog 68 #[.bool neg, .int .u64 m, .int .i64 e] w fun e w' => e = .returned (.int .u64 (Ieee.double.word neg m1 : Nat)) ∧ w = w' := by
  have hs : ∀ w, Calls Try.prog 76 #[.int .u64 m] w fun e w' => e = .returned (.int .i64 (S : Int)) ∧ w = w' := fun w => hS ▸ size_any m w h
  have Hs := Lib.hid hs
  have HI := Lib.hid (fun w => signx_any neg m1 w hRR)
  clear hRR
  clear hs hS h
  have HK : Unit → _ := fun _ => hk2
  clear hk2
  go_enter Try.func68, Try.ntmps68
  go_upto_if 78 with (first | (go_at_call 76; refine (Hs.out _).mono ?_; rintro e w' ⟨rfl, rfl⟩))
  refine wp_cond_true (show Value.bool (decide ((m1 : Int) < 4503599627370496)) = _ by rw [HK ()]) ?_
  clear HK
  go_wp2_with (first | (go_at_call 76; refine (Hs.out _).mono ?_; rintro e w' ⟨rfl, rfl⟩) | (go_at_call 67; refine (HI.out _).mono ?_; rintro e w' ⟨rfl, rfl⟩))
  go_ret
  exact ⟨rfl, rfl⟩
set_option maxRecDepth 100000 in
set_option maxHeartbeats 1000000 in
theorem round_ZT4 (neg : Bool) (m S m1 f R : Nat) (e x D : Int) (w : World) (h : m < 18446744073709551616) (hm : ((m : Int) == 0) = false) (hS : Flo.sz m = S)
    (h1 : -100000 ≤ e) (h2 : e ≤ 100000) (hS2 : S ≤ 64) (hmax : max ((S : Int) - 53) (-1074 - e) = D) (hD1 : D ≤ 0) (hD2 : -54 ≤ D)
    (hsh : IntKind.u64.wrap ((m : Int) * 2 ^ (-D).toNat) = m1) (hx : e + D = x) (hx1 : -1074 ≤ x) (hx0 : x ≤ 200000)
    (hx2 : x ≤ 971) (hk1 : ((m1 : Int) == 9007199254740992) = false) (hk2 : decide ((m1 : Int) < 4503599627370496) = false) (hf : bits .and .u64 (m1 : Int) 4503599627370495 = f) (hR : bits .or .u64 ((x + 1075) * 4503599627370496) f = R) (hRR : R < 9223372036854775808) :
    Calls Try.prog 68 #[.bool neg, .int .u64 m, .int .i64 e] w fun e w' => e = .returned (.int .u64 (Ieee.double.word neg R : Nat)) ∧ w = w' := by
  have hs : ∀ w, Calls Try.prog 76 #[.int .u64 m] w fun e w' => e = .returned (.int .i64 (S : Int)) ∧ w = w' := fun w => hS ▸ size_any m w h
  have Hs := Lib.hid hs
  have HI := Lib.hid (fun w => signx_any neg R w hRR)
  clear hRR
  clear hs hS h
  have HK : Unit → _ := fun _ => hk2
  clear hk2
  go_enter Try.func68, Try.ntmps68
  go_upto_if 78 with (first | (go_at_call 76; refine (Hs.out _).mono ?_; rintro e w' ⟨rfl, rfl⟩))
  refine wp_cond_false (show Value.bool (decide ((m1 : Int) < 4503599627370496)) = _ by rw [HK ()]) ?_
  clear HK
  go_wp2_with (first | (go_at_call 76; refine (Hs.out _).mono ?_; rintro e w' ⟨rfl, rfl⟩) | (go_at_call 67; refine (HI.out _).mono ?_; rintro e w' ⟨rfl, rfl⟩))
  go_ret
  exact ⟨rfl, rfl⟩
set_option maxRecDepth 100000 in
set_option maxHeartbeats 1000000 in
theorem round_AT1 (neg : Bool) (m S d P q r H m1 f R : Nat) (e x : Int) (w : World) (h : m < 18446744073709551616) (hm : ((m : Int) == 0) = false) (hS : Flo.sz m = S)
    (h1 : -100000 ≤ e) (h2 : e ≤ 100000) (hS2 : S ≤ 64) (hmax : max ((S : Int) - 53) (-1074 - e) = d) (hd1 : 0 < d) (hd2 : d < 64)
    (hP : IntKind.u64.wrap (2 ^ d) = P) (hr : bits .and .u64 (m : Int) (IntKind.u64.wrap ((P : Int) - 1)) = r) (hH : IntKind.u64.wrap (2 ^ (d - 1)) = H)
    (hq : (m : Int) / 2 ^ d = q) (hx : e + d = x) (hx1 : -1074 ≤ x) (hx0 : x ≤ 200000)
    (hinc : IntKind.u64.wrap ((q : Int) + 1) = m1) (hc1 : decide (H < r) = true) (hc2 : ((r : Int) == H) = false)
    (hx2 : x + 1 ≤ 971) (hm1 : m1 = 9007199254740992) (hRR : R < 9223372036854775808) (hR : bits .or .u64 ((x + 1 + 1075) * 4503599627370496) 0 = R) :
    Calls Try.prog 68 #[.bool neg, .int .u64 m, .int .i64 e] w fun e w' => e = .returned (.int .u64 (Ieee.double.word neg R : Nat)) ∧ w = w' := by
  have hs : ∀ w, Calls Try.prog 76 #[.int .u64 m] w fun e w' => e = .returned (.int .i64 (S : Int)) ∧ w = w' := fun w => hS ▸ size_any m w h
  have Hs := Lib.hid hs
  have HI := Lib.hid (fun w => signx_any neg R w hRR)
  clear hRR
  clear hs hS h
  subst hm1
  have hf0 : bits .and .u64 4503599627370496 4503599627370495 = 0 := by kernel_rfl
  go_enter Try.func68, Try.ntmps68
  go_wp2_with (first | (go_at_call 76; refine (Hs.out _).mono ?_; rintro e w' ⟨rfl, rfl⟩) | (go_at_call 67; refine (HI.out _).mono ?_; rintro e w' ⟨rfl, rfl⟩))
  go_ret
  exact ⟨rfl, rfl⟩
set_option maxRecDepth 100000 in
set_option maxHeartbeats 1000000 in
theorem round_AT1i (neg : Bool) (m S d P q r H m1 f R : Nat) (e x : Int) (w : World) (h : m < 18446744073709551616) (hm : ((m : Int) == 0) = false) (hS : Flo.sz m = S)
    (h1 : -100000 ≤ e) (h2 : e ≤ 100000) (hS2 : S ≤ 64) (hmax : max ((S : Int) - 53) (-1074 - e) = d) (hd1 : 0 < d) (hd2 : d < 64)
    (hP : IntKind.u64.wrap (2 ^ d) = P) (hr : bits .and .u64 (m : Int) (IntKind.u64.wrap ((P : Int) - 1)) = r) (hH : IntKind.u64.wrap (2 ^ (d - 1)) = H)
    (hq : (m : Int) / 2 ^ d = q) (hx : e + d = x) (hx1 : -1074 ≤ x) (hx0 : x ≤ 200000)
    (hinc : IntKind.u64.wrap ((q : Int) + 1) = m1) (hc1 : decide (H < r) = true) (hc2 : ((r : Int) == H) = false)
    (hx2 : 971 < x + 1) (hm1 : m1 = 9007199254740992) :
    Calls Try.prog 68 #[.bool neg, .int .u64 m, .int .i64 e] w fun e w' => e = .returned (.int .u64 (Ieee.double.word neg 9218868437227405312 : Nat)) ∧ w = w' := by
  have hs : ∀ w, Calls Try.prog 76 #[.int .u64 m] w fun e w' => e = .returned (.int .i64 (S : Int)) ∧ w = w' := fun w => hS ▸ size_any m w h
  have Hs := Lib.hid hs
  have hI := fun w => signx_any neg 9218868437227405312 w (by omega)
  have HI := Lib.hid hI
  clear hI
  clear hs hS h
  subst hm1
  go_enter Try.func68, Try.ntmps68
  go_wp2_with (first | (go_at_call 76; refine (Hs.out _).mono ?_; rintro e w' ⟨rfl, rfl⟩) | (go_at_call 67; refine (HI.out _).mono ?_; rintro e w' ⟨rfl, rfl⟩))
  go_ret
  exact ⟨rfl, rfl⟩
set_option maxRecDepth 100000 in
set_option maxHeartbeats 1000000 in
theorem round_AT2 (neg : Bool) (m S d P q r H m1 f R : Nat) (e x : Int) (w : World) (h : m < 18446744073709551616) (hm : ((m : Int) == 0) = false) (hS : Flo.sz m = S)
    (h1 : -100000 ≤ e) (h2 : e ≤ 100000) (hS2 : S ≤ 64) (hmax : max ((S : Int) - 53) (-1074 - e) = d) (hd1 : 0 < d) (hd2 : d < 64)
    (hP : IntKind.u64.wrap (2 ^ d) = P) (hr : bits .and .u64 (m : Int) (IntKind.u64.wrap ((P : Int) - 1)) = r) (hH : IntKind.u64.wrap (2 ^ (d - 1)) = H)
    (hq : (m : Int) / 2 ^ d = q) (hx : e + d = x) (hx1 : -1074 ≤ x) (hx0 : x ≤ 200000)
    (hinc : IntKind.u64.wrap ((q : Int) + 1) = m1) (hc1 : decide (H < r) = true) (hc2 : ((r : Int) == H) = false)
    (hx2 : 971 < x) (hk1 : ((m1 : Int) == 9007199254740992) = false) :
    Calls Try.prog 68 #[.bool neg, .int .u64 m, .int .i64 e] w fun e w' => e = .returned (.int .u64 (Ieee.double.word neg 9218868437227405312 : Nat)) ∧ w = w' := by
  have hs : ∀ w, Calls Try.prog 76 #[.int .u64 m] w fun e w' => e = .returned (.int .i64 (S : Int)) ∧ w = w' := fun w => hS ▸ size_any m w h
  have Hs := Lib.hid hs
  have hI := fun w => signx_any neg 9218868437227405312 w (by omega)
  have HI := Lib.hid hI
  clear hI
  clear hs hS h
  go_enter Try.func68, Try.ntmps68
  go_wp2_with (first | (go_at_call 76; refine (Hs.out _).mono ?_; rintro e w' ⟨rfl, rfl⟩) | (go_at_call 67; refine (HI.out _).mono ?_; rintro e w' ⟨rfl, rfl⟩))
  go_ret
  exact ⟨rfl, rfl⟩
set_option maxRecDepth 100000 in
set_option maxHeartbeats 1000000 in
theorem round_AT3 (neg : Bool) (m S d P q r H m1 f R : Nat) (e x : Int) (w : World) (h : m < 18446744073709551616) (hm : ((m : Int) == 0) = false) (hS : Flo.sz m = S)
    (h1 : -100000 ≤ e) (h2 : e ≤ 100000) (hS2 : S ≤ 64) (hmax : max ((S : Int) - 53) (-1074 - e) = d) (hd1 : 0 < d) (hd2 : d < 64)
    (hP : IntKind.u64.wrap (2 ^ d) = P) (hr : bits .and .u64 (m : Int) (IntKind.u64.wrap ((P : Int) - 1)) = r) (hH : IntKind.u64.wrap (2 ^ (d - 1)) = H)
    (hq : (m : Int) / 2 ^ d = q) (hx : e + d = x) (hx1 : -1074 ≤ x) (hx0 : x ≤ 200000)
    (hinc : IntKind.u64.wrap ((q : Int) + 1) = m1) (hc1 : decide (H < r) = true) (hc2 : ((r : Int) == H) = false)
    (hx2 : x ≤ 971) (hk1 : ((m1 : Int) == 9007199254740992) = false) (hk2 : decide ((m1 : Int) < 4503599627370496) = true) (hRR : m1 < 9223372036854775808) :
    Calls Try.prog 68 #[.bool neg, .int .u64 m, .int .i64 e] w fun e w' => e = .returned (.int .u64 (Ieee.double.word neg m1 : Nat)) ∧ w = w' := by
  have hs : ∀ w, Calls Try.prog 76 #[.int .u64 m] w fun e w' => e = .returned (.int .i64 (S : Int)) ∧ w = w' := fun w => hS ▸ size_any m w h
  have Hs := Lib.hid hs
  have HI := Lib.hid (fun w => signx_any neg m1 w hRR)
  clear hRR
  clear hs hS h
  have HK : Unit → _ := fun _ => hk2
  clear hk2
  go_enter Try.func68, Try.ntmps68
  go_upto_if 78 with (first | (go_at_call 76; refine (Hs.out _).mono ?_; rintro e w' ⟨rfl, rfl⟩))
  refine wp_cond_true (show Value.bool (decide ((m1 : Int) < 4503599627370496)) = _ by rw [HK ()]) ?_
  clear HK
  go_wp2_with (first | (go_at_call 76; refine (Hs.out _).mono ?_; rintro e w' ⟨rfl, rfl⟩) | (go_at_call 67; refine (HI.out _).mono ?_; rintro e w' ⟨rfl, rfl⟩))
  go_ret
  exact ⟨rfl, rfl⟩
set_option maxRecDepth 100000 in
set_option maxHeartbeats 1000000 in
theorem round_AT4 (neg : Bool) (m S d P q r H m1 f R : Nat) (e x : Int) (w : World) (h : m < 18446744073709551616) (hm : ((m : Int) == 0) = false) (hS : Flo.sz m = S)
    (h1 : -100000 ≤ e) (h2 : e ≤ 100000) (hS2 : S ≤ 64) (hmax : max ((S : Int) - 53) (-1074 - e) = d) (hd1 : 0 < d) (hd2 : d < 64)
    (hP : IntKind.u64.wrap (2 ^ d) = P) (hr : bits .and .u64 (m : Int) (IntKind.u64.wrap ((P : Int) - 1)) = r) (hH : IntKind.u64.wrap (2 ^ (d - 1)) = H)
    (hq : (m : Int) / 2 ^ d = q) (hx : e + d = x) (hx1 : -1074 ≤ x) (hx0 : x ≤ 200000)
    (hinc : IntKind.u64.wrap ((q : Int) + 1) = m1) (hc1 : decide (H < r) = true) (hc2 : ((r : Int) == H) = false)
    (hx2 : x ≤ 971) (hk1 : ((m1 : Int) == 9007199254740992) = false) (hk2 : decide ((m1 : Int) < 4503599627370496) = false) (hf : bits .and .u64 (m1 : Int) 4503599627370495 = f) (hR : bits .or .u64 ((x + 1075) * 4503599627370496) f = R) (hRR : R < 9223372036854775808) :
    Calls Try.prog 68 #[.bool neg, .int .u64 m, .int .i64 e] w fun e w' => e = .returned (.int .u64 (Ieee.double.word neg R : Nat)) ∧ w = w' := by
  have hs : ∀ w, Calls Try.prog 76 #[.int .u64 m] w fun e w' => e = .returned (.int .i64 (S : Int)) ∧ w = w' := fun w => hS ▸ size_any m w h
  have Hs := Lib.hid hs
  have HI := Lib.hid (fun w => signx_any neg R w hRR)
  clear hRR
  clear hs hS h
  have HK : Unit → _ := fun _ => hk2
  clear hk2
  go_enter Try.func68, Try.ntmps68
  go_upto_if 78 with (first | (go_at_call 76; refine (Hs.out _).mono ?_; rintro e w' ⟨rfl, rfl⟩))
  refine wp_cond_false (show Value.bool (decide ((m1 : Int) < 4503599627370496)) = _ by rw [HK ()]) ?_
  clear HK
  go_wp2_with (first | (go_at_call 76; refine (Hs.out _).mono ?_; rintro e w' ⟨rfl, rfl⟩) | (go_at_call 67; refine (HI.out _).mono ?_; rintro e w' ⟨rfl, rfl⟩))
  go_ret
  exact ⟨rfl, rfl⟩
set_option maxRecDepth 100000 in
set_option maxHeartbeats 1000000 in
theorem round_BT1 (neg : Bool) (m S d P q r H m1 f R : Nat) (e x : Int) (w : World) (h : m < 18446744073709551616) (hm : ((m : Int) == 0) = false) (hS : Flo.sz m = S)
    (h1 : -100000 ≤ e) (h2 : e ≤ 100000) (hS2 : S ≤ 64) (hmax : max ((S : Int) - 53) (-1074 - e) = d) (hd1 : 0 < d) (hd2 : d < 64)
    (hP : IntKind.u64.wrap (2 ^ d) = P) (hr : bits .and .u64 (m : Int) (IntKind.u64.wrap ((P : Int) - 1)) = r) (hH : IntKind.u64.wrap (2 ^ (d - 1)) = H)
    (hq : (m : Int) / 2 ^ d = q) (hx : e + d = x) (hx1 : -1074 ≤ x) (hx0 : x ≤ 200000)
    (hinc : IntKind.u64.wrap ((q : Int) + 1) = m1) (hc1 : r = H) (hc2 : bits .and .u64 (q : Int) 1 = 1)
    (hx2 : x + 1 ≤ 971) (hm1 : m1 = 9007199254740992) (hRR : R < 9223372036854775808) (hR : bits .or .u64 ((x + 1 + 1075) * 4503599627370496) 0 = R) :
    Calls Try.prog 68 #[.bool neg, .int .u64 m, .int .i64 e] w fun e w' => e = .returned (.int .u64 (Ieee.double.word neg R : Nat)) ∧ w = w' := by
  have hs : ∀ w, Calls Try.prog 76 #[.int .u64 m] w fun e w' => e = .returned (.int .i64 (S : Int)) ∧ w = w' := fun w => hS ▸ size_any m w h
  have Hs := Lib.hid hs
  have HI := Lib.hid (fun w => signx_any neg R w hRR)
  clear hRR
  clear hs hS h
  subst hc1
  subst hm1
  have hf0 : bits .and .u64 4503599627370496 4503599627370495 = 0 := by kernel_rfl
  go_enter Try.func68, Try.ntmps68
  go_wp2_with (first | (go_at_call 76; refine (Hs.out _).mono ?_; rintro e w' ⟨rfl, rfl⟩) | (go_at_call 67; refine (HI.out _).mono ?_; rintro e w' ⟨rfl, rfl⟩))
  go_ret
  exact ⟨rfl, rfl⟩
set_option maxRecDepth 100000 in
set_option maxHeartbeats 1000000 in
theorem round_BT1i (neg : Bool) (m S d P q r H m1 f R : Nat) (e x : Int) (w : World) (h : m < 18446744073709551616) (hm : ((m : Int) == 0) = false) (hS : Flo.sz m = S)
    (h1 : -100000 ≤ e) (h2 : e ≤ 100000) (hS2 : S ≤ 64) (hmax : max ((S : Int) - 53) (-1074 - e) = d) (hd1 : 0 < d) (hd2 : d < 64)
    (hP : IntKind.u64.wrap (2 ^ d) = P) (hr : bits .and .u64 (m : Int) (IntKind.u64.wrap ((P : Int) - 1)) = r) (hH : IntKind.u64.wrap (2 ^ (d - 1)) = H)
    (hq : (m : Int) / 2 ^ d = q) (hx : e + d = x) (hx1 : -1074 ≤ x) (hx0 : x ≤ 200000)
    (hinc : IntKind.u64.wrap ((q : Int) + 1) = m1) (hc1 : r = H) (hc2 : bits .and .u64 (q : Int) 1 = 1)
    (hx2 : 971 < x + 1) (hm1 : m1 = 9007199254740992) :
    Calls Try.prog 68 #[.bool neg, .int .u64 m, .int .i64 e] w fun e w' => e = .returned (.int .u64 (Ieee.double.word neg 9218868437227405312 : Nat)) ∧ w = w' := by
  have hs : ∀ w, Calls Try.prog 76 #[.int .u64 m] w fun e w' => e = .returned (.int .i64 (S : Int)) ∧ w = w' := fun w => hS ▸ size_any m w h
  have Hs := Lib.hid hs
  have hI := fun w => signx_any neg 9218868437227405312 w (by omega)
  have HI := Lib.hid hI
  clear hI
  clear hs hS h
  subst hc1
  subst hm1
  go_enter Try.func68, Try.ntmps68
  go_wp2_with (first | (go_at_call 76; refine (Hs.out _).mono ?_; rintro e w' ⟨rfl, rfl⟩) | (go_at_call 67; refine (HI.out _).mono ?_; rintro e w' ⟨rfl, rfl⟩))
  go_ret
  exact ⟨rfl, rfl⟩
set_option maxRecDepth 100000 in
set_option maxHeartbeats 1000000 in
theorem round_BT2 (neg : Bool) (m S d P q r H m1 f R : Nat) (e x : Int) (w : World) (h : m < 18446744073709551616) (hm : ((m : Int) == 0) = false) (hS : Flo.sz m = S)
    (h1 : -100000 ≤ e) (h2 : e ≤ 100000) (hS2 : S ≤ 64) (hmax : max ((S : Int) - 53) (-1074 - e) = d) (hd1 : 0 < d) (hd2 : d < 64)
    (hP : IntKind.u64.wrap (2 ^ d) = P) (hr : bits .and .u64 (m : Int) (IntKind.u64.wrap ((P : Int) - 1)) = r) (hH : IntKind.u64.wrap (2 ^ (d - 1)) = H)
    (hq : (m : Int) / 2 ^ d = q) (hx : e + d = x) (hx1 : -1074 ≤ x) (hx0 : x ≤ 200000)
    (hinc : IntKind.u64.wrap ((q : Int) + 1) = m1) (hc1 : r = H) (hc2 : bits .and .u64 (q : Int) 1 = 1)
    (hx2 : 971 < x) (hk1 : ((m1 : Int) == 9007199254740992) = false) :
    Calls Try.prog 68 #[.bool neg, .int .u64 m, .int .i64 e] w fun e w' => e = .returned (.int .u64 (Ieee.double.word neg 9218868437227405312 : Nat)) ∧ w = w' := by
  have hs : ∀ w, Calls Try.prog 76 #[.int .u64 m] w fun e w' => e = .returned (.int .i64 (S : Int)) ∧ w = w' := fun w => hS ▸ size_any m w h
  have Hs := Lib.hid hs
  have hI := fun w => signx_any neg 9218868437227405312 w (by omega)
  have HI := Lib.hid hI
  clear hI
  clear hs hS h
  subst hc1
  go_enter Try.func68, Try.ntmps68
  go_wp2_with (first | (go_at_call 76; refine (Hs.out _).mono ?_; rintro e w' ⟨rfl, rfl⟩) | (go_at_call 67; refine (HI.out _).mono ?_; rintro e w' ⟨rfl, rfl⟩))
  go_ret
  exact ⟨rfl, rfl⟩
set_option maxRecDepth 100000 in
set_option maxHeartbeats 1000000 in
theorem round_BT3 (neg : Bool) (m S d P q r H m1 f R : Nat) (e x : Int) (w : World) (h : m < 18446744073709551616) (hm : ((m : Int) == 0) = false) (hS : Flo.sz m = S)
    (h1 : -100000 ≤ e) (h2 : e ≤ 100000) (hS2 : S ≤ 64) (hmax : max ((S : Int) - 53) (-1074 - e) = d) (hd1 : 0 < d) (hd2 : d < 64)
    (hP : IntKind.u64.wrap (2 ^ d) = P) (hr : bits .and .u64 (m : Int) (IntKind.u64.wrap ((P : Int) - 1)) = r) (hH : IntKind.u64.wrap (2 ^ (d - 1)) = H)
    (hq : (m : Int) / 2 ^ d = q) (hx : e + d = x) (hx1 : -1074 ≤ x) (hx0 : x ≤ 200000)
    (hinc : IntKind.u64.wrap ((q : Int) + 1) = m1) (hc1 : r = H) (hc2 : bits .and .u64 (q : Int) 1 = 1)
    (hx2 : x ≤ 971) (hk1 : ((m1 : Int) == 9007199254740992) = false) (hk2 : decide ((m1 : Int) < 4503599627370496) = true) (hRR : m1 < 9223372036854775808) :
    Calls Try.prog 68 #[.bool neg, .int .u64 m, .int .i64 e] w fun e w' => e = .returned (.int .u64 (Ieee.double.word neg m1 : Nat)) ∧ w = w' := by
  have hs : ∀ w, Calls Try.prog 76 #[.int .u64 m] w fun e w' => e = .returned (.int .i64 (S : Int)) ∧ w = w' := fun w => hS ▸ size_any m w h
  have Hs := Lib.hid hs
  have HI := Lib.hid (fun w => signx_any neg m1 w hRR)
  clear hRR
  clear hs hS h
  subst hc1
  have HK : Unit → _ := fun _ => hk2
  clear hk2
  go_enter Try.func68, Try.ntmps68
  go_upto_if 78 with (first | (go_at_call 76; refine (Hs.out _).mono ?_; rintro e w' ⟨rfl, rfl⟩))
  refine wp_cond_true (show Value.bool (decide ((m1 : Int) < 4503599627370496)) = _ by rw [HK ()]) ?_
  clear HK
  go_wp2_with (first | (go_at_call 76; refine (Hs.out _).mono ?_; rintro e w' ⟨rfl, rfl⟩) | (go_at_call 67; refine (HI.out _).mono ?_; rintro e w' ⟨rfl, rfl⟩))
  go_ret
  exact ⟨rfl, rfl⟩
set_option maxRecDepth 100000 in
set_option maxHeartbeats 1000000 in
theorem round_BT4 (neg : Bool) (m S d P q r H m1 f R : Nat) (e x : Int) (w : World) (h : m < 18446744073709551616) (hm : ((m : Int) == 0) = false) (hS : Flo.sz m = S)
    (h1 : -100000 ≤ e) (h2 : e ≤ 100000) (hS2 : S ≤ 64) (hmax : max ((S : Int) - 53) (-1074 - e) = d) (hd1 : 0 < d) (hd2 : d < 64)
    (hP : IntKind.u64.wrap (2 ^ d) = P) (hr : bits .and .u64 (m : Int) (IntKind.u64.wrap ((P : Int) - 1)) = r) (hH : IntKind.u64.wrap (2 ^ (d - 1)) = H)
    (hq : (m : Int) / 2 ^ d = q) (hx : e + d = x) (hx1 : -1074 ≤ x) (hx0 : x ≤ 200000)
    (hinc : IntKind.u64.wrap ((q : Int) + 1) = m1) (hc1 : r = H) (hc2 : bits .and .u64 (q : Int) 1 = 1)
    (hx2 : x ≤ 971) (hk1 : ((m1 : Int) == 9007199254740992) = false) (hk2 : decide ((m1 : Int) < 4503599627370496) = false) (hf : bits .and .u64 (m1 : Int) 4503599627370495 = f) (hR : bits .or .u64 ((x + 1075) * 4503599627370496) f = R) (hRR : R < 9223372036854775808) :
    Calls Try.prog 68 #[.bool neg, .int .u64 m, .int .i64 e] w fun e w' => e = .returned (.int .u64 (Ieee.double.word neg R : Nat)) ∧ w = w' := by
  have hs : ∀ w, Calls Try.prog 76 #[.int .u64 m] w fun e w' => e = .returned (.int .i64 (S : Int)) ∧ w = w' := fun w => hS ▸ size_any m w h
  have Hs := Lib.hid hs
  have HI := Lib.hid (fun w => signx_any neg R w hRR)
  clear hRR
  clear hs hS h
  subst hc1
  have HK : Unit → _ := fun _ => hk2
  clear hk2
  go_enter Try.func68, Try.ntmps68
  go_upto_if 78 with (first | (go_at_call 76; refine (Hs.out _).mono ?_; rintro e w' ⟨rfl, rfl⟩))
  refine wp_cond_false (show Value.bool (decide ((m1 : Int) < 4503599627370496)) = _ by rw [HK ()]) ?_
  clear HK
  go_wp2_with (first | (go_at_call 76; refine (Hs.out _).mono ?_; rintro e w' ⟨rfl, rfl⟩) | (go_at_call 67; refine (HI.out _).mono ?_; rintro e w' ⟨rfl, rfl⟩))
  go_ret
  exact ⟨rfl, rfl⟩
end Go.Proofs.Ytojnokaeopadfaa
