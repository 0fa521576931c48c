import Derived.Test.YtojnokaeopadfaaFb
namespace Go.Proofs.Ytojnokaeopadfaa
open Go.RowKit
set_option linter.unusedVariables false
set_option linter.unusedSimpArgs false

theorem signx_any (s : Bool) (b : Nat) (w : World) (h : b < 9223372036854775808) :
    Calls Try.prog 67 #[.bool s, .int .u64 b] w fun e w' => e = .returned (.int .u64 ((Ieee.double.word s b : Nat) : Int)) ∧ w = w' := by
  have hb : bits .or .u64 (b : Int) 9223372036854775808 = ((9223372036854775808 + b : Nat) : Int) := by
    refine (u64_or_nat b 9223372036854775808 (by omega) (by omega)).trans ?_
    rw [Nat.or_comm, nat_join 63 9223372036854775808 b (by omega) h]
  cases s
  · have e : Ieee.double.word false b = b := rfl
    rw [e]
    go_enter Try.func67, Try.ntmps67
    go_wp2
    go_ret
    exact ⟨rfl, rfl⟩
  · have e : Ieee.double.word true b = 9223372036854775808 + b := rfl
    rw [e]
    obtain ⟨X, eX⟩ : ∃ X, X = 9223372036854775808 + b := ⟨_, rfl⟩
    rw [← eX] at hb ⊢; clear eX
    go_enter Try.func67, Try.ntmps67
    go_wp2
    go_ret
    exact ⟨rfl, rfl⟩
set_option maxHeartbeats 400000 in
theorem size_any (m : Nat) (w : World) (h : m < 18446744073709551616) :
    Calls Try.prog 76 #[.int .u64 m] w fun e w' => e = .returned (.int .i64 (Flo.sz m)) ∧ w = w' := by
  have hs := Flo.sz_le h
  go_enter Try.func76, Try.ntmps76
  go_wp2
  go_loop [0, 3] (fun a b => ∃ x k : Nat, x ≤ m ∧ k ≤ Flo.sz m ∧ Flo.SzInv m x k ∧ a = .int .u64 x ∧ b = .int .i64 k) (fun a _ => (intOf a).toNat)
  case atStart => exact ⟨m, 0, Nat.le_refl _, Nat.zero_le _, Flo.szInv_zero m, rfl, rfl⟩
  case round =>
    obtain ⟨x, k, hx, hk, hi, rfl, rfl⟩ := hrel
    have HI := Lib.hid hi
    clear hi
    by_cases h0 : x = 0
    · subst h0
      have hz : ((0 : Nat) : Int) = 0 := rfl
      go_wp2
      go_ret
      exact ⟨ret_i64 (by rw [Flo.szInv_end HI.out]), rfl⟩
    · have h1 : ((x : Int) != 0) = true := by simpa using h0
      have h2 := Flo.szInv_step HI.out h0
      have h3 := h2.2
      have H2 := Lib.hid h2
      clear h2
      go_wp2
      go_round
      case rel => exact ⟨x / 2, k + 1, by omega, by omega, H2.out, by go_num, by go_num⟩
      case measure => simp [intOf]; omega
end Go.Proofs.Ytojnokaeopadfaa
