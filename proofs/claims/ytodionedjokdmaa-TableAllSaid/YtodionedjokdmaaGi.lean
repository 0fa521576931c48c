/- bits.Len to 127, nextPowerOfTwo, masks. -/
import Derived.Test.YtodionedjokdmaaJi
set_option linter.unusedVariables false
set_option linter.unusedSimpArgs false
namespace Go.Proofs.Ytodionedjokdmaa
open Go.RowKit
set_option linter.unusedVariables false
set_option linter.unusedSimpArgs false
/-- How many bits a number below 128 has. -/
def bq (n : Nat) : Nat := if n = 0 then 0 else if n < 2 then 1 else if n < 4 then 2 else if n < 8 then 3 else if n < 16 then 4 else if n < 32 then 5 else if n < 64 then 6 else 7
set_option maxHeartbeats 4000000 in
set_option maxRecDepth 100000 in
theorem len64_0 (n : Nat) (h1 : 0 ≤ n) (hn : n < 32) (w : World) : Calls Try.prog 66 #[.int .u64 (n : Int)] w fun e w' => e = .returned (.int .i64 (bq n : Int)) ∧ w' = w := by
  obtain ⟨k, rfl⟩ : ∃ k, n = 0 + k := ⟨n - 0, by omega⟩
  match k, (show k < 32 by omega) with
  | 0, _ => go_enter Try.func66, Try.ntmps66; go_wp2_with fail; go_ret; exact ⟨by kernel_rfl, rfl⟩
  | 1, _ => go_enter Try.func66, Try.ntmps66; go_wp2_with fail; go_ret; exact ⟨by kernel_rfl, rfl⟩
  | 2, _ => go_enter Try.func66, Try.ntmps66; go_wp2_with fail; go_ret; exact ⟨by kernel_rfl, rfl⟩
  | 3, _ => go_enter Try.func66, Try.ntmps66; go_wp2_with fail; go_ret; exact ⟨by kernel_rfl, rfl⟩
  | 4, _ => go_enter Try.func66, Try.ntmps66; go_wp2_with fail; go_ret; exact ⟨by kernel_rfl, rfl⟩
  | 5, _ => go_enter Try.func66, Try.ntmps66; go_wp2_with fail; go_ret; exact ⟨by kernel_rfl, rfl⟩
  | 6, _ => go_enter Try.func66, Try.ntmps66; go_wp2_with fail; go_ret; exact ⟨by kernel_rfl, rfl⟩
  | 7, _ => go_enter Try.func66, Try.ntmps66; go_wp2_with fail; go_ret; exact ⟨by kernel_rfl, rfl⟩
  | 8, _ => go_enter Try.func66, Try.ntmps66; go_wp2_with fail; go_ret; exact ⟨by kernel_rfl, rfl⟩
  | 9, _ => go_enter Try.func66, Try.ntmps66; go_wp2_with fail; go_ret; exact ⟨by kernel_rfl, rfl⟩
  | 10, _ => go_enter Try.func66, Try.ntmps66; go_wp2_with fail; go_ret; exact ⟨by kernel_rfl, rfl⟩
  | 11, _ => go_enter Try.func66, Try.ntmps66; go_wp2_with fail; go_ret; exact ⟨by kernel_rfl, rfl⟩
  | 12, _ => go_enter Try.func66, Try.ntmps66; go_wp2_with fail; go_ret; exact ⟨by kernel_rfl, rfl⟩
  | 13, _ => go_enter Try.func66, Try.ntmps66; go_wp2_with fail; go_ret; exact ⟨by kernel_rfl, rfl⟩
  | 14, _ => go_enter Try.func66, Try.ntmps66; go_wp2_with fail; go_ret; exact ⟨by kernel_rfl, rfl⟩
  | 15, _ => go_enter Try.func66, Try.ntmps66; go_wp2_with fail; go_ret; exact ⟨by kernel_rfl, rfl⟩
  | 16, _ => go_enter Try.func66, Try.ntmps66; go_wp2_with fail; go_ret; exact ⟨by kernel_rfl, rfl⟩
  | 17, _ => go_enter Try.func66, Try.ntmps66; go_wp2_with fail; go_ret; exact ⟨by kernel_rfl, rfl⟩
  | 18, _ => go_enter Try.func66, Try.ntmps66; go_wp2_with fail; go_ret; exact ⟨by kernel_rfl, rfl⟩
  | 19, _ => go_enter Try.func66, Try.ntmps66; go_wp2_with fail; go_ret; exact ⟨by kernel_rfl, rfl⟩
  | 20, _ => go_enter Try.func66, Try.ntmps66; go_wp2_with fail; go_ret; exact ⟨by kernel_rfl, rfl⟩
  | 21, _ => go_enter Try.func66, Try.ntmps66; go_wp2_with fail; go_ret; exact ⟨by kernel_rfl, rfl⟩
  | 22, _ => go_enter Try.func66, Try.ntmps66; go_wp2_with fail; go_ret; exact ⟨by kernel_rfl, rfl⟩
  | 23, _ => go_enter Try.func66, Try.ntmps66; go_wp2_with fail; go_ret; exact ⟨by kernel_rfl, rfl⟩
  | 24, _ => go_enter Try.func66, Try.ntmps66; go_wp2_with fail; go_ret; exact ⟨by kernel_rfl, rfl⟩
  | 25, _ => go_enter Try.func66, Try.ntmps66; go_wp2_with fail; go_ret; exact ⟨by kernel_rfl, rfl⟩
  | 26, _ => go_enter Try.func66, Try.ntmps66; go_wp2_with fail; go_ret; exact ⟨by kernel_rfl, rfl⟩
  | 27, _ => go_enter Try.func66, Try.ntmps66; go_wp2_with fail; go_ret; exact ⟨by kernel_rfl, rfl⟩
  | 28, _ => go_enter Try.func66, Try.ntmps66; go_wp2_with fail; go_ret; exact ⟨by kernel_rfl, rfl⟩
  | 29, _ => go_enter Try.func66, Try.ntmps66; go_wp2_with fail; go_ret; exact ⟨by kernel_rfl, rfl⟩
  | 30, _ => go_enter Try.func66, Try.ntmps66; go_wp2_with fail; go_ret; exact ⟨by kernel_rfl, rfl⟩
  | 31, _ => go_enter Try.func66, Try.ntmps66; go_wp2_with fail; go_ret; exact ⟨by kernel_rfl, rfl⟩
  | k + 32, h => exact absurd h (by omega)
set_option maxHeartbeats 4000000 in
set_option maxRecDepth 100000 in
theorem len64_32 (n : Nat) (h1 : 32 ≤ n) (hn : n < 64) (w : World) : Calls Try.prog 66 #[.int .u64 (n : Int)] w fun e w' => e = .returned (.int .i64 (bq n : Int)) ∧ w' = w := by
  obtain ⟨k, rfl⟩ : ∃ k, n = 32 + k := ⟨n - 32, by omega⟩
  match k, (show k < 32 by omega) with
  | 0, _ => go_enter Try.func66, Try.ntmps66; go_wp2_with fail; go_ret; exact ⟨by kernel_rfl, rfl⟩
  | 1, _ => go_enter Try.func66, Try.ntmps66; go_wp2_with fail; go_ret; exact ⟨by kernel_rfl, rfl⟩
  | 2, _ => go_enter Try.func66, Try.ntmps66; go_wp2_with fail; go_ret; exact ⟨by kernel_rfl, rfl⟩
  | 3, _ => go_enter Try.func66, Try.ntmps66; go_wp2_with fail; go_ret; exact ⟨by kernel_rfl, rfl⟩
  | 4, _ => go_enter Try.func66, Try.ntmps66; go_wp2_with fail; go_ret; exact ⟨by kernel_rfl, rfl⟩
  | 5, _ => go_enter Try.func66, Try.ntmps66; go_wp2_with fail; go_ret; exact ⟨by kernel_rfl, rfl⟩
  | 6, _ => go_enter Try.func66, Try.ntmps66; go_wp2_with fail; go_ret; exact ⟨by kernel_rfl, rfl⟩
  | 7, _ => go_enter Try.func66, Try.ntmps66; go_wp2_with fail; go_ret; exact ⟨by kernel_rfl, rfl⟩
  | 8, _ => go_enter Try.func66, Try.ntmps66; go_wp2_with fail; go_ret; exact ⟨by kernel_rfl, rfl⟩
  | 9, _ => go_enter Try.func66, Try.ntmps66; go_wp2_with fail; go_ret; exact ⟨by kernel_rfl, rfl⟩
  | 10, _ => go_enter Try.func66, Try.ntmps66; go_wp2_with fail; go_ret; exact ⟨by kernel_rfl, rfl⟩
  | 11, _ => go_enter Try.func66, Try.ntmps66; go_wp2_with fail; go_ret; exact ⟨by kernel_rfl, rfl⟩
  | 12, _ => go_enter Try.func66, Try.ntmps66; go_wp2_with fail; go_ret; exact ⟨by kernel_rfl, rfl⟩
  | 13, _ => go_enter Try.func66, Try.ntmps66; go_wp2_with fail; go_ret; exact ⟨by kernel_rfl, rfl⟩
  | 14, _ => go_enter Try.func66, Try.ntmps66; go_wp2_with fail; go_ret; exact ⟨by kernel_rfl, rfl⟩
  | 15, _ => go_enter Try.func66, Try.ntmps66; go_wp2_with fail; go_ret; exact ⟨by kernel_rfl, rfl⟩
  | 16, _ => go_enter Try.func66, Try.ntmps66; go_wp2_with fail; go_ret; exact ⟨by kernel_rfl, rfl⟩
  | 17, _ => go_enter Try.func66, Try.ntmps66; go_wp2_with fail; go_ret; exact ⟨by kernel_rfl, rfl⟩
  | 18, _ => go_enter Try.func66, Try.ntmps66; go_wp2_with fail; go_ret; exact ⟨by kernel_rfl, rfl⟩
  | 19, _ => go_enter Try.func66, Try.ntmps66; go_wp2_with fail; go_ret; exact ⟨by kernel_rfl, rfl⟩
  | 20, _ => go_enter Try.func66, Try.ntmps66; go_wp2_with fail; go_ret; exact ⟨by kernel_rfl, rfl⟩
  | 21, _ => go_enter Try.func66, Try.ntmps66; go_wp2_with fail; go_ret; exact ⟨by kernel_rfl, rfl⟩
  | 22, _ => go_enter Try.func66, Try.ntmps66; go_wp2_with fail; go_ret; exact ⟨by kernel_rfl, rfl⟩
  | 23, _ => go_enter Try.func66, Try.ntmps66; go_wp2_with fail; go_ret; exact ⟨by kernel_rfl, rfl⟩
  | 24, _ => go_enter Try.func66, Try.ntmps66; go_wp2_with fail; go_ret; exact ⟨by kernel_rfl, rfl⟩
  | 25, _ => go_enter Try.func66, Try.ntmps66; go_wp2_with fail; go_ret; exact ⟨by kernel_rfl, rfl⟩
  | 26, _ => go_enter Try.func66, Try.ntmps66; go_wp2_with fail; go_ret; exact ⟨by kernel_rfl, rfl⟩
  | 27, _ => go_enter Try.func66, Try.ntmps66; go_wp2_with fail; go_ret; exact ⟨by kernel_rfl, rfl⟩
  | 28, _ => go_enter Try.func66, Try.ntmps66; go_wp2_with fail; go_ret; exact ⟨by kernel_rfl, rfl⟩
  | 29, _ => go_enter Try.func66, Try.ntmps66; go_wp2_with fail; go_ret; exact ⟨by kernel_rfl, rfl⟩
  | 30, _ => go_enter Try.func66, Try.ntmps66; go_wp2_with fail; go_ret; exact ⟨by kernel_rfl, rfl⟩
  | 31, _ => go_enter Try.func66, Try.ntmps66; go_wp2_with fail; go_ret; exact ⟨by kernel_rfl, rfl⟩
  | k + 32, h => exact absurd h (by omega)
set_option maxHeartbeats 4000000 in
set_option maxRecDepth 100000 in
theorem len64_64 (n : Nat) (h1 : 64 ≤ n) (hn : n < 96) (w : World) : Calls Try.prog 66 #[.int .u64 (n : Int)] w fun e w' => e = .returned (.int .i64 (bq n : Int)) ∧ w' = w := by
  obtain ⟨k, rfl⟩ : ∃ k, n = 64 + k := ⟨n - 64, by omega⟩
  match k, (show k < 32 by omega) with
  | 0, _ => go_enter Try.func66, Try.ntmps66; go_wp2_with fail; go_ret; exact ⟨by kernel_rfl, rfl⟩
  | 1, _ => go_enter Try.func66, Try.ntmps66; go_wp2_with fail; go_ret; exact ⟨by kernel_rfl, rfl⟩
  | 2, _ => go_enter Try.func66, Try.ntmps66; go_wp2_with fail; go_ret; exact ⟨by kernel_rfl, rfl⟩
  | 3, _ => go_enter Try.func66, Try.ntmps66; go_wp2_with fail; go_ret; exact ⟨by kernel_rfl, rfl⟩
  | 4, _ => go_enter Try.func66, Try.ntmps66; go_wp2_with fail; go_ret; exact ⟨by kernel_rfl, rfl⟩
  | 5, _ => go_enter Try.func66, Try.ntmps66; go_wp2_with fail; go_ret; exact ⟨by kernel_rfl, rfl⟩
  | 6, _ => go_enter Try.func66, Try.ntmps66; go_wp2_with fail; go_ret; exact ⟨by kernel_rfl, rfl⟩
  | 7, _ => go_enter Try.func66, Try.ntmps66; go_wp2_with fail; go_ret; exact ⟨by kernel_rfl, rfl⟩
  | 8, _ => go_enter Try.func66, Try.ntmps66; go_wp2_with fail; go_ret; exact ⟨by kernel_rfl, rfl⟩
  | 9, _ => go_enter Try.func66, Try.ntmps66; go_wp2_with fail; go_ret; exact ⟨by kernel_rfl, rfl⟩
  | 10, _ => go_enter Try.func66, Try.ntmps66; go_wp2_with fail; go_ret; exact ⟨by kernel_rfl, rfl⟩
  | 11, _ => go_enter Try.func66, Try.ntmps66; go_wp2_with fail; go_ret; exact ⟨by kernel_rfl, rfl⟩
  | 12, _ => go_enter Try.func66, Try.ntmps66; go_wp2_with fail; go_ret; exact ⟨by kernel_rfl, rfl⟩
  | 13, _ => go_enter Try.func66, Try.ntmps66; go_wp2_with fail; go_ret; exact ⟨by kernel_rfl, rfl⟩
  | 14, _ => go_enter Try.func66, Try.ntmps66; go_wp2_with fail; go_ret; exact ⟨by kernel_rfl, rfl⟩
  | 15, _ => go_enter Try.func66, Try.ntmps66; go_wp2_with fail; go_ret; exact ⟨by kernel_rfl, rfl⟩
  | 16, _ => go_enter Try.func66, Try.ntmps66; go_wp2_with fail; go_ret; exact ⟨by kernel_rfl, rfl⟩
  | 17, _ => go_enter Try.func66, Try.ntmps66; go_wp2_with fail; go_ret; exact ⟨by kernel_rfl, rfl⟩
  | 18, _ => go_enter Try.func66, Try.ntmps66; go_wp2_with fail; go_ret; exact ⟨by kernel_rfl, rfl⟩
  | 19, _ => go_enter Try.func66, Try.ntmps66; go_wp2_with fail; go_ret; exact ⟨by kernel_rfl, rfl⟩
  | 20, _ => go_enter Try.func66, Try.ntmps66; go_wp2_with fail; go_ret; exact ⟨by kernel_rfl, rfl⟩
  | 21, _ => go_enter Try.func66, Try.ntmps66; go_wp2_with fail; go_ret; exact ⟨by kernel_rfl, rfl⟩
  | 22, _ => go_enter Try.func66, Try.ntmps66; go_wp2_with fail; go_ret; exact ⟨by kernel_rfl, rfl⟩
  | 23, _ => go_enter Try.func66, Try.ntmps66; go_wp2_with fail; go_ret; exact ⟨by kernel_rfl, rfl⟩
  | 24, _ => go_enter Try.func66, Try.ntmps66; go_wp2_with fail; go_ret; exact ⟨by kernel_rfl, rfl⟩
  | 25, _ => go_enter Try.func66, Try.ntmps66; go_wp2_with fail; go_ret; exact ⟨by kernel_rfl, rfl⟩
  | 26, _ => go_enter Try.func66, Try.ntmps66; go_wp2_with fail; go_ret; exact ⟨by kernel_rfl, rfl⟩
  | 27, _ => go_enter Try.func66, Try.ntmps66; go_wp2_with fail; go_ret; exact ⟨by kernel_rfl, rfl⟩
  | 28, _ => go_enter Try.func66, Try.ntmps66; go_wp2_with fail; go_ret; exact ⟨by kernel_rfl, rfl⟩
  | 29, _ => go_enter Try.func66, Try.ntmps66; go_wp2_with fail; go_ret; exact ⟨by kernel_rfl, rfl⟩
  | 30, _ => go_enter Try.func66, Try.ntmps66; go_wp2_with fail; go_ret; exact ⟨by kernel_rfl, rfl⟩
  | 31, _ => go_enter Try.func66, Try.ntmps66; go_wp2_with fail; go_ret; exact ⟨by kernel_rfl, rfl⟩
  | k + 32, h => exact absurd h (by omega)
set_option maxHeartbeats 4000000 in
set_option maxRecDepth 100000 in
theorem len64_96 (n : Nat) (h1 : 96 ≤ n) (hn : n < 128) (w : World) : Calls Try.prog 66 #[.int .u64 (n : Int)] w fun e w' => e = .returned (.int .i64 (bq n : Int)) ∧ w' = w := by
  obtain ⟨k, rfl⟩ : ∃ k, n = 96 + k := ⟨n - 96, by omega⟩
  match k, (show k < 32 by omega) with
  | 0, _ => go_enter Try.func66, Try.ntmps66; go_wp2_with fail; go_ret; exact ⟨by kernel_rfl, rfl⟩
  | 1, _ => go_enter Try.func66, Try.ntmps66; go_wp2_with fail; go_ret; exact ⟨by kernel_rfl, rfl⟩
  | 2, _ => go_enter Try.func66, Try.ntmps66; go_wp2_with fail; go_ret; exact ⟨by kernel_rfl, rfl⟩
  | 3, _ => go_enter Try.func66, Try.ntmps66; go_wp2_with fail; go_ret; exact ⟨by kernel_rfl, rfl⟩
  | 4, _ => go_enter Try.func66, Try.ntmps66; go_wp2_with fail; go_ret; exact ⟨by kernel_rfl, rfl⟩
  | 5, _ => go_enter Try.func66, Try.ntmps66; go_wp2_with fail; go_ret; exact ⟨by kernel_rfl, rfl⟩
  | 6, _ => go_enter Try.func66, Try.ntmps66; go_wp2_with fail; go_ret; exact ⟨by kernel_rfl, rfl⟩
  | 7, _ => go_enter Try.func66, Try.ntmps66; go_wp2_with fail; go_ret; exact ⟨by kernel_rfl, rfl⟩
  | 8, _ => go_enter Try.func66, Try.ntmps66; go_wp2_with fail; go_ret; exact ⟨by kernel_rfl, rfl⟩
  | 9, _ => go_enter Try.func66, Try.ntmps66; go_wp2_with fail; go_ret; exact ⟨by kernel_rfl, rfl⟩
  | 10, _ => go_enter Try.func66, Try.ntmps66; go_wp2_with fail; go_ret; exact ⟨by kernel_rfl, rfl⟩
  | 11, _ => go_enter Try.func66, Try.ntmps66; go_wp2_with fail; go_ret; exact ⟨by kernel_rfl, rfl⟩
  | 12, _ => go_enter Try.func66, Try.ntmps66; go_wp2_with fail; go_ret; exact ⟨by kernel_rfl, rfl⟩
  | 13, _ => go_enter Try.func66, Try.ntmps66; go_wp2_with fail; go_ret; exact ⟨by kernel_rfl, rfl⟩
  | 14, _ => go_enter Try.func66, Try.ntmps66; go_wp2_with fail; go_ret; exact ⟨by kernel_rfl, rfl⟩
  | 15, _ => go_enter Try.func66, Try.ntmps66; go_wp2_with fail; go_ret; exact ⟨by kernel_rfl, rfl⟩
  | 16, _ => go_enter Try.func66, Try.ntmps66; go_wp2_with fail; go_ret; exact ⟨by kernel_rfl, rfl⟩
  | 17, _ => go_enter Try.func66, Try.ntmps66; go_wp2_with fail; go_ret; exact ⟨by kernel_rfl, rfl⟩
  | 18, _ => go_enter Try.func66, Try.ntmps66; go_wp2_with fail; go_ret; exact ⟨by kernel_rfl, rfl⟩
  | 19, _ => go_enter Try.func66, Try.ntmps66; go_wp2_with fail; go_ret; exact ⟨by kernel_rfl, rfl⟩
  | 20, _ => go_enter Try.func66, Try.ntmps66; go_wp2_with fail; go_ret; exact ⟨by kernel_rfl, rfl⟩
  | 21, _ => go_enter Try.func66, Try.ntmps66; go_wp2_with fail; go_ret; exact ⟨by kernel_rfl, rfl⟩
  | 22, _ => go_enter Try.func66, Try.ntmps66; go_wp2_with fail; go_ret; exact ⟨by kernel_rfl, rfl⟩
  | 23, _ => go_enter Try.func66, Try.ntmps66; go_wp2_with fail; go_ret; exact ⟨by kernel_rfl, rfl⟩
  | 24, _ => go_enter Try.func66, Try.ntmps66; go_wp2_with fail; go_ret; exact ⟨by kernel_rfl, rfl⟩
  | 25, _ => go_enter Try.func66, Try.ntmps66; go_wp2_with fail; go_ret; exact ⟨by kernel_rfl, rfl⟩
  | 26, _ => go_enter Try.func66, Try.ntmps66; go_wp2_with fail; go_ret; exact ⟨by kernel_rfl, rfl⟩
  | 27, _ => go_enter Try.func66, Try.ntmps66; go_wp2_with fail; go_ret; exact ⟨by kernel_rfl, rfl⟩
  | 28, _ => go_enter Try.func66, Try.ntmps66; go_wp2_with fail; go_ret; exact ⟨by kernel_rfl, rfl⟩
  | 29, _ => go_enter Try.func66, Try.ntmps66; go_wp2_with fail; go_ret; exact ⟨by kernel_rfl, rfl⟩
  | 30, _ => go_enter Try.func66, Try.ntmps66; go_wp2_with fail; go_ret; exact ⟨by kernel_rfl, rfl⟩
  | 31, _ => go_enter Try.func66, Try.ntmps66; go_wp2_with fail; go_ret; exact ⟨by kernel_rfl, rfl⟩
  | k + 32, h => exact absurd h (by omega)
theorem len64q_any (n : Nat) (hn : n ≤ 127) (w : World) : Calls Try.prog 66 #[.int .u64 (n : Int)] w fun e w' => e = .returned (.int .i64 (bq n : Int)) ∧ w' = w := by
  by_cases h1 : n < 32
  · exact len64_0 n (Nat.zero_le _) h1 w
  by_cases h2 : n < 64
  · exact len64_32 n (by omega) h2 w
  by_cases h3 : n < 96
  · exact len64_64 n (by omega) h3 w
  · exact len64_96 n (by omega) (by omega) w
theorem lenq_any (n : Nat) (hn : n ≤ 127) (w : World) : Calls Try.prog 53 #[.int .u64 (n : Int)] w fun e w' => e = .returned (.int .i64 (bq n : Int)) ∧ w' = w := by
  have C := Lib.hid (len64q_any n hn w)
  obtain ⟨l, el⟩ : ∃ l, bq n = l := ⟨_, rfl⟩
  rw [el] at C ⊢
  clear el hn
  go_enter Try.func53, Try.ntmps53
  go_wp2_with fail
  refine C.out.mono ?_; rintro e w1 ⟨rfl, rfl⟩
  go_wp2_with fail
  go_ret
  exact ⟨rfl, rfl⟩
def PW (n M : Nat) : Prop := (8 ≤ n ∧ n ≤ 15 ∧ M = 16) ∨ (16 ≤ n ∧ n ≤ 31 ∧ M = 32) ∨ (32 ≤ n ∧ n ≤ 63 ∧ M = 64) ∨ (64 ≤ n ∧ n ≤ 127 ∧ M = 128)
theorem powq_any (n M : Nat) (h : PW n M) (w : World) : Calls Try.prog 68 #[.int .i64 (n : Int)] w fun e w' => e = .returned (.int .u64 (M : Int)) ∧ w' = w := by
  have hn : n ≤ 127 := by unfold PW at h; omega
  have C := Lib.hid (lenq_any n hn w)
  have e1 : IntKind.u64.wrap (n : Int) = (n : Int) := by rw [IntKind.wrap_u64]; omega
  rcases h with ⟨h1, h2, rfl⟩ | ⟨h1, h2, rfl⟩ | ⟨h1, h2, rfl⟩ | ⟨h1, h2, rfl⟩
  · rw [show bq n = 4 by unfold bq; repeat (first | rw [if_neg (by omega)] | rw [if_pos (by omega)])] at C
    clear h1 h2 hn
    go_enter Try.func68, Try.ntmps68
    go_wp2_with fail
    refine C.out.mono ?_; rintro e w1 ⟨rfl, rfl⟩
    go_wp2_with fail
    go_ret
    exact ⟨by kernel_rfl, rfl⟩
  · rw [show bq n = 5 by unfold bq; repeat (first | rw [if_neg (by omega)] | rw [if_pos (by omega)])] at C
    clear h1 h2 hn
    go_enter Try.func68, Try.ntmps68
    go_wp2_with fail
    refine C.out.mono ?_; rintro e w1 ⟨rfl, rfl⟩
    go_wp2_with fail
    go_ret
    exact ⟨by kernel_rfl, rfl⟩
  · rw [show bq n = 6 by unfold bq; repeat (first | rw [if_neg (by omega)] | rw [if_pos (by omega)])] at C
    clear h1 h2 hn
    go_enter Try.func68, Try.ntmps68
    go_wp2_with fail
    refine C.out.mono ?_; rintro e w1 ⟨rfl, rfl⟩
    go_wp2_with fail
    go_ret
    exact ⟨by kernel_rfl, rfl⟩
  · rw [show bq n = 7 by unfold bq; repeat (first | rw [if_neg (by omega)] | rw [if_pos (by omega)])] at C
    clear h1 h2 hn
    go_enter Try.func68, Try.ntmps68
    go_wp2_with fail
    refine C.out.mono ?_; rintro e w1 ⟨rfl, rfl⟩
    go_wp2_with fail
    go_ret
    exact ⟨by kernel_rfl, rfl⟩
def Mq (M M1 : Nat) : Prop := ∃ k, k ≤ 7 ∧ M = 2 ^ k ∧ M1 = 2 ^ k - 1
theorem maskq_any {M M1 : Nat} (h : Mq M M1) (x : Int) : ∃ m : Nat, bits .and .u64 x (M1 : Int) = (m : Int) ∧ m < M := by
  obtain ⟨k, hk, rfl, rfl⟩ := h
  have hp : 0 < 2 ^ k := Nat.pow_pos (by omega)
  refine ⟨(x % ((2 ^ k : Nat) : Int)).toNat, ?_, ?_⟩
  · rw [u64_mask k (by omega) x, Int.toNat_of_nonneg (Int.emod_nonneg _ (by omega))]
  · have := Int.emod_lt_of_pos x (b := ((2 ^ k : Nat) : Int)) (by omega)
    have := Int.emod_nonneg x (b := ((2 ^ k : Nat) : Int)) (by omega)
    omega
theorem pw_of {l : Nat} (h8 : 8 ≤ l) (h : l ≤ 127) : ∃ M M1, Mq M M1 ∧ M ≤ 2 * l ∧ PW l M ∧ M ≤ 128 ∧ M1 + 1 = M := by
  by_cases h1 : l ≤ 15
  · exact ⟨16, 15, ⟨4, by omega, rfl, rfl⟩, by omega, .inl ⟨h8, h1, rfl⟩, by omega, rfl⟩
  by_cases h2 : l ≤ 31
  · exact ⟨32, 31, ⟨5, by omega, rfl, rfl⟩, by omega, .inr (.inl ⟨by omega, h2, rfl⟩), by omega, rfl⟩
  by_cases h3 : l ≤ 63
  · exact ⟨64, 63, ⟨6, by omega, rfl, rfl⟩, by omega, .inr (.inr (.inl ⟨by omega, h3, rfl⟩)), by omega, rfl⟩
  · exact ⟨128, 127, ⟨7, by omega, rfl, rfl⟩, by omega, .inr (.inr (.inr ⟨by omega, h, rfl⟩)), by omega, rfl⟩
end Go.Proofs.Ytodionedjokdmaa
