/- bits.Len, nextPowerOfTwo, xorshift's Next, breakPatterns. -/
import Derived.Test.YtodionedjokdmaaJe
import Derived.Test.YtodionedjokdmaaJf
set_option linter.unusedVariables false
set_option linter.unusedSimpArgs false
namespace Go.Proofs.Ytodionedjokdmaa
open Go.RowKit
set_option linter.unusedVariables false
set_option linter.unusedSimpArgs false
/-- How many bits a small number has. -/
def bl (n : Nat) : Nat := if n = 0 then 0 else if n < 2 then 1 else if n < 4 then 2 else if n < 8 then 3 else if n < 16 then 4 else 5
set_option maxRecDepth 100000 in
theorem len64_any (n : Nat) (hn : n ≤ 16) (w : World) : Calls Try.prog 66 #[.int .u64 (n : Int)] w fun e w' => e = .returned (.int .i64 (bl n : Int)) ∧ w' = w := by
  match n, hn with
  | 0, _ =>
    go_enter Try.func66, Try.ntmps66
    go_wp2_with fail
    go_ret
    exact ⟨by kernel_rfl, rfl⟩
  | 1, _ =>
    go_enter Try.func66, Try.ntmps66
    go_wp2_with fail
    go_ret
    exact ⟨by kernel_rfl, rfl⟩
  | 2, _ =>
    go_enter Try.func66, Try.ntmps66
    go_wp2_with fail
    go_ret
    exact ⟨by kernel_rfl, rfl⟩
  | 3, _ =>
    go_enter Try.func66, Try.ntmps66
    go_wp2_with fail
    go_ret
    exact ⟨by kernel_rfl, rfl⟩
  | 4, _ =>
    go_enter Try.func66, Try.ntmps66
    go_wp2_with fail
    go_ret
    exact ⟨by kernel_rfl, rfl⟩
  | 5, _ =>
    go_enter Try.func66, Try.ntmps66
    go_wp2_with fail
    go_ret
    exact ⟨by kernel_rfl, rfl⟩
  | 6, _ =>
    go_enter Try.func66, Try.ntmps66
    go_wp2_with fail
    go_ret
    exact ⟨by kernel_rfl, rfl⟩
  | 7, _ =>
    go_enter Try.func66, Try.ntmps66
    go_wp2_with fail
    go_ret
    exact ⟨by kernel_rfl, rfl⟩
  | 8, _ =>
    go_enter Try.func66, Try.ntmps66
    go_wp2_with fail
    go_ret
    exact ⟨by kernel_rfl, rfl⟩
  | 9, _ =>
    go_enter Try.func66, Try.ntmps66
    go_wp2_with fail
    go_ret
    exact ⟨by kernel_rfl, rfl⟩
  | 10, _ =>
    go_enter Try.func66, Try.ntmps66
    go_wp2_with fail
    go_ret
    exact ⟨by kernel_rfl, rfl⟩
  | 11, _ =>
    go_enter Try.func66, Try.ntmps66
    go_wp2_with fail
    go_ret
    exact ⟨by kernel_rfl, rfl⟩
  | 12, _ =>
    go_enter Try.func66, Try.ntmps66
    go_wp2_with fail
    go_ret
    exact ⟨by kernel_rfl, rfl⟩
  | 13, _ =>
    go_enter Try.func66, Try.ntmps66
    go_wp2_with fail
    go_ret
    exact ⟨by kernel_rfl, rfl⟩
  | 14, _ =>
    go_enter Try.func66, Try.ntmps66
    go_wp2_with fail
    go_ret
    exact ⟨by kernel_rfl, rfl⟩
  | 15, _ =>
    go_enter Try.func66, Try.ntmps66
    go_wp2_with fail
    go_ret
    exact ⟨by kernel_rfl, rfl⟩
  | 16, _ =>
    go_enter Try.func66, Try.ntmps66
    go_wp2_with fail
    go_ret
    exact ⟨by kernel_rfl, rfl⟩
  | k + 17, h => exact absurd h (by omega)
theorem blen_any (n : Nat) (hn : n ≤ 16) (w : World) : Calls Try.prog 53 #[.int .u64 (n : Int)] w fun e w' => e = .returned (.int .i64 (bl n : Int)) ∧ w' = w := by
  have C := Lib.hid (len64_any n hn w)
  obtain ⟨l, el⟩ : ∃ l, bl n = l := ⟨_, rfl⟩
  rw [el] at C ⊢
  clear el hn
  go_enter Try.func53, Try.ntmps53
  go_wp2_with fail
  refine C.out.mono ?_; rintro e w1 ⟨rfl, rfl⟩
  go_wp2_with fail
  go_ret
  exact ⟨rfl, rfl⟩
/-- 16 for 8 to 15, 32 for 16. -/
theorem pow_any (n M : Nat) (h : (8 ≤ n ∧ n ≤ 15 ∧ M = 16) ∨ (n = 16 ∧ M = 32)) (w : World) : Calls Try.prog 68 #[.int .i64 (n : Int)] w fun e w' => e = .returned (.int .u64 (M : Int)) ∧ w' = w := by
  have C := Lib.hid (blen_any n (by omega) w)
  have e1 : IntKind.u64.wrap (n : Int) = (n : Int) := by rw [IntKind.wrap_u64]; omega
  rcases h with ⟨h1, h2, rfl⟩ | ⟨rfl, rfl⟩
  · rw [show bl n = 4 by unfold bl; rw [if_neg (by omega), if_neg (by omega), if_neg (by omega), if_neg (by omega), if_pos (by omega)]] at C
    clear h1 h2
    go_enter Try.func68, Try.ntmps68
    go_wp2_with fail
    refine C.out.mono ?_; rintro e w1 ⟨rfl, rfl⟩
    go_wp2_with fail
    go_ret
    exact ⟨by kernel_rfl, rfl⟩
  · rw [show bl 16 = 5 by rfl] at C
    go_enter Try.func68, Try.ntmps68
    go_wp2_with fail
    refine C.out.mono ?_; rintro e w1 ⟨rfl, rfl⟩
    go_wp2_with fail
    go_ret
    exact ⟨by kernel_rfl, rfl⟩
/-- A number of 64 bits in block P. -/
def XC (w : World) (P : Nat) (s : Int) : Prop := w.heap[P]? = some (Obj.cells #[.int .u64 s] 141)
theorem XC.cell {w : World} {P : Nat} {s : Int} (h : XC w P s) : w.cell? ⟨P, 0, none⟩ = some (.int .u64 s) := by rw [cell_of_row _ _ 0 _ _ _ h]; rfl
theorem XC.frozen {w : World} {P : Nat} {s : Int} (h : XC w P s) : w.frozen? ⟨P, 0, none⟩ = false := frozen_of_row _ _ _ _ _ h
theorem XC.set {w : World} {P : Nat} {s : Int} (h : XC w P s) (t : Int) : XC (w.setCell ⟨P, 0, none⟩ (.int .u64 t)) P t := heap_setCell_same _ _ 0 _ 141 _ h
theorem XC.lt {w : World} {P : Nat} {s : Int} (h : XC w P s) : P < w.heap.size := (Array.getElem?_eq_some_iff.1 h).1
theorem next_any {w : World} {P : Nat} {r : Int} (h : XC w P r) : Calls Try.prog 69 #[.pointer (some ⟨P, 0, none⟩)] w fun e w' => ∃ x : Int, e = .returned (.int .u64 x) ∧ Turn [P] w w' ∧ XC w' P x := by
  have H := Lib.hid h
  have c0 := h.cell
  have f0 := h.frozen
  clear h
  go_enter Try.func69, Try.ntmps69
  go_upto_region 1 with fail
  go_region
  obtain ⟨x1, ex1⟩ : ∃ x1, bits .xor .u64 r (IntKind.u64.wrap (r * 8192)) = x1 := ⟨_, rfl⟩
  have H1 := Lib.hid (show Turn [P] w (w.setCell ⟨P, 0, none⟩ (.int .u64 x1)).drew ∧ XC (w.setCell ⟨P, 0, none⟩ (.int .u64 x1)).drew P x1 from ⟨(Turn.set w P 0 _).drew, H.out.set x1⟩)
  obtain ⟨W1, eW1⟩ : ∃ W1, (w.setCell ⟨P, 0, none⟩ (.int .u64 x1)).drew = W1 := ⟨_, rfl⟩
  rw [eW1] at H1
  rw [ex1, eW1]
  clear c0 f0 ex1 eW1 H
  have c0 := H1.out.2.cell
  have f0 := H1.out.2.frozen
  go_upto_region 2 with fail
  go_region
  obtain ⟨x2, ex2⟩ : ∃ x2, bits .xor .u64 x1 (x1 / 128) = x2 := ⟨_, rfl⟩
  have H2 := Lib.hid (show Turn [P] w (W1.setCell ⟨P, 0, none⟩ (.int .u64 x2)).drew ∧ XC (W1.setCell ⟨P, 0, none⟩ (.int .u64 x2)).drew P x2 from ⟨H1.out.1.next (Turn.set W1 P 0 _).drew, H1.out.2.set x2⟩)
  obtain ⟨W2, eW2⟩ : ∃ W2, (W1.setCell ⟨P, 0, none⟩ (.int .u64 x2)).drew = W2 := ⟨_, rfl⟩
  rw [eW2] at H2
  rw [ex2, eW2]
  clear c0 f0 ex2 eW2 H1
  have c0 := H2.out.2.cell
  have f0 := H2.out.2.frozen
  go_upto_region 3 with fail
  go_region
  obtain ⟨x3, ex3⟩ : ∃ x3, bits .xor .u64 x2 (IntKind.u64.wrap (x2 * 131072)) = x3 := ⟨_, rfl⟩
  have H3 := Lib.hid (show Turn [P] w (W2.setCell ⟨P, 0, none⟩ (.int .u64 x3)).drew ∧ XC (W2.setCell ⟨P, 0, none⟩ (.int .u64 x3)).drew P x3 from ⟨H2.out.1.next (Turn.set W2 P 0 _).drew, H2.out.2.set x3⟩)
  obtain ⟨W3, eW3⟩ : ∃ W3, (W2.setCell ⟨P, 0, none⟩ (.int .u64 x3)).drew = W3 := ⟨_, rfl⟩
  rw [eW3] at H3
  rw [ex3, eW3]
  clear c0 f0 ex3 eW3 H2
  have c0 := H3.out.2.cell
  go_wp2_with fail
  go_ret
  exact ⟨x3, rfl, H3.out.1, H3.out.2⟩
theorem u64_mask (k : Nat) (hk : k ≤ 62) (n : Int) : bits .and .u64 n ((2 ^ k - 1 : Nat) : Int) = n % ((2 ^ k : Nat) : Int) := by
  have hp : 2 ^ k ≤ 2 ^ 62 := Nat.pow_le_pow_right (by omega) hk
  have h127 : (BitVec.ofInt 64 ((2 ^ k - 1 : Nat) : Int)).toNat = 2 ^ k - 1 := by
    rw [BitVec.toNat_ofInt]; omega
  have key : (BitVec.ofInt 64 n &&& BitVec.ofInt 64 ((2 ^ k - 1 : Nat) : Int)).toNat = (n % ((2 ^ 64 : Nat) : Int)).toNat % 2 ^ k := by
    rw [BitVec.toNat_and, BitVec.toNat_ofInt, h127, Nat.and_two_pow_sub_one_eq_mod]
  show IntKind.u64.wrap ((BitVec.ofInt 64 n &&& BitVec.ofInt 64 ((2 ^ k - 1 : Nat) : Int)).toNat : Nat) = _
  have hd : (2 ^ k : Nat) ∣ 2 ^ 64 := Nat.pow_dvd_pow 2 (by omega)
  rw [key, IntKind.wrap_u64]
  have h3 : (n % ((2 ^ 64 : Nat) : Int)).toNat % 2 ^ k < 2 ^ k := Nat.mod_lt _ (Nat.pow_pos (by omega))
  have h4 : (((n % ((2 ^ 64 : Nat) : Int)).toNat % 2 ^ k : Nat) : Int) = n % ((2 ^ k : Nat) : Int) := by
    rw [Int.natCast_emod, Int.toNat_of_nonneg (Int.emod_nonneg _ (by omega)), Int.emod_emod_of_dvd _ (Int.natCast_dvd_natCast.2 hd)]
  omega
theorem mask15 (n : Int) : ∃ m : Nat, bits .and .u64 n 15 = (m : Int) ∧ m < 16 := ⟨(n % 16).toNat, by have := u64_mask 4 (by omega) n; simp at this; rw [this]; omega, by omega⟩
theorem mask31 (n : Int) : ∃ m : Nat, bits .and .u64 n 31 = (m : Int) ∧ m < 32 := ⟨(n % 32).toNat, by have := u64_mask 5 (by omega) n; simp at this; rw [this]; omega, by omega⟩
end Go.Proofs.Ytodionedjokdmaa
