/- What a law reckons of its numbers. -/
import Derived.Test.YtkpdgjmeeeddhaaBi
set_option linter.unusedVariables false
set_option linter.unusedSimpArgs false
namespace Go.Proofs.Ytkpdgjmeeeddhaa
open Go.RowKit
set_option linter.unusedVariables false
set_option linter.unusedSimpArgs false
theorem place_of (a : Int) (l : Nat) (h0 : 0 < l) (h1 : l ≤ 1000) : ∃ (t u : Int) (i : Nat), a.tmod (l : Int) = t ∧ RowKit.wrap64 (t + l) = u ∧ u.tmod (l : Int) = (i : Int) ∧ i < l := by
  have h2 := Int.tmod_lt_of_pos a (show (0 : Int) < l by omega)
  have h3 := Int.lt_tmod_of_pos a (show (0 : Int) < l by omega)
  have e : RowKit.wrap64 (a.tmod l + l) = a.tmod l + l := by unfold RowKit.wrap64; omega
  refine ⟨_, _, (a.tmod l + l).toNat % l, rfl, rfl, ?_, Nat.mod_lt _ h0⟩
  rw [e, Int.tmod_eq_emod_of_nonneg (by omega), Int.natCast_emod, Int.toNat_of_nonneg (by omega)]
theorem place180 (a : Int) : ∃ (t u : Int) (i : Nat), a.tmod 180 = t ∧ RowKit.wrap64 (t + 180) = u ∧ u.tmod 180 = (i : Int) ∧ i < 180 := place_of a 180 (by omega) (by omega)
theorem place8 (a : Int) : ∃ (t u : Int) (i : Nat), a.tmod 8 = t ∧ RowKit.wrap64 (t + 8) = u ∧ u.tmod 8 = (i : Int) ∧ i < 8 := place_of a 8 (by omega) (by omega)
theorem place7 (a : Int) : ∃ (t u : Int) (i : Nat), a.tmod 7 = t ∧ RowKit.wrap64 (t + 7) = u ∧ u.tmod 7 = (i : Int) ∧ i < 7 := place_of a 7 (by omega) (by omega)
theorem succ8 {i : Nat} (h : i < 8) : ∃ k : Nat, RowKit.wrap64 ((i : Int) + 1) = (k : Int) ∧ 1 ≤ k ∧ k ≤ 8 := ⟨i + 1, by unfold RowKit.wrap64; omega, by omega, by omega⟩
theorem i64_low (k : Nat) (hk : k ≤ 62) (n : Int) : bits .and .i64 n ((2 ^ k - 1 : Nat) : Int) = n % ((2 ^ k : Nat) : Int) := by
  have hp : 2 ^ k ≤ 2 ^ 62 := Nat.pow_le_pow_right (by omega) hk
  have h127 : (BitVec.ofInt 64 ((2 ^ k - 1 : Nat) : Int)).toNat = 2 ^ k - 1 := by
    rw [BitVec.toNat_ofInt]; omega
  have key : (BitVec.ofInt 64 n &&& BitVec.ofInt 64 ((2 ^ k - 1 : Nat) : Int)).toNat = (n % ((2 ^ 64 : Nat) : Int)).toNat % 2 ^ k := by
    rw [BitVec.toNat_and, BitVec.toNat_ofInt, h127, Nat.and_two_pow_sub_one_eq_mod]
  show IntKind.i64.wrap ((BitVec.ofInt 64 n &&& BitVec.ofInt 64 ((2 ^ k - 1 : Nat) : Int)).toNat : Nat) = _
  have hd : (2 ^ k : Nat) ∣ 2 ^ 64 := Nat.pow_dvd_pow 2 (by omega)
  rw [key, IntKind.wrap_i64]
  have h3 : (n % ((2 ^ 64 : Nat) : Int)).toNat % 2 ^ k < 2 ^ k := Nat.mod_lt _ (Nat.pow_pos (by omega))
  have h4 : (((n % ((2 ^ 64 : Nat) : Int)).toNat % 2 ^ k : Nat) : Int) = n % ((2 ^ k : Nat) : Int) := by
    rw [Int.natCast_emod, Int.toNat_of_nonneg (Int.emod_nonneg _ (by omega)), Int.emod_emod_of_dvd _ (Int.natCast_dvd_natCast.2 hd)]
  omega
theorem u64_low {k x : Nat} (hk : k < 8) (hx : x < 18446744073709551616) : bits .and .u64 (x : Int) (IntKind.u64.wrap (IntKind.u64.wrap ((2 : Int) ^ (8 * k)) - 1)) = ((x % 256 ^ k : Nat) : Int) := by
  have hp1 : 1 ≤ 2 ^ (8 * k) := Nat.pow_pos (by omega)
  have hp : 2 ^ (8 * k) ≤ 2 ^ 56 := Nat.pow_le_pow_right (by omega) (by omega)
  have e0 : ((2 : Int) ^ (8 * k)) = ((2 ^ (8 * k) : Nat) : Int) := by simp
  have e256 : 256 ^ k = 2 ^ (8 * k) := by rw [Nat.pow_mul]
  rw [e0, e256]
  obtain ⟨p, ep⟩ : ∃ p, 2 ^ (8 * k) = p := ⟨_, rfl⟩
  have e1 : IntKind.u64.wrap (IntKind.u64.wrap ((p : Nat) : Int) - 1) = ((p - 1 : Nat) : Int) := by
    rw [ep] at hp hp1
    rw [IntKind.wrap_u64, IntKind.wrap_u64]; omega
  rw [ep, e1]
  rw [ep] at hp hp1
  have h127 : (BitVec.ofInt 64 ((p - 1 : Nat) : Int)).toNat = 2 ^ (8 * k) - 1 := by
    rw [BitVec.toNat_ofInt, ep]; omega
  have hx1 : (BitVec.ofInt 64 (x : Int)).toNat = x := by rw [BitVec.toNat_ofInt]; omega
  have key : (BitVec.ofInt 64 (x : Int) &&& BitVec.ofInt 64 ((p - 1 : Nat) : Int)).toNat = x % 2 ^ (8 * k) := by
    rw [BitVec.toNat_and, hx1, h127, Nat.and_two_pow_sub_one_eq_mod]
  show IntKind.u64.wrap ((BitVec.ofInt 64 (x : Int) &&& BitVec.ofInt 64 ((p - 1 : Nat) : Int)).toNat : Nat) = _
  rw [key, ep, IntKind.wrap_u64]
  have := Nat.mod_lt x (show 0 < p by omega)
  omega
theorem and15 (n : Int) : ∃ m : Nat, bits .and .i64 n 15 = (m : Int) ∧ m < 16 :=
  ⟨(n % 16).toNat, by have := i64_low 4 (by omega) n; simp at this; rw [this]; omega, by omega⟩
theorem and3 (n : Int) : ∃ m : Nat, bits .and .i64 n 3 = (m : Int) ∧ m < 4 :=
  ⟨(n % 4).toNat, by have := i64_low 2 (by omega) n; simp at this; rw [this]; omega, by omega⟩
theorem and1' (n : Int) : ∃ m : Nat, bits .and .i64 n 1 = (m : Int) ∧ m < 2 :=
  ⟨(n % 2).toNat, by have := i64_low 1 (by omega) n; simp at this; rw [this]; omega, by omega⟩
theorem enc_get : ∀ (k x i : Nat), i < k → (Pk.enc k x)[i]? = some (x / 256 ^ (k - 1 - i) % 256)
  | 0, _, _, h => by omega
  | k + 1, x, i, h => by
    rw [Pk.enc_cons]
    match i with
    | 0 => simp
    | i + 1 =>
      rw [List.getElem?_cons_succ, enc_get k x i (by omega)]
      congr 3; congr 1; omega
theorem mod_byte (x k j : Nat) (h : j < k) : x % 256 ^ k / 256 ^ j % 256 = x / 256 ^ j % 256 := by
  obtain ⟨d, rfl⟩ : ∃ d, k = j + (d + 1) := ⟨k - j - 1, by omega⟩
  rw [Nat.pow_add, Nat.mod_mul_right_div_self, Nat.pow_succ, Nat.mod_mul_left_mod]
theorem same_byte {x k j d q y : Nat} (hj : j < k) (hk : k ≤ 8) (hd : k - 1 - j = d) (hq : x % 256 ^ k = q) (hy : x / 256 ^ (k - 1 - j) % 256 = y) :
    ((y : Int) != (q : Int) / 2 ^ min (IntKind.u64.wrap (8 * IntKind.u64.wrap (d : Int))).toNat 64 % 256) = false := by
  have e1 : IntKind.u64.wrap (d : Int) = (d : Int) := by rw [IntKind.wrap_u64]; omega
  have e2 : IntKind.u64.wrap (8 * (d : Int)) = ((8 * d : Nat) : Int) := by rw [IntKind.wrap_u64]; omega
  have e3 : min (IntKind.u64.wrap (8 * IntKind.u64.wrap (d : Int))).toNat 64 = 8 * d := by rw [e1, e2, Int.toNat_natCast]; omega
  rw [e3]
  have e4 : ((2 : Int) ^ (8 * d)) = ((256 ^ d : Nat) : Int) := by rw [show 256 ^ d = 2 ^ (8 * d) by rw [Nat.pow_mul]]; simp
  rw [e4, ← hq, ← hy, hd, ← mod_byte x k d (by omega)]
  simp
theorem lay_read {m b : List Nat} {off n : Nat} (hb : b.length = n) (h : off + n ≤ m.length) : ((Fr.lay m off b).drop off).take n = b := by
  subst hb
  apply List.ext_getElem?
  intro i
  by_cases hi : i < b.length
  · rw [List.getElem?_take, if_pos hi, List.getElem?_drop, Sg.lay_at _ _ _ _ h, if_neg (by omega), if_pos (by omega)]
    congr 1; omega
  · rw [List.getElem?_take, if_neg hi, List.getElem?_eq_none (by omega)]
end Go.Proofs.Ytkpdgjmeeeddhaa
