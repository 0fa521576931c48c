import Derived.Test.YtdeljahpbanecaaMd
/- What a word stands for; orders; what may be dropped ahead of rounding. -/
namespace Flo
open Ieee
set_option linter.unusedVariables false
set_option linter.unusedSimpArgs false

def sg (x : Nat) : Bool := x / 9223372036854775808 % 2 == 1
def rung (x : Nat) : Nat := x % 9223372036854775808
def sgn (s : Bool) (n : Nat) : Int := if s then -(n : Int) else n
theorem signed_eq (s : Bool) (m u : Nat) : signed s m u = sgn s (m * 2 ^ u) := by
  unfold signed sgn; rw [Nat.shiftLeft_eq]
theorem read_fin {x : Nat} (h : rung x < 9218868437227405312) : ∃ m p, D.read x = .number (sg x) m p ∧ -1074 ≤ p ∧ p ≤ 971 ∧ m < 9007199254740992 ∧ m * 2 ^ (p + 1074).toNat = mag (rung x) := by
  rw [read_eq]
  unfold rung at h ⊢
  unfold mag
  by_cases h1 : x % 9223372036854775808 < 4503599627370496
  · rw [if_pos h1, if_pos h1]
    exact ⟨_, _, rfl, by omega, by omega, by omega, by simp⟩
  · rw [if_neg h1, if_neg h1, if_pos h]
    refine ⟨_, _, rfl, by omega, by omega, by omega, ?_⟩
    congr 2; omega
theorem read_inf {x : Nat} (h : rung x = 9218868437227405312) : D.read x = .infinity (sg x) := by
  unfold rung at h
  rw [read_eq, if_neg (by omega), if_neg (by omega), if_pos h]; rfl
theorem notnan_le {x : Nat} (h : nanB x = false) : rung x ≤ 9218868437227405312 := by
  unfold nanB at h; have := of_decide_eq_false h; unfold rung; omega
theorem compare_congr {a b c d : Int} (h1 : a < b ↔ c < d) (h2 : a = b ↔ c = d) : compare a b = compare c d := by
  show compareOfLessAndEq a b = compareOfLessAndEq c d
  unfold compareOfLessAndEq
  by_cases x : a < b
  · rw [if_pos x, if_pos (h1.1 x)]
  · rw [if_neg x, if_neg (fun y => x (h1.2 y))]
    by_cases z : a = b
    · rw [if_pos z, if_pos (h2.1 z)]
    · rw [if_neg z, if_neg (fun y => z (h2.2 y))]
theorem sgn_mono {f : Nat → Nat} (hf : ∀ {a b}, a < b ↔ f a < f b) (h0 : f 0 = 0) (s t : Bool) (a b : Nat) :
    compare (sgn s (f a)) (sgn t (f b)) = compare (sgn s a) (sgn t b) := by
  have e : ∀ {a b}, a = b ↔ f a = f b := fun {a b} => ⟨fun h => by rw [h], fun h => by
    rcases Nat.lt_trichotomy a b with h1 | h1 | h1
    · have := hf.1 h1; omega
    · exact h1
    · have := hf.1 h1; omega⟩
  have l1 := @hf a b
  have l2 := @hf b a
  have l3 := @hf 0 a
  have l4 := @hf 0 b
  have l5 := @e a b
  rw [h0] at l3 l4
  cases s <;> cases t <;> (refine compare_congr ?_ ?_) <;> simp [sgn] <;> omega
theorem compare_scale (s t : Bool) (a b P : Nat) (hP : 0 < P) : compare (sgn s (a * P)) (sgn t (b * P)) = compare (sgn s a) (sgn t b) :=
  sgn_mono (f := fun x => x * P) (fun {_ _} => (Nat.mul_lt_mul_right hP).symm) (Nat.zero_mul _) s t a b
theorem mag_zero : mag 0 = 0 := rfl
theorem compare_mag (s t : Bool) (a b : Nat) : compare (sgn s (mag a)) (sgn t (mag b)) = compare (sgn s a) (sgn t b) :=
  sgn_mono (f := mag) (fun {_ _} => mag_lt_iff.symm) mag_zero s t a b
theorem compare_inf (s t : Bool) (n : Nat) (h : 0 < n) : compare (sgn s n) (sgn t n) = compare t.toNat s.toNat := by
  cases s <;> cases t <;> simp only [sgn, Bool.toNat_true, Bool.toNat_false, if_true, Bool.false_eq_true, if_false]
  · rw [Int.compare_eq_eq.2 rfl]; rfl
  · rw [Int.compare_eq_gt.2 (by omega)]; rfl
  · rw [Int.compare_eq_lt.2 (by omega)]; rfl
  · rw [Int.compare_eq_eq.2 rfl]; rfl
theorem compare_inf_left (s t : Bool) (n m : Nat) (h : m < n) : compare (sgn s n) (sgn t m) = if s then .lt else .gt := by
  cases s <;> cases t <;> simp only [sgn, if_true, Bool.false_eq_true, if_false]
  · exact Int.compare_eq_gt.2 (by omega)
  · exact Int.compare_eq_gt.2 (by omega)
  · exact Int.compare_eq_lt.2 (by omega)
  · exact Int.compare_eq_lt.2 (by omega)
theorem compare_inf_right (s t : Bool) (n m : Nat) (h : n < m) : compare (sgn s n) (sgn t m) = if t then .gt else .lt := by
  cases s <;> cases t <;> simp only [sgn, if_true, Bool.false_eq_true, if_false]
  · exact Int.compare_eq_lt.2 (by omega)
  · exact Int.compare_eq_gt.2 (by omega)
  · exact Int.compare_eq_lt.2 (by omega)
  · exact Int.compare_eq_gt.2 (by omega)
theorem order_rank {x y : Nat} (hx : nanB x = false) (hy : nanB y = false) : D.order x y = some (compare (sgn (sg x) (rung x)) (sgn (sg y) (rung y))) := by
  have hx' := notnan_le hx
  have hy' := notnan_le hy
  unfold Format.order
  by_cases h1 : rung x = 9218868437227405312
  · rw [read_inf h1, h1]
    by_cases h2 : rung y = 9218868437227405312
    · rw [read_inf h2, h2]
      unfold Datum.order
      rw [compare_inf _ _ _ (by omega)]
    · obtain ⟨m, p, e, _⟩ := read_fin (x := y) (by omega)
      rw [e]; unfold Datum.order
      have : rung y < 9218868437227405312 := by omega
      rw [compare_inf_left _ _ _ _ this]
  · obtain ⟨m, p, e, hp, hp2, hm, hv⟩ := read_fin (x := x) (by omega)
    rw [e]
    by_cases h2 : rung y = 9218868437227405312
    · rw [read_inf h2, h2]; unfold Datum.order
      have : rung x < 9218868437227405312 := by omega
      rw [compare_inf_right _ _ _ _ this]
    · obtain ⟨n, q, e2, hq, hq2, hn, hw⟩ := read_fin (x := y) (by omega)
      rw [e2]; unfold Datum.order
      dsimp only
      rw [signed_eq, signed_eq, ← compare_mag (sg x) (sg y) (rung x) (rung y), ← hv, ← hw]
      rw [← compare_scale _ _ _ _ (2 ^ (min p q + 1074).toNat) (pow_pos' _)]
      congr 3
      · rw [Nat.mul_assoc, ← Nat.pow_add]; congr 2; omega
      · rw [Nat.mul_assoc, ← Nat.pow_add]; congr 2; omega
end Flo
