import Derived.Test.YtdeljahpbanecaaMk
/- What may be dropped ahead of rounding (round to odd); sums. -/
namespace Flo
open Ieee
set_option linter.unusedVariables false
set_option linter.unusedSimpArgs false

/-- n by 2^d, the last digit 1 if anything was dropped. -/
def ro (n d : Nat) : Nat := if n % 2 ^ d = 0 then n / 2 ^ d else n / 2 ^ d / 2 * 2 + 1
theorem or_one (q : Nat) : q ||| 1 = q / 2 * 2 + 1 := by
  have h : q / 2 * 2 ||| 1 = q / 2 * 2 + 1 := by
    rw [show q / 2 * 2 = 2 ^ 1 * (q / 2) by omega, ← Nat.two_pow_add_eq_or_of_lt (by omega)]
  rcases (by omega : q % 2 = 0 ∨ q % 2 = 1) with e | e
  · rw [show q / 2 * 2 = q by omega] at h ⊢; exact h
  · have e2 : q = q / 2 * 2 ||| 1 := by rw [h]; omega
    rw [← h]
    conv => lhs; rw [e2]
    rw [Nat.or_assoc, Nat.or_self]
theorem rne_ro {n d e : Nat} (he : 2 ≤ e) : rne (ro n d) e = rne n (e + d) := by
  obtain ⟨k, rfl⟩ : ∃ k, e = k + 2 := ⟨e - 2, by omega⟩
  have hP := pow_pos' d
  have hk := pow_pos' k
  by_cases ht : n % 2 ^ d = 0
  · unfold ro; rw [if_pos ht]
    have e1 : n = n / 2 ^ d * 2 ^ d := by have := Nat.div_add_mod n (2 ^ d); rw [ht, Nat.add_zero, Nat.mul_comm] at this; exact this.symm
    conv => rhs; rw [e1]
    rw [rne_scale]
  · unfold ro; rw [if_neg ht]
    have hd := Nat.div_add_mod n (2 ^ d)
    have htl := Nat.mod_lt n hP
    have f1 : n / 2 ^ (k + 2 + d) = n / 2 ^ d / 2 ^ (k + 2) := by rw [Nat.div_div_eq_div_mul, ← Nat.pow_add, Nat.add_comm d]
    have f2 : n % 2 ^ (k + 2 + d) = n / 2 ^ d % 2 ^ (k + 2) * 2 ^ d + n % 2 ^ d := by
      rw [Nat.add_comm (k + 2) d, Nat.pow_add, Nat.mod_mul]
      rw [Nat.add_comm, Nat.mul_comm]
    have f3 : 2 ^ (k + 2 + d) = 2 ^ (k + 2) * 2 ^ d := Nat.pow_add ..
    unfold rne
    rw [f1, f2, f3]
    generalize n / 2 ^ d = q at *
    generalize n % 2 ^ d = t at *
    generalize 2 ^ d = P at *
    have f4 : 2 ^ (k + 2) = 2 * (2 * 2 ^ k) := by rw [Nat.pow_succ, Nat.pow_succ]; omega
    rw [f4]
    generalize 2 ^ k = h at *
    have f5 : (q / 2 * 2 + 1) / (2 * (2 * h)) = q / (2 * (2 * h)) := by
      have e : ∀ m, m / (2 * (2 * h)) = m / 2 / (2 * h) := fun m => (Nat.div_div_eq_div_mul ..).symm
      rw [e, e q, show (q / 2 * 2 + 1) / 2 = q / 2 by omega]
    have f6 : (q / 2 * 2 + 1) % (2 * (2 * h)) = q % (2 * (2 * h)) / 2 * 2 + 1 := by
      have a1 := Nat.mod_mul (x := q / 2 * 2 + 1) (a := 2) (b := 2 * h)
      have a2 := Nat.mod_mul (x := q) (a := 2) (b := 2 * h)
      rw [a1, a2, show (q / 2 * 2 + 1) / 2 = q / 2 by omega]
      omega
    rw [f5, f6]
    congr 2
    generalize q % (2 * (2 * h)) = r
    have g1 : decide (2 * (2 * h) < 2 * (r / 2 * 2 + 1)) = decide (2 * (2 * h) * P < 2 * (r * P + t)) := by
      rw [decide_eq_decide]
      constructor
      · intro hh
        have : 2 * h ≤ r := by omega
        have := Nat.mul_le_mul_right P this
        rw [Nat.mul_assoc]; omega
      · intro hh
        rw [Nat.mul_assoc] at hh
        have h1 : 2 * h * P < (r + 1) * P := by rw [Nat.add_mul, Nat.one_mul]; omega
        have h2 := Nat.lt_of_mul_lt_mul_right h1
        omega
    have g2 : decide (2 * (2 * h) = 2 * (r / 2 * 2 + 1)) = false := decide_eq_false (by omega)
    have g3 : decide (2 * (2 * h) * P = 2 * (r * P + t)) = false := by
      apply decide_eq_false
      intro hh
      rw [Nat.mul_assoc] at hh
      have h1 : 2 * h * P = r * P + t := by omega
      have h2 : r * P < 2 * h * P := by omega
      have h3 := Nat.lt_of_mul_lt_mul_right h2
      have h4 := Nat.mul_le_mul_right P (show r + 1 ≤ 2 * h by omega)
      rw [Nat.add_mul, Nat.one_mul] at h4
      omega
    rw [g1, g2, g3]
theorem ro_exact {n d : Nat} (h : n % 2 ^ d = 0) : ro n d * 2 ^ d = n := by
  unfold ro; rw [if_pos h]
  have := Nat.div_add_mod n (2 ^ d); rw [h, Nat.add_zero, Nat.mul_comm] at this; exact this
theorem ro_log2 {n d : Nat} (h : 2 ≤ n / 2 ^ d) : (ro n d).log2 + d = n.log2 := by
  have hn : n ≠ 0 := by intro e; subst e; simp at h
  have hq : n / 2 ^ d ≠ 0 := by omega
  have h1 : (n / 2 ^ d).log2 + d = n.log2 := by
    have a := log2_le hq
    have b := lt_log2 (n / 2 ^ d)
    rw [eq_comm, Nat.log2_eq_iff hn]
    constructor
    · rw [Nat.pow_add]; exact Nat.le_trans (Nat.mul_le_mul_right _ a) (Nat.div_mul_le_self _ _)
    · rw [show (n / 2 ^ d).log2 + d + 1 = (n / 2 ^ d).log2 + 1 + d by omega, Nat.pow_add]
      exact (Nat.div_lt_iff_lt_mul (pow_pos' d)).1 b
  rw [← h1]
  unfold ro
  split
  · rfl
  · generalize n / 2 ^ d = q at *
    congr 1
    have h2 : q / 2 * 2 + 1 ≠ 0 := by omega
    have a := log2_le hq
    have b := lt_log2 q
    rw [Nat.log2_eq_iff h2]
    have c : 1 ≤ q.log2 := (Nat.le_log2 hq).2 (by omega)
    obtain ⟨l, hl⟩ : ∃ l, q.log2 = l + 1 := ⟨q.log2 - 1, by omega⟩
    rw [hl] at a b ⊢
    rw [Nat.pow_succ] at a b ⊢
    constructor
    · omega
    · rw [Nat.pow_succ] at b ⊢; omega
/-- What is dropped with its mark left rounds as the whole does. -/
theorem R_ro (K u : Nat) {n d : Nat} (h : n % 2 ^ d = 0 ∨ 2 ^ 54 ≤ n / 2 ^ d) : R K (ro n d * 2 ^ (u + d)) = R K (n * 2 ^ u) := by
  by_cases h0 : n % 2 ^ d = 0
  · rw [Nat.add_comm u d, Nat.pow_add, ← Nat.mul_assoc, ro_exact h0]
  · have h1 : 2 ^ 54 ≤ n / 2 ^ d := by rcases h with h | h; exact absurd h h0; exact h
    have hn : n ≠ 0 := by intro e; subst e; simp at h1
    have hl := ro_log2 (n := n) (d := d) (by omega)
    have hr : ro n d ≠ 0 := by unfold ro; rw [if_neg h0]; omega
    have hl2 : 54 + d ≤ n.log2 := by
      rw [Nat.le_log2 hn, Nat.pow_add]
      exact Nat.le_trans (Nat.mul_le_mul_right _ h1) (Nat.div_mul_le_self _ _)
    unfold R
    have ed : dr K (ro n d * 2 ^ (u + d)) = dr K (n * 2 ^ u) := by
      unfold dr; rw [log2_mul_pow hr, log2_mul_pow hn]; omega
    rw [ed]
    have he : ∃ e, dr K (n * 2 ^ u) = e + d + u ∧ 2 ≤ e := by
      refine ⟨dr K (n * 2 ^ u) - d - u, ?_, ?_⟩ <;> (unfold dr; rw [log2_mul_pow hn]; omega)
    obtain ⟨e, he, he2⟩ := he
    rw [he, rne_scale, show e + d + u = e + (u + d) by omega, rne_scale, rne_ro he2]
theorem ro_add {A B d : Nat} (hA : A % 2 = 0) : A + ro B d = ro (A * 2 ^ d + B) d := by
  have hP := pow_pos' d
  unfold ro
  rw [Nat.mul_comm A, Nat.mul_add_mod, Nat.mul_add_div hP]
  split <;> omega
theorem ro_sub {A B d : Nat} (hA : A % 2 = 0) (h : B ≤ A * 2 ^ d) : A - ro B d = ro (A * 2 ^ d - B) d := by
  have hP := pow_pos' d
  have hB := Nat.div_add_mod B (2 ^ d)
  have ht := Nat.mod_lt B hP
  unfold ro
  by_cases h0 : B % 2 ^ d = 0
  · have e1 : A * 2 ^ d - B = 2 ^ d * (A - B / 2 ^ d) := by rw [Nat.mul_sub, Nat.mul_comm A]; omega
    rw [if_pos h0, e1, Nat.mul_mod_right, if_pos rfl, Nat.mul_div_cancel_left _ hP]
  · have hq : B / 2 ^ d < A := by
      rw [Nat.div_lt_iff_lt_mul hP]
      refine Nat.lt_of_le_of_ne h (fun e => h0 ?_)
      rw [e, Nat.mul_mod_left]
    obtain ⟨k, hk⟩ : ∃ k, A = B / 2 ^ d + 1 + k := ⟨A - B / 2 ^ d - 1, by omega⟩
    have e1 : A * 2 ^ d - B = 2 ^ d * k + (2 ^ d - B % 2 ^ d) := by
      have : A * 2 ^ d = 2 ^ d * (B / 2 ^ d) + 2 ^ d + 2 ^ d * k := by
        conv => lhs; rw [hk]
        rw [Nat.add_mul, Nat.add_mul, Nat.one_mul, Nat.mul_comm (B / 2 ^ d), Nat.mul_comm k]
      omega
    have e2 : 2 ^ d - B % 2 ^ d < 2 ^ d := by omega
    rw [if_neg h0, e1, Nat.mul_add_mod, Nat.mod_eq_of_lt e2, if_neg (by omega), Nat.mul_add_div hP, Nat.div_eq_of_lt e2]
    omega
end Flo
