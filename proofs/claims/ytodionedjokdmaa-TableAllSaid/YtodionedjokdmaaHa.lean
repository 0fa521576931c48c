/- TableAll: the law's objects. -/
import Derived.Test.YtodionedjokdmaaOl
set_option linter.unusedVariables false
set_option linter.unusedSimpArgs false
namespace Go.Proofs.Ytodionedjokdmaa
open Go.RowKit
set_option linter.unusedVariables false
set_option linter.unusedSimpArgs false
/-- A root with at most j kids, all others without. -/
structure GA (G : Nat → Option Ob) (j : Nat) : Prop where
  root : ∃ b ks, G 1 = some ⟨b, 1, 0, ks, none, 0⟩ ∧ ks.length ≤ j
  oth : ∀ k o, G k = some o → k ≠ 1 → o.ks = []
  rg : ∀ k, (G k).isSome = true → 1 ≤ k ∧ k ≤ 65535
section
variable {G : Nat → Option Ob} {j j' n b : Nat}
theorem GA.start (b : Nat) : GA (updN (fun _ => none) 1 (some ⟨b, 1, 0, [], none, 0⟩)) 0 :=
  ⟨⟨b, [], updN_same _ _ _, Nat.le_refl _⟩, fun k o h h1 => (by rw [updN_other _ _ h1] at h; cases h), fun k h => by
    by_cases e : k = 1
    · subst e; omega
    · rw [updN_other _ _ e] at h; cases h⟩
theorem GA.ks (h : GA G j) (hj : j ≤ 1000) : ∀ k o', G k = some o' → o'.ks.length ≤ 1000 := fun k o' hk => by
  by_cases e : k = 1
  · subst e
    obtain ⟨b, ks, h1, h2⟩ := h.root
    rw [h1] at hk
    injection hk with hk
    rw [← hk]; exact Nat.le_trans h2 hj
  · rw [h.oth k o' hk e]; exact Nat.zero_le _
theorem GA.more (h : GA G j) (hj : j ≤ j') : GA G j' := by
  obtain ⟨b, ks, h1, h2⟩ := h.root
  exact ⟨⟨b, ks, h1, Nat.le_trans h2 hj⟩, h.oth, h.rg⟩
theorem GA.add (h : GA G j) (hr : n ≤ 65535) (hm : may G n ⟨b, 2, 1, [], none, 0⟩ = true) : GA (addG G n ⟨b, 2, 1, [], none, 0⟩) (j + 1) := by
  obtain ⟨b1, ks, h1, h2⟩ := h.root
  have hc : ctr G 1 = some ⟨b1, 1, 0, ks, none, 0⟩ := by unfold ctr; rw [h1]; rfl
  unfold may at hm
  simp only [Bool.and_eq_true, bne_iff_ne, ne_eq, Bool.not_eq_true', Option.isSome_eq_false_iff, Option.isNone_iff_eq_none] at hm
  have h0 : n ≠ 0 := hm.1
  have hG : G n = none := hm.2.1
  have hn1 : n ≠ 1 := fun e => by rw [e, h1] at hG; cases hG
  have he : addG G n ⟨b, 2, 1, [], none, 0⟩ = updN (updN G 1 (some ⟨b1, 1, 0, ks.filter (· != n) ++ [n], none, 0⟩)) n (some ⟨b, 2, 1, [], none, 0⟩) := by
    unfold addG
    simp only [hc]
  rw [he]
  refine ⟨⟨b1, ks.filter (· != n) ++ [n], by rw [updN_other _ _ (fun e => hn1 e.symm), updN_same], ?_⟩, fun k o hk hk1 => ?_, fun k hk => ?_⟩
  · have := List.length_filter_le (· != n) ks
    rw [List.length_append]; simp; omega
  · by_cases e : k = n
    · subst e; rw [updN_same] at hk; injection hk with hk; rw [← hk]
    · rw [updN_other _ _ e, updN_other _ _ hk1] at hk; exact h.oth k o hk hk1
  · by_cases e : k = n
    · subst e; omega
    · rw [updN_other _ _ e] at hk
      by_cases e1 : k = 1
      · subst e1; omega
      · rw [updN_other _ _ e1] at hk; exact h.rg k hk
theorem GA.far (h : GA G j) (hn : 65535 < n) : G n = none := by
  cases e : G n with
  | none => rfl
  | some o => have := h.rg n (by rw [e]; rfl); omega
theorem may_zero (G : Nat → Option Ob) (o : Ob) : may G 0 o = false := rfl
end
end Go.Proofs.Ytodionedjokdmaa
