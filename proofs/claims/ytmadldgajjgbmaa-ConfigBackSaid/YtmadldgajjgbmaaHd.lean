/- A configuration that may be has few bytes. -/
import Derived.Test.YtmadldgajjgbmaaMb
set_option linter.unusedVariables false
set_option linter.unusedSimpArgs false
namespace Go.Proofs.Ytmadldgajjgbmaa
open Go.RowKit
set_option linter.unusedVariables false
set_option linter.unusedSimpArgs false
theorem lab_short {D : Int} {P : LP} (h : Lab.right D P = true) : (Pk.lab D P).length ≤ 62 := by
  have := (Pk.right_small h).2.2.1
  rw [Pk.lab_len]; omega
theorem encMp_len (l : List Mp) : (l.flatMap encMp).length = 10 * l.length := by
  induction l with
  | nil => rfl
  | cons y r ih => rw [List.flatMap_cons, List.length_append, ih, List.length_cons]; simp [encMp, Pk.enc_len]; omega
theorem encK_short {n : Nat} {o : Om} (h : kindB n o = true) : (encK o).length ≤ 1027 := by
  unfold kindB at h
  unfold encK
  by_cases h1 : o.kd = 1
  · rw [if_pos h1]; simp [Pk.enc_len]
  rw [if_neg h1] at h ⊢
  by_cases h2 : o.kd = 2
  · rw [if_pos h2] at h ⊢
    simp only [Bool.and_eq_true, decide_eq_true_eq] at h
    simp only [List.length_append, Pk.enc_len]
    omega
  rw [if_neg h2] at h ⊢
  by_cases h4 : o.kd = 4
  · rw [if_pos h4] at h ⊢
    unfold mapsB at h
    simp only [Bool.and_eq_true, decide_eq_true_eq] at h
    rw [List.length_append, Pk.enc_len, encMp_len]
    omega
  rw [if_neg h4] at h ⊢
  by_cases h3 : o.kd = 3 ∨ o.kd = 5
  · rw [if_pos h3] at h ⊢
    simp only [Bool.and_eq_true] at h
    have := lab_short h.1
    simp only [List.length_append, Pk.enc_len]
    omega
  · rw [if_neg h3]; simp
theorem flat_short {α : Type} {f : α → List Nat} {m : Nat} : ∀ {l : List α}, (∀ x ∈ l, (f x).length ≤ m) → (l.flatMap f).length ≤ m * l.length
  | [], _ => by simp
  | x :: r, h => by
    rw [List.flatMap_cons, List.length_append, List.length_cons, Nat.mul_add]
    have h1 := h x (by simp)
    have h2 := flat_short (l := r) fun y hy => h y (by simp [hy])
    omega
theorem enc_short {co fr nm : Int} {xs : List Sl} {os : List Om} (h : rightB co fr nm xs os = true) : (encCf co fr nm xs os).length ≤ 100000 ∧ 0 < (encCf co fr nm xs os).length := by
  unfold rightB at h
  simp only [Bool.and_eq_true] at h
  obtain ⟨⟨h1, h2⟩, h3⟩ := h
  unfold hdrB at h1
  simp only [decide_eq_true_eq] at h1
  have k1 : (xs.flatMap encSlt).length ≤ 2 * xs.length := flat_short fun x hx => by simp [encSlt, Pk.enc_len]
  have k2 : (os.flatMap encOm).length ≤ 1100 * os.length := flat_short fun o ho => by
    obtain ⟨i, hi⟩ := List.mem_iff_getElem?.1 ho
    have h4 := objsB_get h3 i o hi
    unfold objB at h4
    simp only [Bool.and_eq_true, decide_eq_true_eq] at h4
    have h5 := encK_short h4.2.2
    have h6 := lab_short (homeOk_r h4.2.1)
    unfold encOm
    simp only [List.length_append, Pk.enc_len]
    omega
  unfold encCf
  simp only [List.length_append, Pk.enc_len]
  omega
end Go.Proofs.Ytmadldgajjgbmaa
