/- A configuration that may be is told by its bytes. -/
import Derived.Test.YtmadldgajjgbmaaMa
set_option linter.unusedVariables false
set_option linter.unusedSimpArgs false
namespace Go.Proofs.Ytmadldgajjgbmaa
open Go.RowKit
set_option linter.unusedVariables false
set_option linter.unusedSimpArgs false
theorem mchk_r {n : Nat} (hn : n ≤ 1000) : ∀ {l : List Mp} {e : Int}, 0 ≤ e → mchk n e l = true → ∀ m ∈ l, MpR m
  | [], e, _, _, m, hm => by cases hm
  | x :: r, e, he, h, m, hm => by
    unfold mchk at h
    simp only [Bool.and_eq_true, Bool.not_eq_true', decide_eq_false_iff_not] at h
    obtain ⟨h1, h2⟩ := h
    unfold mbad at h1
    rcases List.mem_cons.1 hm with rfl | hm
    · exact ⟨⟨by omega, by omega⟩, by omega, ⟨by omega, by omega⟩, ⟨by omega, by omega⟩⟩
    · exact mchk_r hn (by omega) h2 m hm
theorem kind_r {n : Nat} {o : Om} (hn : n ≤ 64) (hp : 0 ≤ o.pa ∧ o.pa < 256) (hl : Lab.right o.lD o.lP = true) (h : kindB n o = true) : OmR o := by
  unfold kindB at h
  by_cases h1 : o.kd = 1
  · rw [if_pos h1] at h
    simp only [Bool.and_eq_true, decide_eq_true_eq] at h
    exact ⟨by omega, hp, hl, fun _ => by omega, fun e => by omega, fun e => by omega, fun e => by omega⟩
  rw [if_neg h1] at h
  by_cases h2 : o.kd = 2
  · rw [if_pos h2] at h
    simp only [Bool.and_eq_true, decide_eq_true_eq] at h
    exact ⟨by omega, hp, hl, fun e => by omega, fun _ => by omega, fun e => by omega, fun e => by omega⟩
  rw [if_neg h2] at h
  by_cases h4 : o.kd = 4
  · rw [if_pos h4] at h
    unfold mapsB at h
    simp only [Bool.and_eq_true, decide_eq_true_eq] at h
    exact ⟨by omega, hp, hl, fun e => by omega, fun e => by omega, fun _ => ⟨by omega, mchk_r (by omega) (Int.le_refl 0) h.2.1⟩, fun e => by omega⟩
  rw [if_neg h4] at h
  by_cases h3 : o.kd = 3 ∨ o.kd = 5
  · rw [if_pos h3] at h
    simp only [Bool.and_eq_true, decide_eq_true_eq] at h
    exact ⟨by omega, hp, hl, fun e => by omega, fun e => by omega, fun e => by omega, fun _ => ⟨h.1, by omega, by omega⟩⟩
  rw [if_neg h3] at h
  by_cases h6 : o.kd = 6
  · exact ⟨by omega, hp, hl, fun e => by omega, fun e => by omega, fun e => by omega, fun e => by omega⟩
  · rw [if_neg h6] at h; cases h
theorem homeOk_r {h : Option (Int × LP)} {o : Om} (hh : homeOk h o = true) : Lab.right o.lD o.lP = true := by
  unfold homeOk at hh
  cases h with
  | none => cases hh
  | some p => simp only [Bool.and_eq_true] at hh; exact hh.1
theorem objsB_get {os : List Om} : ∀ {l : List Om} {k : Nat}, objsB os k l = true → ∀ i o, l[i]? = some o → objB os (k + i) o = true
  | [], k, _, i, o, h => by simp at h
  | x :: r, k, hb, i, o, h => by
    unfold objsB at hb
    simp only [Bool.and_eq_true] at hb
    match i, h with
    | 0, h => obtain rfl : x = o := by simpa using h
              exact hb.1
    | i + 1, h => have := objsB_get hb.2 i o (by simpa using h)
                  rw [show k + (i + 1) = k + 1 + i by omega]; exact this
/-- What may be is told by its bytes. -/
theorem cfn_of {co fr nm : Int} {xs : List Sl} {os : List Om} (h : rightB co fr nm xs os = true) (hn : ∀ o ∈ os, Nf o) : CfN co fr nm xs os := by
  unfold rightB at h
  simp only [Bool.and_eq_true] at h
  obtain ⟨⟨h1, h2⟩, h3⟩ := h
  unfold hdrB at h1
  simp only [decide_eq_true_eq] at h1
  refine ⟨by omega, by omega, by omega, by omega, fun x hx => ?_, by omega, fun o ho => ⟨?_, hn o ho⟩⟩
  · have := List.all_eq_true.1 h2 x hx
    unfold slB at this
    simp only [decide_eq_true_eq] at this
    omega
  · obtain ⟨i, hi⟩ := List.mem_iff_getElem?.1 ho
    have h4 := objsB_get h3 i o hi
    unfold objB at h4
    simp only [Bool.and_eq_true, decide_eq_true_eq] at h4
    have hl := (List.getElem?_eq_some_iff.1 hi).1
    exact kind_r (n := os.length) (by omega) (by omega) (homeOk_r h4.2.1) h4.2.2
theorem cfgO_nf (s : Sd) : Nf (cfgO s) := by
  unfold cfgO
  by_cases h1 : s.kd = 1
  · rw [if_pos h1]; exact ⟨fun e => absurd h1 e, fun e => absurd h1 e, fun _ => rfl, fun _ => rfl, fun _ => ⟨rfl, rfl, rfl, rfl⟩⟩
  rw [if_neg h1]
  by_cases h2 : s.kd = 2
  · rw [if_pos h2]; exact ⟨fun _ => rfl, fun _ e => absurd h2 e, fun e => absurd h2 e, fun _ => rfl, fun _ => ⟨rfl, rfl, rfl, rfl⟩⟩
  rw [if_neg h2]
  by_cases h4 : s.kd = 4
  · rw [if_pos h4]; exact ⟨fun _ => rfl, fun _ _ => rfl, fun _ => rfl, fun e => absurd h4 e, fun _ => ⟨rfl, rfl, rfl, rfl⟩⟩
  rw [if_neg h4]
  by_cases h3 : s.kd = 3 ∨ s.kd = 5
  · rw [if_pos h3]; exact ⟨fun _ => rfl, fun _ _ => rfl, fun _ => rfl, fun _ => rfl, fun e => absurd h3 e⟩
  · rw [if_neg h3]; exact ⟨fun _ => rfl, fun _ _ => rfl, fun _ => rfl, fun _ => rfl, fun _ => ⟨rfl, rfl, rfl, rfl⟩⟩
/-- A byte more or less: none. -/
theorem cf_more {co fr nm co' fr' nm' : Int} {xs xs' : List Sl} {os os' : List Om} {t : List Nat} (h1 : CfN co fr nm xs os) (h2 : CfN co' fr' nm' xs' os') (ht : t ≠ []) : encCf co' fr' nm' xs' os' ≠ encCf co fr nm xs os ++ t := fun e =>
  ht (cf_cut h1 h2 (t := t) (t' := []) (by rw [List.append_nil]; exact e.symm)).2.2.2
end Go.Proofs.Ytmadldgajjgbmaa
