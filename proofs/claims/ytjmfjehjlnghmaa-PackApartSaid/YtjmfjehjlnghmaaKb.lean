import Derived.Test.YtjmfjehjlnghmaaKa
import Derived.Test.YtjmfjehjlnghmaaSo
/- Labels one behind the other. -/
namespace Pk
set_option linter.unusedVariables false
set_option linter.unusedSimpArgs false

abbrev Lb := Int × List (Nat × Int)
/-- So many labels, and the bytes behind them. -/
def decs : Nat → List Nat → Option (List Lb × List Nat)
  | 0, bs => some ([], bs)
  | n + 1, bs => match rl bs with
    | none => none
    | some (D, ps, r) => match decs n r with
      | none => none
      | some (ls, r') => some ((D, ps) :: ls, r')
def labs (ls : List Lb) : List Nat := ls.flatMap fun l => lab l.1 l.2
theorem labs_cons (l : Lb) (ls : List Lb) : labs (l :: ls) = lab l.1 l.2 ++ labs ls := rfl
theorem labs_snoc (ls : List Lb) (l : Lb) : labs (ls ++ [l]) = labs ls ++ lab l.1 l.2 := by simp [labs]
theorem decs_of : ∀ (ls : List Lb) (rest : List Nat), (∀ l ∈ ls, Lab.right l.1 l.2 = true) → decs ls.length (labs ls ++ rest) = some (ls, rest)
  | [], rest, _ => rfl
  | l :: ls, rest, h => by
      rw [List.length_cons, labs_cons, List.append_assoc, decs, rl_of _ (h l (by simp))]
      simp only
      rw [decs_of ls rest fun m hm => h m (by simp [hm])]
theorem decs_true : ∀ (n : Nat) (bs : List Nat) (ls : List Lb) (rest : List Nat), (∀ c ∈ bs, c < 256) → decs n bs = some (ls, rest) → ls.length = n ∧ (∀ l ∈ ls, Lab.right l.1 l.2 = true) ∧ bs = labs ls ++ rest
  | 0, bs, ls, rest, hb, h => by
      simp only [decs, Option.some.injEq, Prod.mk.injEq] at h
      obtain ⟨rfl, rfl⟩ := h
      exact ⟨rfl, by simp, rfl⟩
  | n + 1, bs, ls, rest, hb, h => by
      rw [decs] at h
      cases hr : rl bs with
      | none => rw [hr] at h; simp at h
      | some t =>
        obtain ⟨D, ps, r⟩ := t
        rw [hr] at h
        simp only at h
        cases hd : decs n r with
        | none => rw [hd] at h; simp at h
        | some u =>
          obtain ⟨ls', r'⟩ := u
          rw [hd] at h
          simp only [Option.some.injEq, Prod.mk.injEq] at h
          obtain ⟨rfl, rfl⟩ := h
          obtain ⟨h1, h2⟩ := rl_true hb hr
          obtain ⟨i1, i2, i3⟩ := decs_true n r ls' r' (fun c hc => hb c (by rw [h2]; exact List.mem_append_right _ hc)) hd
          refine ⟨by simp [i1], fun l hl => ?_, by rw [labs_cons, List.append_assoc, ← i3]; exact h2⟩
          rcases List.mem_cons.1 hl with rfl | hl
          · exact h1
          · exact i2 l hl
/-- What these bytes tell: so many labels, and nothing behind them. -/
def tell (n : Nat) (bs : List Nat) : Option (List Lb) := match decs n bs with
  | some (ls, []) => some ls
  | _ => none
theorem tell_of {ls : List Lb} (h : ∀ l ∈ ls, Lab.right l.1 l.2 = true) : tell ls.length (labs ls) = some ls := by
  have := decs_of ls [] h
  rw [List.append_nil] at this
  unfold tell; rw [this]
theorem tell_true {n : Nat} {bs : List Nat} {ls : List Lb} (hb : ∀ c ∈ bs, c < 256) (h : tell n bs = some ls) : ls.length = n ∧ (∀ l ∈ ls, Lab.right l.1 l.2 = true) ∧ bs = labs ls := by
  unfold tell at h
  split at h
  · next ls' e =>
    cases h
    have := decs_true n bs ls [] hb e
    rwa [List.append_nil] at this
  · cases h
/-- One label more. -/
theorem decs_step : ∀ (j : Nat) (bs r : List Nat) (ls : List Lb), decs j bs = some (ls, r) → ∀ m, decs (j + m) bs = match decs m r with
    | none => none
    | some (ls', r') => some (ls ++ ls', r')
  | 0, bs, r, ls, h, m => by
      simp only [decs, Option.some.injEq, Prod.mk.injEq] at h
      obtain ⟨rfl, rfl⟩ := h
      rw [Nat.zero_add]
      cases decs m bs with
      | none => rfl
      | some t => rfl
  | j + 1, bs, r, ls, h, m => by
      rw [Nat.add_right_comm, decs]
      rw [decs] at h
      cases hr : rl bs with
      | none => rw [hr] at h; simp at h
      | some t =>
        obtain ⟨D, ps, r1⟩ := t
        rw [hr] at h
        simp only at h ⊢
        cases hd : decs j r1 with
        | none => rw [hd] at h; simp at h
        | some u =>
          obtain ⟨ls', r'⟩ := u
          rw [hd] at h
          simp only [Option.some.injEq, Prod.mk.injEq] at h
          obtain ⟨rfl, rfl⟩ := h
          rw [decs_step j r1 r' ls' hd m]
          cases decs m r' with
          | none => rfl
          | some v => rfl
theorem decs_one {bs rest : List Nat} {D : Int} {ps : List (Nat × Int)} (h : rl bs = some (D, ps, rest)) : decs 1 bs = some ([(D, ps)], rest) := by rw [decs, h]; rfl
theorem decs_snoc {j : Nat} {bs r rest : List Nat} {ls : List Lb} {D : Int} {ps : List (Nat × Int)} (h : decs j bs = some (ls, r)) (h1 : rl r = some (D, ps, rest)) : decs (j + 1) bs = some (ls ++ [(D, ps)], rest) := by
  rw [decs_step j bs r ls h 1, decs_one h1]
theorem tell_stop {j n : Nat} {bs r : List Nat} {ls : List Lb} (h : decs j bs = some (ls, r)) (hn : j < n) (h1 : rl r = none) : tell n bs = none := by
  obtain ⟨m, rfl⟩ : ∃ m, n = j + (m + 1) := ⟨n - j - 1, by omega⟩
  unfold tell
  rw [decs_step j bs r ls h (m + 1), decs, h1]
theorem tell_end {n : Nat} {bs r : List Nat} {ls : List Lb} (h : decs n bs = some (ls, r)) : tell n bs = if r = [] then some ls else none := by
  unfold tell; rw [h]
  cases r with
  | nil => rfl
  | cons a r => rfl
/-- A byte more, a label more, a byte less. -/
theorem tell_more {ls : List Lb} {c : Nat} {t : List Nat} (h : ∀ l ∈ ls, Lab.right l.1 l.2 = true) : tell ls.length (labs ls ++ c :: t) = none := by
  rw [tell_end (decs_of ls (c :: t) h), if_neg (by simp)]
theorem rl_nil : rl [] = none := rfl
theorem tell_next {ls : List Lb} (h : ∀ l ∈ ls, Lab.right l.1 l.2 = true) : tell (ls.length + 1) (labs ls) = none := by
  have := decs_of ls [] h
  rw [List.append_nil] at this
  exact tell_stop this (by omega) rl_nil
theorem labs_byte {ls : List Lb} (h : ∀ l ∈ ls, Lab.right l.1 l.2 = true) : ∀ c ∈ labs ls, c < 256 := by
  intro c hc
  obtain ⟨l, hl, hc⟩ := List.mem_flatMap.1 hc
  exact lab_byte (small_of_right (h l hl)) c hc
theorem tell_less {ls : List Lb} (h : ∀ l ∈ ls, Lab.right l.1 l.2 = true) (hne : labs ls ≠ []) : tell ls.length (labs ls).dropLast = none := by
  cases ht : tell ls.length (labs ls).dropLast with
  | none => rfl
  | some ls' =>
    exfalso
    obtain ⟨h1, h2, h3⟩ := tell_true (fun c hc => labs_byte h c (List.dropLast_subset _ hc)) ht
    have e := List.dropLast_concat_getLast hne
    rw [h3] at e
    have a := tell_more (c := (labs ls).getLast hne) (t := []) h2
    rw [e, h1, tell_of h] at a
    cases a
/-- Unlike labels have unlike bytes, none of which begins the other's. -/
theorem lab_apart {D E : Int} {ps qs : List (Nat × Int)} (h1 : Lab.right D ps = true) (h2 : Lab.right E qs = true) {n : Nat} (hn : n = min (lab D ps).length (lab E qs).length) (h : (lab D ps).take n = (lab E qs).take n) : D = E ∧ ps = qs := by
  have main : ∀ {D E : Int} {ps qs : List (Nat × Int)}, Lab.right D ps = true → Lab.right E qs = true → (lab D ps).length ≤ (lab E qs).length → lab D ps = (lab E qs).take (lab D ps).length → D = E ∧ ps = qs := by
    intro D E ps qs h1 h2 hl h
    have e : lab E qs = lab D ps ++ (lab E qs).drop (lab D ps).length := by
      conv => lhs; rw [← List.take_append_drop (lab D ps).length (lab E qs)]
      rw [← h]
    have a := rl_of [] h2
    rw [List.append_nil, e, rl_of _ h1] at a
    simp only [Option.some.injEq, Prod.mk.injEq] at a
    exact ⟨a.1, a.2.1⟩
  subst hn
  rcases Nat.le_total (lab D ps).length (lab E qs).length with hl | hl
  · rw [Nat.min_eq_left hl, List.take_of_length_le (Nat.le_refl _)] at h
    exact main h1 h2 hl h
  · rw [Nat.min_eq_right hl, List.take_of_length_le (l := lab E qs) (Nat.le_refl _)] at h
    obtain ⟨a, b⟩ := main h2 h1 hl h.symm
    exact ⟨a.symm, b.symm⟩
theorem right_of_fine {D : Int} {ps : List (Nat × Int)} (h : Lab.Fine D ps) : Lab.right D ps = true := by
  obtain ⟨⟨o1, o2, o3⟩, h1, h2, h3, h4⟩ := h
  unfold Lab.right
  have key : ∀ k, k ≤ ps.length → Lab.okTo D ps k = true := by
    intro k
    induction k with
    | zero => intro _; simp [Lab.okTo]; omega
    | succ k ih =>
      intro hk
      have hp : ps[k]? = some ps[k] := List.getElem?_eq_getElem (by omega)
      have hm : ps[k] ∈ ps := List.getElem_mem _
      rw [Lab.okTo_step hp, ih (by omega)]
      have a := o2 _ hm
      have b := o3 _ hm
      have c := h3 _ hm
      have g : Lab.goodP D ps[k] = true := by
        simp only [Lab.goodP, Bool.and_eq_true, decide_eq_true_eq, bne_iff_ne]
        exact ⟨⟨⟨⟨a.1, by omega⟩, c.1⟩, c.2.1⟩, b⟩
      have r : Lab.risesAt ps ps[k] k = true := by
        cases k with
        | zero => rfl
        | succ j =>
          have hj : ps[j]? = some ps[j] := List.getElem?_eq_getElem (by omega)
          simp only [Lab.risesAt, hj, decide_eq_true_eq]
          exact List.pairwise_iff_getElem.1 o1 j (j + 1) (by omega) (by omega) (by omega)
      rw [g, r]; rfl
  exact key _ (Nat.le_refl _)
end Pk
