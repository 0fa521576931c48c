import Derived.Test.YtjmfjehjlnghmaaSp
import Derived.Test.YtjmfjehjlnghmaaSk
namespace Go
set_option linter.unusedVariables false
set_option linter.unusedSimpArgs false
variable {P : Program} {ops : Array Oper} {Q : Exit → Act → World → Prop} {md : Region.Mode}

theorem mem_ready_listed {L : Array Bool} {i : Nat} (h : i ∈ Region.ready md ops L) :
    L[i]? = some false ∧ ∃ o, ops[i]? = some o ∧ (o.after.all fun e => !Region.binds md e || L.getD e.on false) = true := by
  unfold Region.ready at h
  obtain ⟨h1, h2⟩ := List.mem_filter.1 h
  simp only [Bool.and_eq_true, Bool.not_eq_true'] at h2
  obtain ⟨h3, h4⟩ := h2
  constructor
  · rw [Array.getD_eq_getD_getElem?] at h3
    cases hL : L[i]? with
    | none => rw [hL] at h3; simp at h3
    | some b => rw [hL] at h3; simp at h3; rw [h3]
  · cases ho : ops[i]? with
    | none => rw [ho] at h4; simp at h4
    | some o => rw [ho] at h4; exact ⟨o, rfl, by simpa using h4⟩
theorem ready_of {L : Array Bool} {i : Nat} {o : Oper} (h1 : L[i]? = some false) (h2 : ops[i]? = some o) (h3 : (o.after.all fun e => !Region.binds md e || L.getD e.on false) = true) : i ∈ Region.ready md ops L := by
  unfold Region.ready
  refine List.mem_filter.2 ⟨List.mem_range.2 (Array.getElem?_eq_some_iff.1 h2).1, ?_⟩
  rw [Array.getD_eq_getD_getElem?, h1, h2]
  simpa using h3
/-- How many operations are still to come. -/
def todo (L : Array Bool) : Nat := L.toList.countP (fun b => !b)
theorem todo_set {L : Array Bool} {i : Nat} (h : L[i]? = some false) : todo (L.setIfInBounds i true) + 1 = todo L := by
  obtain ⟨hi, he⟩ := Array.getElem?_eq_some_iff.1 h
  unfold todo
  obtain ⟨l⟩ := L
  simp at hi he
  simp
  induction l generalizing i with
  | nil => simp at hi
  | cons b r ih =>
    cases i with
    | zero => simp at he; subst he; simp
    | succ i =>
      simp at hi he
      have := ih (i := i) (by simp [he, hi]) hi he
      simp only [List.set_cons_succ, List.countP_cons]
      omega
/-- A region that draws its order, by an invariant of what has been done. -/
theorem wpAny_inv (I : Array Bool → Act → World → Prop)
    (hstep : ∀ L a w i o, I L a w → ops[i]? = some o → L[i]? = some false → (o.after.all fun e => !Region.binds md e || L.getD e.on false) = true →
      ∀ K : Act → World → Prop, (∀ a' w', I (L.setIfInBounds i true) a' w' → K a' w') → if Region.wanted o (yielded ops a.tmps) = true then Oper.wp P o a w K Q else K (a.put o.dst undef) w)
    (hend : ∀ L a w, I L a w → Region.ready md ops L = [] → Q .normal a w) :
    ∀ fuel L a w, I L a w → todo L ≤ fuel → wpAny P md ops Q fuel L a w := by
  intro fuel
  induction fuel with
  | zero =>
    intro L a w h ht
    have hr : Region.ready md ops L = [] := by
      cases hr : Region.ready md ops L with
      | nil => rfl
      | cons i r =>
        have := todo_set (mem_ready_listed (md := md) (ops := ops) (L := L) (i := i) (by rw [hr]; simp)).1
        omega
    exact ⟨hr, hend L a w h hr⟩
  | succ fuel ih =>
    intro L a w h ht
    refine ⟨fun hr => hend L a w h hr, fun i hi => ?_⟩
    obtain ⟨h1, o, h2, h3⟩ := mem_ready_listed hi
    unfold wpOp
    rw [h2]
    have hs := hstep L a w i o h h2 h1 h3 (wpAny P md ops Q fuel (L.setIfInBounds i true)) (fun a' w' hI => ih _ _ _ hI (by have := todo_set h1; omega))
    dsimp only
    split
    · rename_i hw; rw [if_pos hw] at hs; exact .inl hs
    · rename_i hw; rw [if_neg hw] at hs; exact hs
end Go
