/- Drawn regions: reads of a condition S that some operations (Z) break; what reads nothing is taken at any time. -/
import Derived.Test.YtjbaniclcaiehaaDoorVr
set_option linter.unusedVariables false
set_option linter.unusedSimpArgs false
namespace Go.Proofs.YtjbaniclcaiehaaDoor
open Go.RowKit
set_option linter.unusedVariables false
set_option linter.unusedSimpArgs false
section
variable {P : Program} {md : Region.Mode} {ops : Array Oper} {Q : Exit → Act → World → Prop} {S : World → Prop} {Z : Nat → Bool}
/-- z waits for i, said in its own row. -/
def waitsB (md : Region.Mode) (ops : Array Oper) (z i : Nat) : Bool := match ops[z]? with
  | some o => o.after.any fun e => Region.binds md e && e.on == i
  | none => false
/-- Each of Z is listed, or waits for i. -/
def lastFor (md : Region.Mode) (ops : Array Oper) (Z : Nat → Bool) (u : Array Bool) (i : Nat) : Bool := (List.range ops.size).all fun z => !Z z || u.getD z true || waitsB md ops z i
theorem not_ready {u : Array Bool} {i z : Nat} (hw : waitsB md ops z i = true) (hi : i ∈ Region.ready md ops u) : z ∉ Region.ready md ops u := fun hz => by
  obtain ⟨hun, oi, hoi, _⟩ := mem_ready.1 hi
  obtain ⟨_, oz, hoz, hall⟩ := mem_ready.1 hz
  unfold waitsB at hw
  rw [hoz] at hw
  obtain ⟨e, he, hb⟩ := Array.any_eq_true'.1 hw
  simp only [Bool.and_eq_true, beq_iff_eq] at hb
  have h1 := hall e he hb.1
  rw [hb.2] at h1
  rcases Nat.lt_or_ge i u.size with h' | h'
  · simp [h'] at hun h1; rw [hun] at h1; cases h1
  · simp [Array.getElem?_eq_none h'] at h1
theorem getD_mono {u : Array Bool} {z j : Nat} (h : u.getD z true = true) : (u.setIfInBounds j true).getD z true = true := by
  by_cases hj : j = z
  · subst hj
    rcases Nat.lt_or_ge j u.size with h' | h'
    · simp [Array.getD_eq_getD_getElem?, Array.getElem?_setIfInBounds_self_of_lt h']
    · simp [Array.getD_eq_getD_getElem?, Array.getElem?_eq_none (xs := u.setIfInBounds j true) (i := j) (by simpa using h')]
  · rw [getD_set_ne true hj]; exact h
theorem AUS_first {i : Nat} {oi : Oper} {v : Value} (hiz : Z i = false) (hi : ops[i]? = some oi) (hsel : ∀ (j : Nat) (o : Oper) cs b, ops[j]? = some o → o.op ≠ .select cs b)
    (hQ : ∀ c a w, Q (.panic c) (a.put oi.dst v) w → Q (.panic c) a w) : ∀ (f : Nat) (u : Array Bool) (a : Act) (w : World),
      (∀ z, z < ops.size → Z z = true → u.getD z true = true ∨ waitsB md ops z i = true) →
      (∀ j oj, ops[j]? = some oj → j ≠ i → u.getD j true = false → (∀ e ∈ oj.after, Region.binds md e = true → e.on ≠ i) → oi.apart ops oj = true) →
      i ∈ Region.ready md ops u → YieldsIf P ops S oi v a → S w →
      wpAnyU P md ops Q S Z f (u.setIfInBounds i true) (a.put oi.dst v) w → wpAnyU P md ops Q S Z (f + 1) u a w := by
  intro f
  induction f with
  | zero =>
    intro u a w _ _ hr hy hS H
    refine ⟨fun h => (by rw [h] at hr; cases hr), fun j hj => ?_⟩
    by_cases hji : j = i
    · subst hji; exact hy.wpOp hi hS ⟨fun _ => hS, H⟩
    · have := ready_mono hj hji
      rw [H.1] at this
      cases this
  | succ f ih =>
    intro u a w hz hfree hr hy hS H
    refine ⟨fun h => (by rw [h] at hr; cases hr), fun j hj => ?_⟩
    by_cases hji : j = i
    · subst hji; exact hy.wpOp hi hS ⟨fun _ => hS, H⟩
    · have h1 := H.2 j (ready_mono hj hji)
      obtain ⟨hjun, oj, hoj, hall⟩ := mem_ready.1 hj
      have hjlt := (Array.getElem?_eq_some_iff.1 hoj).1
      have hjz : Z j = false := by
        cases hZ : Z j with
        | false => rfl
        | true =>
          rcases hz j hjlt hZ with h | h
          · rw [h] at hjun; cases hjun
          · exact absurd hj (not_ready h hr)
      have hnot : ∀ e ∈ oj.after, Region.binds md e = true → e.on ≠ i := fun e he hb heq => by
        have h1 := hall e he hb
        have h0 := (mem_ready.1 hr).1
        rw [heq] at h1
        rcases Nat.lt_or_ge i u.size with h' | h'
        · simp [h'] at h0 h1; rw [h0] at h1; cases h1
        · simp [Array.getElem?_eq_none h'] at h1
      have h2 := wpOp_putIf hoj (hfree j oj hoj hji hjun hnot) (fun cs b => hsel i oi cs b hi) (fun cs b => hsel j oj cs b hoj) hQ hy h1
      refine wpOp_mono (fun a' w' h3 => ⟨h3.2.1, ih (u.setIfInBounds j true) a' w' (fun z hzl hZ => (hz z hzl hZ).imp getD_mono id) (fun k ok hk hki hun hno => hfree k ok hk hki ?_ hno) (ready_mono hr (Ne.symm hji)) h3.1 (h3.2.1 hjz) ?_⟩) h2
      · by_cases hjk : j = k
        · subst hjk; exact hjun
        · rw [getD_set_ne true hjk] at hun; exact hun
      · rw [Array.setIfInBounds_comm _ _ hji]
        exact h3.2.2
theorem AUP_first {i : Nat} {oi : Oper} {v : Value} (hiz : Z i = true) (hi : ops[i]? = some oi) (hsel : ∀ (j : Nat) (o : Oper) cs b, ops[j]? = some o → o.op ≠ .select cs b)
    (hQ : ∀ c a w, Q (.panic c) (a.put oi.dst v) w → Q (.panic c) a w) : ∀ (f : Nat) (u : Array Bool) (a : Act) (w : World),
      (∀ j oj, ops[j]? = some oj → j ≠ i → u.getD j true = false → (∀ e ∈ oj.after, Region.binds md e = true → e.on ≠ i) → oi.apart ops oj = true) →
      i ∈ Region.ready md ops u → YieldsIf P ops (fun _ => True) oi v a →
      wpAnyU P md ops Q S Z f (u.setIfInBounds i true) (a.put oi.dst v) w → wpAnyU P md ops Q S Z (f + 1) u a w := by
  intro f
  induction f with
  | zero =>
    intro u a w _ hr hy H
    refine ⟨fun h => (by rw [h] at hr; cases hr), fun j hj => ?_⟩
    by_cases hji : j = i
    · subst hji; exact hy.wpOp hi trivial ⟨(fun h => by rw [hiz] at h; cases h), H⟩
    · have := ready_mono hj hji
      rw [H.1] at this
      cases this
  | succ f ih =>
    intro u a w hfree hr hy H
    refine ⟨fun h => (by rw [h] at hr; cases hr), fun j hj => ?_⟩
    by_cases hji : j = i
    · subst hji; exact hy.wpOp hi trivial ⟨(fun h => by rw [hiz] at h; cases h), H⟩
    · have h1 := H.2 j (ready_mono hj hji)
      obtain ⟨hjun, oj, hoj, hall⟩ := mem_ready.1 hj
      have hnot : ∀ e ∈ oj.after, Region.binds md e = true → e.on ≠ i := fun e he hb heq => by
        have h1 := hall e he hb
        have h0 := (mem_ready.1 hr).1
        rw [heq] at h1
        rcases Nat.lt_or_ge i u.size with h' | h'
        · simp [h'] at h0 h1; rw [h0] at h1; cases h1
        · simp [Array.getElem?_eq_none h'] at h1
      have h2 := wpOp_putIf hoj (hfree j oj hoj hji hjun hnot) (fun cs b => hsel i oi cs b hi) (fun cs b => hsel j oj cs b hoj) hQ hy h1
      refine wpOp_mono (fun a' w' h3 => ⟨h3.2.1, ih (u.setIfInBounds j true) a' w' (fun k ok hk hki hun hno => hfree k ok hk hki ?_ hno) (ready_mono hr (Ne.symm hji)) h3.1 ?_⟩) h2
      · by_cases hjk : j = k
        · subst hjk; exact hjun
        · rw [getD_set_ne true hjk] at hun; exact hun
      · rw [Array.setIfInBounds_comm _ _ hji]
        exact h3.2.2
theorem AUS_take {i : Nat} {oi : Oper} {v : Value} {f : Nat} {u : Array Bool} {a : Act} {w : World} (hz : lastFor md ops Z u i = true) (hiz : Z i = false) (hi : ops[i]? = some oi)
    (hs : Region.noSelect ops = true) (hf : Region.free md ops u i = true) (hr : (Region.ready md ops u).contains i = true)
    (hQ : ∀ c a w, Q (.panic c) (a.put oi.dst v) w → Q (.panic c) a w) (hy : YieldsIf P ops S oi v a) (hS : S w)
    (h : wpAnyU P md ops Q S Z f (u.setIfInBounds i true) (a.put oi.dst v) w) : wpAnyU P md ops Q S Z (f + 1) u a w :=
  AUS_first hiz hi (Region.noSelect_spec hs) hQ f u a w (fun z hzl hZ => by
    have := List.all_eq_true.1 hz z (List.mem_range.2 hzl)
    rw [hZ] at this
    simpa using this) (Region.free_spec hi hf) (by simpa using hr) hy hS h
theorem AUP_take {i : Nat} {oi : Oper} {v : Value} {f : Nat} {u : Array Bool} {a : Act} {w : World} (hiz : Z i = true) (hi : ops[i]? = some oi)
    (hs : Region.noSelect ops = true) (hf : Region.free md ops u i = true) (hr : (Region.ready md ops u).contains i = true)
    (hQ : ∀ c a w, Q (.panic c) (a.put oi.dst v) w → Q (.panic c) a w) (hy : YieldsIf P ops (fun _ => True) oi v a)
    (h : wpAnyU P md ops Q S Z f (u.setIfInBounds i true) (a.put oi.dst v) w) : wpAnyU P md ops Q S Z (f + 1) u a w :=
  AUP_first hiz hi (Region.noSelect_spec hs) hQ f u a w (Region.free_spec hi hf) (by simpa using hr) hy h
/-- Two are ready. -/
theorem AU_two {i j : Nat} {oi oj : Oper} {f : Nat} {u : Array Bool} {a : Act} {w : World} (hr : Region.ready md ops u = [i, j]) (hoi : ops[i]? = some oi) (hoj : ops[j]? = some oj)
    (h1 : ∀ K' : Act → World → Prop, Hid (∀ a w, (Z i = false → S w) → wpAnyU P md ops Q S Z f (u.setIfInBounds i true) a w → K' a w) → if Region.wanted oi (yielded ops a.tmps) = true then Oper.wp P oi a w K' Q else K' (a.put oi.dst undef) w)
    (h2 : ∀ K' : Act → World → Prop, Hid (∀ a w, (Z j = false → S w) → wpAnyU P md ops Q S Z f (u.setIfInBounds j true) a w → K' a w) → if Region.wanted oj (yielded ops a.tmps) = true then Oper.wp P oj a w K' Q else K' (a.put oj.dst undef) w) : wpAnyU P md ops Q S Z (f + 1) u a w :=
  ⟨fun h0 => (by rw [hr] at h0; cases h0), fun k hk => by
    rw [hr] at hk
    rcases List.mem_cons.1 hk with rfl | hk
    · exact wpOp_step hoi (fun K' hK => h1 K' (Lib.hid fun a w hS hW => hK a w ⟨hS, hW⟩))
    · obtain rfl := List.mem_singleton.1 hk
      exact wpOp_step hoj (fun K' hK => h2 K' (Lib.hid fun a w hS hW => hK a w ⟨hS, hW⟩))⟩
end
end Go.Proofs.YtjbaniclcaiehaaDoor
