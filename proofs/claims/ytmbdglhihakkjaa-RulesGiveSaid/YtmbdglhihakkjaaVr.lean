/- Regions that draw their order: in a round, by the quiet walk; an append in a drawn region. -/
import Derived.Test.YtmbdglhihakkjaaUa
import Derived.OrdersIn
import Derived.Deep.Quiet
import Derived.Deep.RegionHeld
set_option linter.unusedVariables false
set_option linter.unusedSimpArgs false
namespace Go.Proofs.Ytmbdglhihakkjaa
open Go.RowKit
set_option linter.unusedVariables false
set_option linter.unusedSimpArgs false
/-! A region that draws its order and ends in some operations (Z) that wait for all others: a condition S on the world is asked for behind all but those. -/
section
variable {P : Program} {md : Region.Mode} {ops : Array Oper} {Q : Exit → Act → World → Prop} {S : World → Prop} {Z : Nat → Bool}
def wpAnyU (P : Program) (md : Region.Mode) (ops : Array Oper) (Q : Exit → Act → World → Prop) (S : World → Prop) (Z : Nat → Bool) : Nat → Array Bool → Act → World → Prop
  | 0, u, a, w => Region.ready md ops u = [] ∧ Q .normal a w
  | f + 1, u, a, w => (Region.ready md ops u = [] → Q .normal a w) ∧ ∀ i ∈ Region.ready md ops u, wpOp P ops Q i (fun a' w' => (Z i = false → S w') ∧ wpAnyU P md ops Q S Z f (u.setIfInBounds i true) a' w') a w
theorem any_of_AU : ∀ (f : Nat) (u : Array Bool) (a : Act) (w : World), wpAnyU P md ops Q S Z f u a w → wpAny P md ops Q f u a w
  | 0, _, _, _, h => h
  | f + 1, _, _, _, h => ⟨h.1, fun i hi => wpOp_mono (fun a' w' h' => any_of_AU f _ a' w' h'.2) (h.2 i hi)⟩
/-- Those of Z wait for all others. -/
def lastB (md : Region.Mode) (ops : Array Oper) (Z : Nat → Bool) : Bool := (List.range ops.size).all fun z => !Z z || (List.range ops.size).all fun i => Z i || (match ops[z]? with
  | some o => o.after.any fun e => Region.binds md e && e.on == i
  | none => false)
theorem not_last (hz : lastB md ops Z = true) {u : Array Bool} {i j : Nat} (hi : i ∈ Region.ready md ops u) (hj : j ∈ Region.ready md ops u) (hiz : Z i = false) : Z j = false := by
  cases hZ : Z j with
  | false => rfl
  | true =>
    obtain ⟨hun, oi, hoi, _⟩ := mem_ready.1 hi
    obtain ⟨_, oj, hoj, hall⟩ := mem_ready.1 hj
    have hlt := (Array.getElem?_eq_some_iff.1 hoi).1
    have hltj := (Array.getElem?_eq_some_iff.1 hoj).1
    have h := List.all_eq_true.1 hz j (List.mem_range.2 hltj)
    rw [hZ, Bool.not_true, Bool.false_or] at h
    have h := List.all_eq_true.1 h i (List.mem_range.2 hlt)
    rw [hoj, hiz] at h
    simp only [Bool.false_or] at h
    obtain ⟨e, he, hb⟩ := Array.any_eq_true'.1 h
    simp only [Bool.and_eq_true, beq_iff_eq] at hb
    have h1 := hall e he hb.1
    rw [hb.2] at h1
    rcases Nat.lt_or_ge i u.size with h' | h'
    · simp [h'] at hun h1; rw [hun] at h1; cases h1
    · simp [Array.getElem?_eq_none h'] at h1
theorem AU_first {i : Nat} {oi : Oper} {v : Value} (hz : lastB md ops Z = true) (hiz : Z i = false) (hi : ops[i]? = some oi) (hsel : ∀ (j : Nat) (o : Oper) cs b, ops[j]? = some o → o.op ≠ .select cs b)
    (hQ : ∀ c a w, Q (.panic c) (a.put oi.dst v) w → Q (.panic c) a w) : ∀ (f : Nat) (u : Array Bool) (a : Act) (w : World),
      (∀ j oj, ops[j]? = some oj → j ≠ i → u.getD j true = false → (∀ e ∈ oj.after, Region.binds md e = true → e.on ≠ i) → oi.apart ops oj = true) →
      i ∈ Region.ready md ops u → YieldsIf P ops S oi v a → S w →
      wpAnyU P md ops Q S Z f (u.setIfInBounds i true) (a.put oi.dst v) w → wpAnyU P md ops Q S Z (f + 1) u a w := by
  intro f
  induction f with
  | zero =>
    intro u a w _ hr hy hS H
    refine ⟨fun h => (by rw [h] at hr; cases hr), fun j hj => ?_⟩
    by_cases hji : j = i
    · subst hji; exact hy.wpOp hi hS ⟨fun _ => hS, H⟩
    · have := ready_mono hj hji
      rw [H.1] at this
      cases this
  | succ f ih =>
    intro u a w hfree hr hy hS H
    refine ⟨fun h => (by rw [h] at hr; cases hr), fun j hj => ?_⟩
    by_cases hji : j = i
    · subst hji; exact hy.wpOp hi hS ⟨fun _ => hS, H⟩
    · have hjz : Z j = false := not_last hz hr hj hiz
      have h1 := H.2 j (ready_mono hj hji)
      obtain ⟨hjun, oj, hoj, hall⟩ := mem_ready.1 hj
      have hnot : ∀ e ∈ oj.after, Region.binds md e = true → e.on ≠ i := fun e he hb heq => by
        have h1 := hall e he hb
        have h0 := (mem_ready.1 hr).1
        rw [heq] at h1
        rcases Nat.lt_or_ge i u.size with h' | h'
        · simp [h'] at h0 h1; rw [h0] at h1; cases h1
        · simp [Array.getElem?_eq_none h'] at h1
      have h2 := wpOp_putIf hoj (hfree j oj hoj hji hjun hnot) (fun cs b => hsel i oi cs b hi) (fun cs b => hsel j oj cs b hoj) hQ hy h1
      refine wpOp_mono (fun a' w' h3 => ⟨h3.2.1, ih (u.setIfInBounds j true) a' w' (fun k ok hk hki hun hno => hfree k ok hk hki ?_ hno) (ready_mono hr (Ne.symm hji)) h3.1 (h3.2.1 hjz) ?_⟩) h2
      · by_cases hjk : j = k
        · subst hjk; exact hjun
        · rw [getD_set_ne true hjk] at hun; exact hun
      · rw [Array.setIfInBounds_comm _ _ hji]
        exact h3.2.2
theorem AU_take {i : Nat} {oi : Oper} {v : Value} {f : Nat} {u : Array Bool} {a : Act} {w : World} (hz : lastB md ops Z = true) (hiz : Z i = false) (hi : ops[i]? = some oi)
    (hs : Region.noSelect ops = true) (hf : Region.free md ops u i = true) (hr : (Region.ready md ops u).contains i = true)
    (hQ : ∀ c a w, Q (.panic c) (a.put oi.dst v) w → Q (.panic c) a w) (hy : YieldsIf P ops S oi v a) (hS : S w)
    (h : wpAnyU P md ops Q S Z f (u.setIfInBounds i true) (a.put oi.dst v) w) : wpAnyU P md ops Q S Z (f + 1) u a w :=
  AU_first hz hiz hi (Region.noSelect_spec hs) hQ f u a w (Region.free_spec hi hf) (by simpa using hr) hy hS h
theorem AU_one {i : Nat} {o : Oper} {f : Nat} {u : Array Bool} {a : Act} {w : World} (hr : Region.ready md ops u = [i]) (ho : ops[i]? = some o)
    (h : ∀ K' : Act → World → Prop, Hid (∀ a w, (Z i = false → S w) → wpAnyU P md ops Q S Z f (u.setIfInBounds i true) a w → K' a w) → if Region.wanted o (yielded ops a.tmps) = true then Oper.wp P o a w K' Q else K' (a.put o.dst undef) w) : wpAnyU P md ops Q S Z (f + 1) u a w :=
  ⟨fun h0 => (by rw [hr] at h0; cases h0), fun j hj => by
    rw [hr] at hj
    obtain rfl := List.mem_singleton.1 hj
    exact wpOp_step ho (fun K' hK => h K' (Lib.hid fun a w hS hW => hK a w ⟨hS, hW⟩))⟩
theorem AU_done {u : Array Bool} {a : Act} {w : World} (hr : Region.ready md ops u = []) (h : Q .normal a w) : ∀ f, wpAnyU P md ops Q S Z f u a w
  | 0 => ⟨hr, h⟩
  | _ + 1 => ⟨fun _ => h, by rw [hr]; simp⟩
/-- No exit but the normal one. -/
def OnlyN (Q : Exit → Act → World → Prop) : Exit → Act → World → Prop
  | .normal, a, w => Q .normal a w
  | _, _, _ => False
theorem region_AU {id : Nat} {a : Act} {w : World} (hm : P.follows .mixedOrders = true) (hS : S w.drew)
    (h : S w.drew → wpAnyU P .any ops (OnlyN Q) S Z ops.size (Array.replicate ops.size false) a w.drew) : (Code.region id ops true).wp P Q a w :=
  wp_mono (wp_region_any hm (any_of_AU _ _ _ _ (h hS))) fun e a w h => by
    cases e with
    | normal => exact h
    | _ => exact h.elim
end
end Go.Proofs.Ytmbdglhihakkjaa
