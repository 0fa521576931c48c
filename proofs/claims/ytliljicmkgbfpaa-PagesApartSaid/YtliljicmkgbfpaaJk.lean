/- Regions that draw their order, in a round. -/
import Derived.Test.YtliljicmkgbfpaaJj
import Derived.Sort.QuietTacIn
import Derived.OrdersIn
set_option linter.unusedVariables false
set_option linter.unusedSimpArgs false
namespace Go.Proofs.Ytliljicmkgbfpaa
open Go.RowKit Go.Shelf Pg
set_option linter.unusedVariables false
set_option linter.unusedSimpArgs false
/-- No operation is a defer statement. -/
def noDefer (ops : Array Oper) : Bool := ops.toList.all fun o => match o.op with
  | .defer _ => false
  | _ => true
theorem noDefer_spec {ops : Array Oper} (h : noDefer ops = true) {i : Nat} {o : Oper} (ho : ops[i]? = some o) : ∀ c, o.op ≠ .defer c := fun c e => by
  unfold noDefer at h
  rw [List.all_eq_true] at h
  have := h o (Array.mem_toList_iff.2 (Array.mem_of_getElem? ho))
  rw [e] at this
  cases this
theorem ops_round {n : Nat} {P : Program} {ops : Array Oper} {Q : Exit → Act → World → Prop} (hnd : noDefer ops = true) (l : Nat) : ∀ (order : List Nat) (a : Act) (w : World), wpOpsIn Fence.wide n P ops Q order a w → wpOpsIn (Fence.wide.inRound l) n P ops Q order a w
  | [], a, w, h => h
  | i :: rest, a, w, h => by
    simp only [wpOpsIn] at h ⊢
    cases ho : ops[i]? with
    | none =>
      simp only [ho] at h ⊢
      exact ops_round hnd l rest a w h
    | some o =>
      simp only [ho] at h ⊢
      split
      · rename_i hw
        rw [if_pos hw] at h
        have h2 := Oper.wpIn_mono (fun a w h => ops_round hnd l rest a w h) h
        refine ⟨h2.1, ?_⟩
        have h3 := h2.2
        rw [show Fence.wide.round = none by rfl, Oper.semAt_none] at h3
        rw [Oper.semAt_eq _ _ _ (noDefer_spec hnd ho)]
        exact h3
      · rename_i hw
        rw [if_neg hw] at h
        exact ⟨h.1, ops_round hnd l rest _ w h.2⟩
theorem region_round {l n : Nat} {P : Program} {id : Nat} {ops : Array Oper} {Q : Exit → Act → World → Prop} {a : Act} {w : World} (hm : P.follows .mixedOrders = true) (hnd : noDefer ops = true)
    (h : wpAnyIn Fence.wide n P .any ops Q ops.size (Array.replicate ops.size false) a w.drew) : (Code.region id ops true).wpIn (Fence.wide.inRound l) n P Q a w :=
  wpIn_region_draw fun t => by
    simp only [Region.schedule, hm, Bool.true_or, if_true]
    exact ops_round hnd l _ a _ (wpAnyIn_sound ops.size t _ a _ h)
end Go.Proofs.Ytliljicmkgbfpaa
