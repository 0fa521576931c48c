/- Chains of homes. -/
import Derived.Test.YtodionedjokdmaaIq
import Derived.Test.YtodionedjokdmaaVt
set_option linter.unusedVariables false
set_option linter.unusedSimpArgs false
namespace Go.Proofs.Ytodionedjokdmaa
open Go.RowKit Go.Maps
set_option linter.unusedVariables false
set_option linter.unusedSimpArgs false
theorem inT_stable {r : Nat → Nat} {os : List Nat} {G : GM} (h : Tr r os G) (b : Nat) : ∀ f f' n, (n ∈ os → r n < f ∧ r n < f') → inT G b f n = inT G b f' n
  | 0, 0, n, _ => rfl
  | 0, f' + 1, n, hn => by
    have hno : n ∉ os := fun hm => by have := (hn hm).1; omega
    rw [inT_succ]
    cases hG : G n with
    | none => rfl
    | some o => exact absurd ((h.mem n).2 (by rw [hG]; rfl)) hno
  | f + 1, 0, n, hn => by
    have hno : n ∉ os := fun hm => by have := (hn hm).2; omega
    rw [inT_succ]
    cases hG : G n with
    | none => rfl
    | some o => exact absurd ((h.mem n).2 (by rw [hG]; rfl)) hno
  | f + 1, f' + 1, n, hn => by
    rw [inT_succ, inT_succ]
    cases hG : G n with
    | none => rfl
    | some o =>
      dsimp only
      split
      · rfl
      · refine inT_stable h b f f' o.hm fun hm => ?_
        have hno := hn ((h.mem n).2 (by rw [hG]; rfl))
        rcases (h.hm n o hG).2 with h0 | ⟨_, hr⟩
        · exact absurd (by rw [← h0]; exact hm) h.zero
        · omega
/-- Ranks may be places. -/
theorem Tr.idx {r : Nat → Nat} {os : List Nat} {G : GM} (h : Tr r os G) : Tr (fun x => os.idxOf x) os G ∧ ∀ x ∈ os, os.idxOf x < os.length := by
  have hlt : ∀ x ∈ os, os.idxOf x < os.length := fun x hx => List.idxOf_lt_length_iff.2 hx
  have hget : ∀ x (hx : x ∈ os), os[os.idxOf x]'(hlt x hx) = x := fun x hx => List.getElem_idxOf (hlt x hx)
  have hord : ∀ x y, x ∈ os → y ∈ os → r x < r y → os.idxOf x < os.idxOf y := fun x y hx hy hr => by
    by_cases e : os.idxOf x < os.idxOf y
    · exact e
    · exfalso
      by_cases e2 : os.idxOf y = os.idxOf x
      · have h1 := hget x hx
        have h2 := hget y hy
        simp only [e2] at h2
        rw [h1] at h2
        rw [h2] at hr; omega
      · have := List.pairwise_iff_getElem.1 h.pw _ _ (hlt y hy) (hlt x hx) (by omega)
        rw [hget x hx, hget y hy] at this
        omega
  refine ⟨⟨h.pw.imp_of_mem fun {a b} ha hb hr => hord a b ha hb hr, h.mem, h.nz, fun x o hx => ⟨(h.hm x o hx).1, ?_⟩, h.ks⟩, hlt⟩
  rcases (h.hm x o hx).2 with h0 | ⟨h1, h2⟩
  · exact .inl h0
  · exact .inr ⟨h1, hord _ _ h1 ((h.mem x).2 (by rw [hx]; rfl)) h2⟩
end Go.Proofs.Ytodionedjokdmaa
