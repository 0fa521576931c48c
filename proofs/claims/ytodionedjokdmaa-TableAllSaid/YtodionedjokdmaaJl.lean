/- pdqsort: what stands while it goes on. -/
import Derived.Test.YtodionedjokdmaaJh
import Derived.Test.YtodionedjokdmaaJk
set_option linter.unusedVariables false
set_option linter.unusedSimpArgs false
namespace Go.Proofs.Ytodionedjokdmaa
open Go.RowKit
set_option linter.unusedVariables false
set_option linter.unusedSimpArgs false
/-- What is ahead of a isn't above what is from a on. -/
def Lo (a b : Nat) (f : Nat → Int) : Prop := ∀ z k, z + 1 = a → a ≤ k → k < b → f z ≤ f k
/-- All rise but those within [a', b'). -/
def Out (a b a' b' : Nat) (f : Nat → Int) : Prop := ∀ i j, a ≤ i → i < j → j < b → ¬ (a' ≤ i ∧ j < b') → f i ≤ f j
section
variable {w wr w2 w3 : World} {g o n a b a' b' m j i d : Nat} {f fr f2 f3 : Nat → Int} {pv : Int}
theorem Lo.rl (h : Lo a b f) (hl : Rl a b f f2) : Lo a b f2 := fun z k h1 h2 h3 => by
  obtain ⟨j, j1, j2, e⟩ := hl.new k h2 h3
  rw [hl.out z (by omega), e]
  exact h z j h1 j1 j2
theorem Out.rl (h : Out a b a' b' f) (ha : a ≤ a') (hb : b' ≤ b) (hl : Rl a' b' f f2) : Out a b a' b' f2 := fun i j h1 h2 h3 h4 => by
  by_cases hi : a' ≤ i ∧ i < b'
  · obtain ⟨i', i1, i2, e⟩ := hl.new i hi.1 hi.2
    rw [hl.out j (by omega), e]
    exact h i' j (by omega) (by omega) h3 (by omega)
  · rw [hl.out i (by omega)]
    by_cases hj : a' ≤ j ∧ j < b'
    · obtain ⟨j', j1, j2, e⟩ := hl.new j hj.1 hj.2
      rw [e]
      exact h i j' h1 (by omega) (by omega) (by omega)
    · rw [hl.out j (by omega)]
      exact h i j h1 h2 h3 h4
/-- [a', b') is to be sorted yet. -/
structure PS (w : World) (g o n a b : Nat) (f : Nat → Int) (a' b' : Nat) (fr : Nat → Int) (wr : World) : Prop where
  t : Turn [g] w wr
  ar : AR wr g o n fr
  l : Rl a b f fr
  out : Out a b a' b' fr
  lo : Lo a' b' fr
  b1 : a ≤ a'
  b2 : a' ≤ b'
  b3 : b' ≤ b
theorem PS.start (h : AR w g o n f) (hab : a ≤ b) (hl : Lo a b f) : PS w g o n a b f a b f w :=
  ⟨Turn.refl _ _, h, Rl.refl _ _ _, fun i j h1 h2 h3 h4 => absurd ⟨h1, h3⟩ h4, hl, Nat.le_refl _, hab, Nat.le_refl _⟩
theorem PS.drewN (h : PS w g o n a b f a' b' fr wr) (q : Nat) : PS w g o n a b f a' b' fr (wr.drewN q) := ⟨h.t.drewN q, h.ar.drewN q, h.l, h.out, h.lo, h.b1, h.b2, h.b3⟩
theorem PS.drew (h : PS w g o n a b f a' b' fr wr) : PS w g o n a b f a' b' fr wr.drew := ⟨h.t.drew, h.ar.drew, h.l, h.out, h.lo, h.b1, h.b2, h.b3⟩
theorem PS.below (h : PS w g o n a b f a' b' fr wr) (hb : Below wr.heap.size wr w2) : PS w g o n a b f a' b' fr w2 := ⟨h.t.next (Turn.of_below hb), h.ar.below hb, h.l, h.out, h.lo, h.b1, h.b2, h.b3⟩
theorem PS.rl (h : PS w g o n a b f a' b' fr wr) (ht : Turn [g] wr w2) (ha : AR w2 g o n f2) (hl : Rl a' b' fr f2) : PS w g o n a b f a' b' f2 w2 :=
  ⟨h.t.next ht, ha, h.l.trans (hl.mono h.b1 h.b3), h.out.rl h.b1 h.b3 hl, h.lo.rl hl, h.b1, h.b2, h.b3⟩
theorem PS.done (h : PS w g o n a b f a' b' fr wr) (ht : Turn [g] wr w2) (ha : AR w2 g o n f2) (hl : Rl a' b' fr f2) (hs : Srt a' b' f2) : Turn [g] w w2 ∧ ∃ f', AR w2 g o n f' ∧ Rl a b f f' ∧ Srt a b f' := by
  have h2 := h.rl ht ha hl
  refine ⟨h2.t, f2, ha, h2.l, fun i j h1 h2' h3 => ?_⟩
  by_cases hij : a' ≤ i ∧ j < b'
  · exact hs i j hij.1 h2' hij.2
  · exact h2.out i j h1 h2' h3 hij
theorem PS.eq (h : PS w g o n a b f a' b' fr wr) (hp : PT wr g o n a' b' fr pv (pE pv) m j f2 w2) (hj : j + 1 = m) (ha0 : 0 < a') (hpv : ∀ z, z + 1 = a' → pv ≤ fr z) : PS w g o n a b f m b' f2 w2 := by
  have h2 := h.rl hp.t hp.r hp.l
  have q1 := hp.b1
  have q3 := hp.b3
  have up : ∀ k, a' ≤ k → k < m → f2 k ≤ pv := fun k k1 k2 => by
    by_cases e : k = a'
    · rw [e, hp.v]; exact Int.le_refl _
    · have := hp.lo k (by omega) k2
      unfold pE at this
      simp at this
      exact this
  have dn : ∀ k, a' ≤ k → k < b' → pv ≤ f2 k := fun k k1 k2 => by
    have h3 := h2.lo (a' - 1) k (by omega) k1 k2
    have h4 := hpv (a' - 1) (by omega)
    have h5 := hp.l.out (a' - 1) (by omega)
    rw [h5] at h3
    omega
  refine ⟨h2.t, hp.r, h2.l, fun i k h1 h3 h4 h5 => ?_, fun z k h1 h3 h4 => ?_, by have := h.b1; omega, by omega, h.b3⟩
  · by_cases hij : a' ≤ i ∧ k < b'
    · have := up i hij.1 (by omega)
      have := dn k (by omega) hij.2
      omega
    · exact h2.out i k h1 h3 h4 hij
  · have := up z (by omega) (by omega)
    have := dn k (by omega) h4
    omega
theorem PS.left (h : PS w g o n a b f a' b' fr wr) (hp : PD wr g o n a' b' fr pv m f2 w2) (ht : Turn [g] w2 w3) (ha : AR w3 g o n f3) (hl : Rl a' m f2 f3) (hs : Srt a' m f3) : PS w g o n a b f (m + 1) b' f3 w3 := by
  have q1 := hp.b1
  have q2 := hp.b2
  have hl3 := hp.l.trans (hl.mono (Nat.le_refl _) (Nat.le_of_lt q2))
  have h2 := h.rl (hp.t.next ht) ha hl3
  have hm : f3 m = pv := by rw [hl.out m (by omega)]; exact hp.v
  have up : ∀ k, a' ≤ k → k < m → f3 k ≤ pv := hl.all (p := fun x => x ≤ pv) hp.lo
  have dn : ∀ k, m < k → k < b' → pv ≤ f3 k := fun k k1 k2 => by rw [hl.out k (by omega)]; exact hp.hi k k1 k2
  refine ⟨h2.t, ha, h2.l, fun i k h1 h3 h4 h5 => ?_, fun z k h1 h3 h4 => ?_, by have := h.b1; omega, by omega, h.b3⟩
  · by_cases hij : a' ≤ i ∧ k < b'
    · have him : i ≤ m := by omega
      by_cases hkm : k < m
      · exact hs i k hij.1 h3 hkm
      · have h6 : f3 i ≤ pv := by
          by_cases e : i = m
          · rw [e, hm]; exact Int.le_refl _
          · exact up i hij.1 (by omega)
        have h7 : pv ≤ f3 k := by
          by_cases e : k = m
          · rw [e, hm]; exact Int.le_refl _
          · exact dn k (by omega) hij.2
        omega
    · exact h2.out i k h1 h3 h4 hij
  · have : z = m := by omega
    rw [this, hm]; exact dn k (by omega) h4
theorem PS.right (h : PS w g o n a b f a' b' fr wr) (hp : PD wr g o n a' b' fr pv m f2 w2) (ht : Turn [g] w2 w3) (ha : AR w3 g o n f3) (hl : Rl (m + 1) b' f2 f3) (hs : Srt (m + 1) b' f3) : PS w g o n a b f a' m f3 w3 := by
  have q1 := hp.b1
  have q2 := hp.b2
  have hl3 := hp.l.trans (hl.mono (by omega) (Nat.le_refl _))
  have h2 := h.rl (hp.t.next ht) ha hl3
  have hm : f3 m = pv := by rw [hl.out m (by omega)]; exact hp.v
  have up : ∀ k, a' ≤ k → k < m → f3 k ≤ pv := fun k k1 k2 => by rw [hl.out k (by omega)]; exact hp.lo k k1 k2
  have dn : ∀ k, m < k → k < b' → pv ≤ f3 k := fun k k1 k2 => hl.all (p := fun x => pv ≤ x) (fun k k1 k2 => hp.hi k (by omega) k2) k (by omega) k2
  refine ⟨h2.t, ha, h2.l, fun i k h1 h3 h4 h5 => ?_, fun z k h1 h3 h4 => h2.lo z k h1 h3 (by omega), h.b1, q1, by have := h.b3; omega⟩
  by_cases hij : a' ≤ i ∧ k < b'
  · by_cases him : m < i
    · exact hs i k (by omega) h3 hij.2
    · have h6 : f3 i ≤ pv := by
        by_cases e : i = m
        · rw [e, hm]; exact Int.le_refl _
        · exact up i hij.1 (by omega)
      have h7 : pv ≤ f3 k := by
        by_cases e : k = m
        · rw [e, hm]; exact Int.le_refl _
        · exact dn k (by omega) hij.2
      omega
  · exact h2.out i k h1 h3 h4 hij
theorem PD.lo_left (h : Lo a b fr) (hp : PD wr g o n a b fr pv m f2 w2) : Lo a m f2 := fun z k h1 h3 h4 => (h.rl hp.l) z k h1 h3 (by have := hp.b2; omega)
theorem PD.lo_right (hp : PD wr g o n a b fr pv m f2 w2) : Lo (m + 1) b f2 := fun z k h1 h3 h4 => by
  have : z = m := by omega
  rw [this, hp.v]; exact hp.hi k (by omega) h4
end
end Go.Proofs.Ytodionedjokdmaa
