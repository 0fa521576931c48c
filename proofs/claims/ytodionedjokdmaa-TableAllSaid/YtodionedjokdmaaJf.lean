/- Partitions: those that belong to the left, and the others. -/
import Derived.Test.YtodionedjokdmaaJe
set_option linter.unusedVariables false
set_option linter.unusedSimpArgs false
namespace Go.Proofs.Ytodionedjokdmaa
open Go.RowKit
set_option linter.unusedVariables false
set_option linter.unusedSimpArgs false
/-- What is ahead of i belongs to the left, what is behind j doesn't; the pivot is at a. -/
structure PT (w : World) (g o n a b : Nat) (f : Nat → Int) (pv : Int) (p : Int → Bool) (i j : Nat) (fr : Nat → Int) (wr : World) : Prop where
  t : Turn [g] w wr
  r : AR wr g o n fr
  l : Rl a b f fr
  v : fr a = pv
  lo : ∀ k, a < k → k < i → p (fr k) = true
  hi : ∀ k, j < k → k < b → p (fr k) = false
  b1 : a + 1 ≤ i
  b2 : i ≤ j + 1
  b3 : j < b
section
variable {w wr w' : World} {g o n a b i j : Nat} {f fr : Nat → Int} {pv : Int} {p : Int → Bool}
theorem PT.drewN (h : PT w g o n a b f pv p i j fr wr) (q : Nat) : PT w g o n a b f pv p i j fr (wr.drewN q) := ⟨h.t.drewN q, h.r.drewN q, h.l, h.v, h.lo, h.hi, h.b1, h.b2, h.b3⟩
theorem PT.drew (h : PT w g o n a b f pv p i j fr wr) : PT w g o n a b f pv p i j fr wr.drew := ⟨h.t.drew, h.r.drew, h.l, h.v, h.lo, h.hi, h.b1, h.b2, h.b3⟩
theorem PT.left (h : PT w g o n a b f pv p i j fr wr) (hij : i ≤ j) (hp : p (fr i) = true) : PT w g o n a b f pv p (i + 1) j fr wr :=
  ⟨h.t, h.r, h.l, h.v, fun k h1 h2 => by
    by_cases e : k = i
    · rw [e]; exact hp
    · exact h.lo k h1 (by omega), h.hi, by have := h.b1; omega, by omega, h.b3⟩
theorem PT.right (h : PT w g o n a b f pv p i j fr wr) {j1 : Nat} (hj : j = j1 + 1) (hij : i ≤ j) (hp : p (fr j) = false) : PT w g o n a b f pv p i j1 fr wr :=
  ⟨h.t, h.r, h.l, h.v, h.lo, fun k h1 h2 => by
    by_cases e : k = j
    · rw [e]; exact hp
    · exact h.hi k (by omega) h2, h.b1, by omega, by have := h.b3; omega⟩
theorem PT.swap (h : PT w g o n a b f pv p i j fr wr) (hn : b ≤ n) {j1 : Nat} (hj : j = j1 + 1) (hij : i < j) (hpi : p (fr i) = false) (hpj : p (fr j) = true) :
    PT w g o n a b f pv p (i + 1) j1 (swp fr i j) ((wr.setCell ⟨g, o + i, none⟩ (.int .u64 (fr j))).setCell ⟨g, o + j, none⟩ (.int .u64 (fr i))) := by
  have h1 := h.b1
  have h3 := h.b3
  refine ⟨h.t.next (turn_swap _ _ _ _ _ _), h.r.swap (by omega) (by omega), h.l.trans (Rl.swap fr ⟨by omega, by omega⟩ ⟨by omega, by omega⟩), by rw [swp_o fr (by omega) (by omega)]; exact h.v, fun k k1 k2 => ?_, fun k k1 k2 => ?_, by omega, by omega, by omega⟩
  · by_cases e : k = i
    · rw [e, swp_i]; exact hpj
    · rw [swp_o fr e (by omega)]; exact h.lo k k1 (by omega)
  · by_cases e : k = j
    · rw [e, swp_j]; exact hpi
    · rw [swp_o fr (by omega) e]; exact h.hi k (by omega) k2
/-- The pivot comes to a. -/
theorem PT.start (h : AR w g o n f) (q : Nat) {d : Nat} (hn : b ≤ n) (hab : a < b) (hd : a ≤ d ∧ d < b) (p : Int → Bool) {i j : Nat} (hi : a + 1 = i) (hj : j + 1 = b) :
    PT w g o n a b f (f d) p i j (swp f a d) (((w.drewN q).setCell ⟨g, o + a, none⟩ (.int .u64 (f d))).setCell ⟨g, o + d, none⟩ (.int .u64 (f a))) :=
  ⟨((Turn.refl _ w).drewN q).next (turn_swap _ _ _ _ _ _), (h.drewN q).swap (by omega) (by omega), Rl.swap f ⟨by omega, by omega⟩ ⟨by omega, by omega⟩, swp_i f a d, fun k h1 h2 => by omega, fun k h1 h2 => by omega, by omega, by omega, by omega⟩
end
end Go.Proofs.Ytodionedjokdmaa
