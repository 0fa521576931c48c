/- Rows of numbers that are sorted in place. -/
import Derived.Test.YtodionedjokdmaaVq
import Derived.Test.YtodionedjokdmaaVr
import Derived.StillTailTactics
import Derived.BigRegion
set_option linter.unusedVariables false
set_option linter.unusedSimpArgs false
namespace Go.Proofs.Ytodionedjokdmaa
open Go.RowKit
set_option linter.unusedVariables false
set_option linter.unusedSimpArgs false
section
variable {w w' : World} {g o n i j k : Nat} {f f' f'' : Nat → Int} {a b a' b' : Nat}
/-- n numbers from o on in block g. -/
def AR (w : World) (g o n : Nat) (f : Nat → Int) : Prop := ∃ cur, w.heap[g]? = some (Obj.cells cur 28) ∧ o + n ≤ cur.size ∧ ∀ k, k < n → cur[o + k]? = some (.int .u64 (f k))
theorem AR.cell (h : AR w g o n f) (hk : k < n) : w.cell? ⟨g, o + k, none⟩ = some (.int .u64 (f k)) := by
  obtain ⟨cur, h1, h2, h3⟩ := h
  rw [cell_of_row _ _ _ _ 28 (0, 0) h1]; exact h3 k hk
theorem AR.frozen (h : AR w g o n f) (x : Nat) : w.frozen? ⟨g, x, none⟩ = false := by
  obtain ⟨cur, h1, h2, h3⟩ := h
  exact frozen_of_row _ _ _ _ _ h1
theorem AR.lt (h : AR w g o n f) : g < w.heap.size := by
  obtain ⟨cur, h1, h2, h3⟩ := h
  exact (Array.getElem?_eq_some_iff.1 h1).1
theorem AR.same (h : AR w g o n f) (hs : w'.heap[g]? = w.heap[g]?) : AR w' g o n f := by
  obtain ⟨cur, h1, h2⟩ := h
  exact ⟨cur, by rw [hs]; exact h1, h2⟩
theorem AR.below (h : AR w g o n f) (hb : Below w.heap.size w w') : AR w' g o n f := h.same (hb.block g h.lt)
theorem AR.drew (h : AR w g o n f) : AR w.drew g o n f := h.same rfl
theorem AR.drewN (h : AR w g o n f) (q : Nat) : AR (w.drewN q) g o n f := h.same rfl
theorem set_other {x y : Nat} (h : x ≠ y) (W : World) (v : Value) : (W.setCell ⟨g, x, none⟩ v).cell? ⟨g, y, none⟩ = W.cell? ⟨g, y, none⟩ := World.cell?_setCell_other _ _ _ _ fun e => h (by injection e)
def swp (f : Nat → Int) (i j : Nat) : Nat → Int := fun k => if k = i then f j else if k = j then f i else f k
theorem AR.swap (h : AR w g o n f) (hi : i < n) (hj : j < n) : AR ((w.setCell ⟨g, o + i, none⟩ (.int .u64 (f j))).setCell ⟨g, o + j, none⟩ (.int .u64 (f i))) g o n (swp f i j) := by
  obtain ⟨cur, h1, h2, h3⟩ := h
  have e1 := heap_setCell_same w g (o + i) cur 28 (.int .u64 (f j)) h1
  have e2 := heap_setCell_same _ g (o + j) _ 28 (.int .u64 (f i)) e1
  refine ⟨_, e2, by simpa using h2, fun k hk => ?_⟩
  have hsz : ∀ x, x < n → o + x < cur.size := fun x hx => by omega
  have := hsz i hi
  have := hsz j hj
  have := hsz k hk
  unfold swp
  by_cases ekj : k = j
  · subst ekj
    rw [Array.getElem?_setIfInBounds_self_of_lt (by simpa using hsz k hk)]
    by_cases eki : k = i
    · subst eki; rw [if_pos rfl]
    · rw [if_neg eki, if_pos rfl]
  · rw [Array.getElem?_setIfInBounds_ne (by omega)]
    by_cases eki : k = i
    · subst eki
      rw [Array.getElem?_setIfInBounds_self_of_lt (hsz k hk), if_pos rfl]
    · rw [Array.getElem?_setIfInBounds_ne (by omega), if_neg eki, if_neg ekj]
      exact h3 k hk
theorem turn_swap (w : World) (g x y : Nat) (u v : Value) : Turn [g] w ((w.setCell ⟨g, x, none⟩ u).setCell ⟨g, y, none⟩ v) :=
  (Turn.set w g x u).trans (Turn.set _ g y v) fun z hz => .inl hz
theorem Turn.next {S : List Nat} {w1 w2 w3 : World} (h : Turn S w1 w2) (h' : Turn S w2 w3) : Turn S w1 w3 := h.trans h' fun _ hx => .inl hx
theorem Turn.drewN {S : List Nat} {w1 w2 : World} (h : Turn S w1 w2) (q : Nat) : Turn S w1 (w2.drewN q) := ⟨h.os, h.tape, h.output, h.size, h.block⟩
theorem Turn.drew {S : List Nat} {w1 w2 : World} (h : Turn S w1 w2) : Turn S w1 w2.drew := ⟨h.os, h.tape, h.output, h.size, h.block⟩
/-- What stands in [a, b) is what stood there. -/
structure Rl (a b : Nat) (f f' : Nat → Int) : Prop where
  out : ∀ k, k < a ∨ b ≤ k → f' k = f k
  new : ∀ k, a ≤ k → k < b → ∃ j, a ≤ j ∧ j < b ∧ f' k = f j
  old : ∀ k, a ≤ k → k < b → ∃ j, a ≤ j ∧ j < b ∧ f k = f' j
theorem Rl.refl (a b : Nat) (f : Nat → Int) : Rl a b f f := ⟨fun _ _ => rfl, fun k h1 h2 => ⟨k, h1, h2, rfl⟩, fun k h1 h2 => ⟨k, h1, h2, rfl⟩⟩
theorem Rl.trans (h : Rl a b f f') (h' : Rl a b f' f'') : Rl a b f f'' :=
  ⟨fun k hk => (h'.out k hk).trans (h.out k hk), fun k h1 h2 => by
    obtain ⟨j, j1, j2, e⟩ := h'.new k h1 h2
    obtain ⟨i, i1, i2, e'⟩ := h.new j j1 j2
    exact ⟨i, i1, i2, e.trans e'⟩, fun k h1 h2 => by
    obtain ⟨j, j1, j2, e⟩ := h.old k h1 h2
    obtain ⟨i, i1, i2, e'⟩ := h'.old j j1 j2
    exact ⟨i, i1, i2, e.trans e'⟩⟩
theorem Rl.mono (h : Rl a b f f') (ha : a' ≤ a) (hb : b ≤ b') : Rl a' b' f f' :=
  ⟨fun k hk => h.out k (by omega), fun k h1 h2 => by
    by_cases hk : a ≤ k ∧ k < b
    · obtain ⟨j, j1, j2, e⟩ := h.new k hk.1 hk.2
      exact ⟨j, by omega, by omega, e⟩
    · exact ⟨k, h1, h2, h.out k (by omega)⟩, fun k h1 h2 => by
    by_cases hk : a ≤ k ∧ k < b
    · obtain ⟨j, j1, j2, e⟩ := h.old k hk.1 hk.2
      exact ⟨j, by omega, by omega, e⟩
    · exact ⟨k, h1, h2, (h.out k (by omega)).symm⟩⟩
theorem swp_i (f : Nat → Int) (i j : Nat) : swp f i j i = f j := by unfold swp; rw [if_pos rfl]
theorem swp_j (f : Nat → Int) (i j : Nat) : swp f i j j = f i := by
  unfold swp; split
  · rename_i h; rw [h]
  · rw [if_pos rfl]
theorem swp_o (f : Nat → Int) {i j k : Nat} (h1 : k ≠ i) (h2 : k ≠ j) : swp f i j k = f k := by unfold swp; rw [if_neg h1, if_neg h2]
theorem Rl.swap (f : Nat → Int) (hi : a ≤ i ∧ i < b) (hj : a ≤ j ∧ j < b) : Rl a b f (swp f i j) :=
  ⟨fun k hk => swp_o f (by omega) (by omega), fun k h1 h2 => by
    by_cases e1 : k = i
    · subst e1; exact ⟨j, hj.1, hj.2, swp_i f k j⟩
    · by_cases e2 : k = j
      · subst e2; exact ⟨i, hi.1, hi.2, swp_j f i k⟩
      · exact ⟨k, h1, h2, swp_o f e1 e2⟩, fun k h1 h2 => by
    by_cases e1 : k = i
    · subst e1; exact ⟨j, hj.1, hj.2, (swp_j f k j).symm⟩
    · by_cases e2 : k = j
      · subst e2; exact ⟨i, hi.1, hi.2, (swp_i f i k).symm⟩
      · exact ⟨k, h1, h2, (swp_o f e1 e2).symm⟩⟩
theorem Rl.all {p : Int → Prop} (h : Rl a b f f') (hp : ∀ k, a ≤ k → k < b → p (f k)) : ∀ k, a ≤ k → k < b → p (f' k) := fun k h1 h2 => by
  obtain ⟨j, j1, j2, e⟩ := h.new k h1 h2
  rw [e]; exact hp j j1 j2
/-- They rise from a to b. -/
def Srt (a b : Nat) (f : Nat → Int) : Prop := ∀ i j, a ≤ i → i < j → j < b → f i ≤ f j
/-- All but the one at j rise from a to i; what is behind j is not below it. -/
def Ins (a i j : Nat) (f : Nat → Int) : Prop := (∀ p q, a ≤ p → p < q → q ≤ i → p ≠ j → q ≠ j → f p ≤ f q) ∧ ∀ q, j < q → q ≤ i → f j ≤ f q
theorem Ins.start (h : Srt a i f) : Ins a i i f := ⟨fun p q h1 h2 h3 h4 h5 => h p q h1 h2 (by omega), fun q h1 h2 => by omega⟩
theorem Ins.step (h : Ins a i (j + 1) f) (ha : a ≤ j) (hi : j + 1 ≤ i) (hl : f (j + 1) < f j) : Ins a i j (swp f (j + 1) j) := by
  refine ⟨fun p q h1 h2 h3 h4 h5 => ?_, fun q h1 h2 => ?_⟩
  · by_cases ep : p = j + 1
    · subst ep
      rw [swp_i, swp_o f (by omega) (by omega)]
      exact h.1 j q ha (by omega) h3 (by omega) (by omega)
    · rw [swp_o f ep h4]
      by_cases eq : q = j + 1
      · subst eq
        rw [swp_i]
        exact h.1 p j h1 (by omega) (by omega) ep (by omega)
      · rw [swp_o f eq h5]
        exact h.1 p q h1 h2 h3 ep eq
  · rw [swp_j]
    by_cases eq : q = j + 1
    · subst eq; rw [swp_i]; omega
    · rw [swp_o f eq (by omega)]; exact h.2 q (by omega) h2
theorem Ins.stop (h : Ins a i j f) (hj : a ≤ j ∧ j ≤ i) (hl : j = a ∨ ∃ p, j = p + 1 ∧ ¬ f j < f p) : Srt a (i + 1) f := fun p q h1 h2 h3 => by
  by_cases eq : q = j
  · subst eq
    rcases hl with rfl | ⟨y, rfl, hl⟩
    · omega
    · by_cases ep : p = y
      · subst ep; omega
      · have := h.1 p y h1 (by omega) (by omega) (by omega) (by omega)
        omega
  · by_cases ep : p = j
    · subst ep; exact h.2 q h2 (by omega)
    · exact h.1 p q h1 h2 (by omega) ep eq
end
theorem nan_any (x : Int) (w : World) : Calls Try.prog 72 #[.int .u64 x] w fun e w' => e = .returned (.bool false) ∧ w' = w := by
  go_enter Try.func72, Try.ntmps72
  go_wp2_with fail
  go_ret
  exact ⟨by simp, rfl⟩
theorem less_any (x y : Int) (w : World) : Calls Try.prog 62 #[.int .u64 x, .int .u64 y] w fun e w' => e = .returned (.bool (decide (x < y))) ∧ w' = w := by
  have C := Lib.hid nan_any
  obtain ⟨q, eq⟩ : ∃ q, decide (x < y) = q := ⟨_, rfl⟩
  rw [eq]
  go_enter Try.func62, Try.ntmps62
  go_wp2_with fail
  refine (C.out _ _).mono ?_; rintro e w1 ⟨rfl, rfl⟩
  go_wp2_with fail
  go_ret
  exact ⟨rfl, rfl⟩
end Go.Proofs.Ytodionedjokdmaa
