/- A region that draws its order and makes variables of seeds' labels. -/
import Derived.Test.YtmbdglhihakkjaaQk
import Derived.Test.YtmbdglhihakkjaaSo
set_option linter.unusedVariables false
set_option linter.unusedSimpArgs false
namespace Lab
/-- A category that a seed may name. -/
def Few (P : List (Nat × Int)) : Prop := ∀ p ∈ P, p.1 % 3 = 1 ∧ p.1 ≤ 34
theorem seed_lvl (x : Int) : 0 ≤ (x.tmod 5 + 5).tmod 5 ∧ (x.tmod 5 + 5).tmod 5 ≤ 4 := by
  have h1 : x.tmod 5 < 5 := Int.tmod_lt_of_pos x (by omega)
  have h2 : -5 < x.tmod 5 := Int.lt_tmod_of_pos x (by omega)
  rw [Int.tmod_eq_emod_of_nonneg (by omega)]
  omega
theorem sown_to {D : Int} (ls : List Int) : ∀ k, Sown D k (sowTo D ls k) ∧ Few (sowTo D ls k)
  | 0 => ⟨sown_nil D, fun p h => by cases h⟩
  | k + 1 => by
    have ih := sown_to (D := D) ls k
    unfold sowTo
    cases ls[k]? with
    | none => simp only [List.append_nil]; exact ⟨sown_skip ih.1, ih.2⟩
    | some x =>
      simp only [sow1]
      by_cases h : k < 12 ∧ (x.tmod 5 + 5).tmod 5 ≠ D
      · rw [if_pos h]
        refine ⟨sown_add ih.1 h.1 (seed_lvl x).1 (seed_lvl x).2 h.2, fun p hp => ?_⟩
        rcases List.mem_append.1 hp with hp | hp
        · exact ih.2 p hp
        · simp at hp; subst hp; simp only; omega
      · rw [if_neg h, List.append_nil]; exact ⟨sown_skip ih.1, ih.2⟩
theorem fine_seed (S : Int) (ls : List Int) : Fine (seedD S) (seedP S ls) ∧ Few (seedP S ls) := by
  have h := sown_to (D := seedD S) ls ls.length
  unfold seedP
  exact ⟨⟨h.1.1, by unfold seedD; omega, by unfold seedD; omega, fun p hp => by have := h.1.2.1 p hp; omega, h.1.2.2.2⟩, h.2⟩
end Lab
namespace Go.Proofs.Ytmbdglhihakkjaa
open Go.RowKit
set_option linter.unusedVariables false
set_option linter.unusedSimpArgs false
theorem seed_m (S : Int) (a : Option Addr) (n c : Nat) (ls : List Int) (w : World) (h : IntsL w (.slice a n c) ls) : Calls Try.prog 12 #[.agg #[.int .i64 S, .slice a n c]] w (LM 12 w (Lab.seedD S) (Lab.seedP S ls)) :=
  (seed_is S _ ls w h).mono fun e w' ⟨v, h1, h2, h3, h4⟩ => by
    obtain ⟨a, n, c, rfl⟩ := slice_form h3
    exact ⟨a, n, c, h1, ⟨h2.1, ⟨h2.2.2.2.2, by omega⟩, h3⟩, h4⟩
/-- A call's label, in memory laid since X. -/
def CV (X w : World) (D : Int) (P : LP) (y : Value) : Prop := ∃ a n c, y = .agg #[.int .i64 D, .slice a n c] ∧ LO 12 X.heap.size w D a n c P
/-- Two of them. -/
def BV (X w : World) (D : Int) (P : LP) (E : Int) (Q : LP) (y : Value) : Prop := ∃ a n c b m d, y = .agg #[.int .i64 D, .slice a n c, .int .i64 E, .slice b m d] ∧ LO 12 X.heap.size w D a n c P ∧ LO 12 X.heap.size w E b m d Q
/-- A new variable of one label, of two. -/
def N2 (X w : World) (T : TypeId) (p : Value) : Prop := ∃ A, p = .pointer (some ⟨A, 0, none⟩) ∧ X.heap.size ≤ A ∧ ∃ x u, w.heap[A]? = some (Obj.cells #[x, u] T)
def N4 (X w : World) (T : TypeId) (p : Value) : Prop := ∃ A, p = .pointer (some ⟨A, 0, none⟩) ∧ X.heap.size ≤ A ∧ ∃ x y z u, w.heap[A]? = some (Obj.cells #[x, y, z, u] T)
/-- A variable that holds a value. -/
def HV (w : World) (T : TypeId) (p y : Value) : Prop := ∃ A cs, p = .pointer (some ⟨A, 0, none⟩) ∧ y = .agg cs ∧ w.heap[A]? = some (Obj.cells cs T)
/-- All blocks but one are as they were. -/
def But (A : Nat) (w w' : World) : Prop := ∀ B, B ≠ A → w'.heap[B]? = w.heap[B]?
section
variable {X w w' : World} {D E : Int} {P Q : LP} {y p q : Value} {T T2 : TypeId} {A : Nat} {cs : Array Value}
theorem CV.below (h : CV X w D P y) (hb : Below w.heap.size w w') : CV X w' D P y := by
  obtain ⟨a, n, c, h1, h2⟩ := h; exact ⟨a, n, c, h1, h2.below hb⟩
theorem BV.below (h : BV X w D P E Q y) (hb : Below w.heap.size w w') : BV X w' D P E Q y := by
  obtain ⟨a, n, c, b, m, d, h1, h2, h3⟩ := h; exact ⟨a, n, c, b, m, d, h1, h2.below hb, h3.below hb⟩
theorem N2.below (h : N2 X w T p) (hb : Below w.heap.size w w') : N2 X w' T p := by
  obtain ⟨A, h1, h2, x, u, h3⟩ := h; exact ⟨A, h1, h2, x, u, block_below h3 hb⟩
theorem N4.below (h : N4 X w T p) (hb : Below w.heap.size w w') : N4 X w' T p := by
  obtain ⟨A, h1, h2, x, y, z, u, h3⟩ := h; exact ⟨A, h1, h2, x, y, z, u, block_below h3 hb⟩
theorem HV.below (h : HV w T p y) (hb : Below w.heap.size w w') : HV w' T p y := by
  obtain ⟨A, cs, h1, h2, h3⟩ := h; exact ⟨A, cs, h1, h2, block_below h3 hb⟩
theorem CV.set2 (h : CV X w D P y) (hA : w.heap[A]? = some (Obj.cells cs T)) (hT : T ≠ 61) (u v : Value) : CV X (set2 w A u v) D P y := by
  obtain ⟨a, n, c, h1, h2⟩ := h; exact ⟨a, n, c, h1, h2.set2 hA hT u v⟩
theorem CV.set4 (h : CV X w D P y) (hA : w.heap[A]? = some (Obj.cells cs T)) (hT : T ≠ 61) (u v x z : Value) : CV X (set4 w A u v x z) D P y := by
  obtain ⟨a, n, c, h1, h2⟩ := h; exact ⟨a, n, c, h1, h2.set4 hA hT u v x z⟩
theorem BV.set4 (h : BV X w D P E Q y) (hA : w.heap[A]? = some (Obj.cells cs T)) (hT : T ≠ 61) (u v x z : Value) : BV X (set4 w A u v x z) D P E Q y := by
  obtain ⟨a, n, c, b, m, d, h1, h2, h3⟩ := h; exact ⟨a, n, c, b, m, d, h1, h2.set4 hA hT u v x z, h3.set4 hA hT u v x z⟩
theorem but_set2 (w : World) (A : Nat) (u v : Value) : But A w (set2 w A u v) := fun B hB => by
  rw [heap_setCell_other _ _ _ _ (by simpa using fun e => hB e), heap_setCell_other _ _ _ _ (by simpa using fun e => hB e)]
theorem but_set4 (w : World) (A : Nat) (u v x z : Value) : But A w (set4 w A u v x z) := fun B hB => by
  rw [heap_setCell_other _ _ _ _ (by simpa using fun e => hB e), heap_setCell_other _ _ _ _ (by simpa using fun e => hB e), heap_setCell_other _ _ _ _ (by simpa using fun e => hB e), heap_setCell_other _ _ _ _ (by simpa using fun e => hB e)]
theorem ptr_ne {B : Nat} (h : Value.pointer (some ⟨B, 0, none⟩) ≠ .pointer (some ⟨A, 0, none⟩)) : B ≠ A := fun e => h (by rw [e])
theorem N2.but (h : N2 X w T p) (hb : But A w w') (hne : p ≠ .pointer (some ⟨A, 0, none⟩)) : N2 X w' T p := by
  obtain ⟨B, rfl, h2, x, u, h3⟩ := h; exact ⟨B, rfl, h2, x, u, by rw [hb B (ptr_ne hne)]; exact h3⟩
theorem N4.but (h : N4 X w T p) (hb : But A w w') (hne : p ≠ .pointer (some ⟨A, 0, none⟩)) : N4 X w' T p := by
  obtain ⟨B, rfl, h2, x, y, z, u, h3⟩ := h; exact ⟨B, rfl, h2, x, y, z, u, by rw [hb B (ptr_ne hne)]; exact h3⟩
theorem HV.but (h : HV w T p y) (hb : But A w w') (hne : p ≠ .pointer (some ⟨A, 0, none⟩)) : HV w' T p y := by
  obtain ⟨B, cs, rfl, h2, h3⟩ := h; exact ⟨B, cs, rfl, h2, by rw [hb B (ptr_ne hne)]; exact h3⟩
theorem N2.new (X w : World) (x u : Value) (h : X.heap.size ≤ w.heap.size) : N2 X (w.alloc (Obj.cells #[x, u] T)) T (.pointer (some ⟨w.heap.size, 0, none⟩)) := ⟨_, rfl, h, x, u, heap_alloc_new w _⟩
theorem N4.new (X w : World) (x y z u : Value) (h : X.heap.size ≤ w.heap.size) : N4 X (w.alloc (Obj.cells #[x, y, z, u] T)) T (.pointer (some ⟨w.heap.size, 0, none⟩)) := ⟨_, rfl, h, x, y, z, u, heap_alloc_new w _⟩
theorem N2.lt (h : N2 X w T p) : p ≠ .pointer (some ⟨w.heap.size, 0, none⟩) := by
  obtain ⟨B, rfl, h2, x, u, h3⟩ := h
  intro e; simp at e; have := (Array.getElem?_eq_some_iff.1 h3).1; omega
theorem N4.lt (h : N4 X w T p) : p ≠ .pointer (some ⟨w.heap.size, 0, none⟩) := by
  obtain ⟨B, rfl, h2, x, y, z, u, h3⟩ := h
  intro e; simp at e; have := (Array.getElem?_eq_some_iff.1 h3).1; omega
end
end Go.Proofs.Ytmbdglhihakkjaa
