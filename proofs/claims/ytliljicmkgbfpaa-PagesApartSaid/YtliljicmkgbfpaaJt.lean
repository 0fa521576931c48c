/- A range over an iterator that may be left early: what comes behind is told once. A counter beside it. -/
import Derived.Test.YtliljicmkgbfpaaJr
set_option linter.unusedVariables false
set_option linter.unusedSimpArgs false
namespace Go.Proofs.Ytliljicmkgbfpaa
open Go.RowKit Go.Shelf Pg
set_option linter.unusedVariables false
set_option linter.unusedSimpArgs false
theorem range_exit {P : Program} {α : Type} {g : Operand} {ps : Array Tmp} {assign body : Code} {Q : Exit → Act → World → Prop} {a : Act} {w : World} {n m : Nat} {gf : Nat} {lb : Array Value} (hg : a.eval g = .func (.func gf) #[] lb) (eg : ∀ args w, (callFunc gf args).run P w = .ok (.enter gf args) w)
    {encs : α → Array Value} {T0 : List Nat} {V : List Nat → List α → World → Prop} {Z : World → Prop} {xs : List α} (hit : Iter P gf lb encs T0 V Z xs) (hps : ∀ x, (encs x).size = ps.size)
    (I : List Nat → List α → World → Prop) (Ix : Code → List Nat → List α → World → Prop) (hI : Grows I) (hIx : ∀ c, Grows (Ix c)) (hV : ∀ T pre W, (∀ b ∈ T, b < W.heap.size) → I T pre W → V T pre W)
    (T : List Nat) (hT : ∀ b ∈ T, b < w.heap.size) (hT0 : ∀ b ∈ T0, b ∈ T) (hZ : ∀ W', Below w.heap.size w W' → Z W') (h0 : I T [] w)
    (hR : Round P m a.tmps ps assign body encs I Ix xs)
    (id : Nat) (hQ : ∀ a W, Q .normal a W → Q (.exit id) a W) (Rst : List Nat → World → Prop) (h1 : ∀ T X, I T xs X → Rst T X) (h2 : ∀ c T pre X, pre <+: xs → Ix c T pre X → c = .exit id ∧ Rst T X)
    (hrest : ∀ (D : Nat) (X : World), w.heap.size ≤ D → D < X.heap.size → D ∉ T → Rst (D :: T) X → X.heap[D]? = some (.deferred (some [])) → Same T w X → Q .normal { a with defers := { target := .collected D, args := #[] } :: a.defers } X) :
    (Code.rangeFunc g ps assign body).wpIn Fence.wide n P Q a w := by
  refine range_out (m := m) hg eg hit hps I Ix hI hIx hV T hT hT0 hZ h0 hR (fun D X h3 h4 h5 h6 h7 h8 => hrest D X h3 h4 h5 (h1 _ _ h6) h7 h8) (fun D c pre X h3 h4 h5 hp h6 h7 h8 => ?_)
  obtain ⟨rfl, hr⟩ := h2 c _ pre X hp h6
  exact wpIn_exit (hQ _ _ (hrest D X h3 h4 h5 hr h7 h8))
/-- A memory beside a counter in block N, and what doesn't turn. -/
def CR (W : World) (own1 : List Nat) (N R : Nat) (os : List Nat) (ds : List (List Nat)) (w3 : World) (TT : List Nat) (v : Int) (X : World) : Prop :=
  (∀ b ∈ TT, W.heap.size ≤ b) ∧ St W ((N :: own1) ++ TT) R os ds X ∧ (∀ b ∈ N :: own1, b ∉ TT) ∧ Same own1 w3 X ∧ X.heap[N]? = some (Obj.cells #[.int .i64 v] 3)
theorem CR.grow {W : World} {own1 : List Nat} {N R : Nat} {os : List Nat} {ds : List (List Nat)} {w3 : World} {T T' : List Nat} {v : Int} {w w' : World} (h : CR W own1 N R os ds w3 T v w) (ht : Turn T w w') (hn : New T T' w w') : CR W own1 N R os ds w3 T' v w' := by
  obtain ⟨h1, h2, h3, h6, h7⟩ := h
  have ho : ∀ b ∈ N :: own1, b < w.heap.size := fun b hb => h2.2.1 b (List.mem_append_left _ hb)
  have hs := same_turn ho h3 ht
  exact ⟨new_up h2.b h1 hn, h2.grow h1 ht hn, new_out ho h3 hn, h6.trans (fun b hb => hs b (List.mem_cons_of_mem _ hb)), (hs N (by simp)).trans h7⟩
theorem CR.set {W : World} {own1 : List Nat} {N R : Nat} {os : List Nat} {ds : List (List Nat)} {w3 : World} {T : List Nat} {v : Int} {w : World} (h : CR W own1 N R os ds w3 T v w) (hW : W.heap.size ≤ N) (ho : N ∉ own1) (u : Int) : CR W own1 N R os ds w3 T u (w.setCell ⟨N, 0, none⟩ (.int .i64 u)) ∧ Same T w (w.setCell ⟨N, 0, none⟩ (.int .i64 u)) := by
  obtain ⟨h1, h2, h3, h6, h7⟩ := h
  have hne : ∀ b, b ≠ N → (w.setCell ⟨N, 0, none⟩ (.int .i64 u)).heap[b]? = w.heap[b]? := fun b hb => Below.heap_setCell _ _ _ _ hb
  refine ⟨⟨h1, h2.set N 0 _ (by simp) hW, h3, fun b hb => ?_, ?_⟩, fun b hb => hne b (fun e => h3 N (by simp) (e ▸ hb))⟩
  · rw [hne b (fun e => ho (e ▸ hb))]; exact h6 b hb
  · have := heap_setCell_same w N 0 _ 3 (.int .i64 u) h7
    simpa using this
theorem CR.cells {W : World} {own1 : List Nat} {N R : Nat} {os : List Nat} {ds : List (List Nat)} {w3 : World} {T : List Nat} {v : Int} {w : World} (h : CR W own1 N R os ds w3 T v w) : w.cell? ⟨N, 0, none⟩ = some (.int .i64 v) ∧ w.frozen? ⟨N, 0, none⟩ = false :=
  ⟨by rw [cell_of_row _ _ 0 _ 3 (0, 0) h.2.2.2.2]; rfl, frozen_of_row _ _ 0 _ 3 h.2.2.2.2⟩
end Go.Proofs.Ytliljicmkgbfpaa
