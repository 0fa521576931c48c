/- WaitsAlerts: the law's state: alerts, the law's own list, and a list that was given. -/
import Derived.Test.YtdkmddljdggbpaaAb
import Derived.BigQuiet
set_option linter.unusedVariables false
set_option linter.unusedSimpArgs false
namespace Go.Proofs.Ytdkmddljdggbpaa
open Go.RowKit
set_option linter.unusedVariables false
set_option linter.unusedSimpArgs false
theorem u64_and1 (n : Int) : bits .and .u64 n 1 = n % 2 := by
  have h127 : (BitVec.ofInt 64 1).toNat = 2 ^ 1 - 1 := by decide
  have key : (BitVec.ofInt 64 n &&& BitVec.ofInt 64 1).toNat = (n % ((2 ^ 64 : Nat) : Int)).toNat % 2 ^ 1 := by
    rw [BitVec.toNat_and, BitVec.toNat_ofInt, h127, Nat.and_two_pow_sub_one_eq_mod]
  show IntKind.u64.wrap ((BitVec.ofInt 64 n &&& BitVec.ofInt 64 1).toNat : Nat) = n % 2
  rw [key, IntKind.wrap_u64]
  omega
theorem uand1 (n : Int) : ∃ m : Nat, bits .and .u64 n 1 = (m : Int) ∧ m < 2 := ⟨(n % 2).toNat, by rw [u64_and1]; omega, by omega⟩
variable {W w w' : World} {b i n c : Nat} {q q' p p' : List Nat} {v v' : Value} {A : Option Addr}
/-- The alerts hold q, the law's own list p. -/
structure WS (W : World) (b : Nat) (q p : List Nat) (v : Value) (w : World) : Prop where
  hw : Below W.heap.size W w
  hb : W.heap.size ≤ b
  ha : AV w b q
  hl : RW (fun g => W.heap.size ≤ g) 22 inU w v p
theorem AV.not {g : Nat} {cur : Array Value} (h : AV w b q) (hg : w.heap[g]? = some (Obj.cells cur 22)) : g ≠ b := fun e => by
  rw [e, h.1] at hg
  simp at hg
theorem RW.below {α : Type} {e : TypeId} {enc : α → Value} {own : Nat → Prop} {xs : List α} (h : RW own e enc w v xs) (hb : Below w.heap.size w w') : RW own e enc w' v xs :=
  h.keep fun g cur ho hc => ⟨ho, hb.block g (Array.getElem?_eq_some_iff.1 hc).1⟩
theorem WS.below (h : WS W b q p v w) (hb : Below w.heap.size w w') : WS W b q p v w' := ⟨below_up h.hw hb, h.hb, h.ha.below hb, h.hl.below hb⟩
theorem WS.turn (h : WS W b q p v w) (ht : Turn [b] w w') (ha : AV w' b q') : WS W b q' p v w' :=
  ⟨h.hw.trans (ht.below h.hw.size fun g hg => by rw [List.mem_singleton.1 hg]; exact h.hb), h.hb, ha, h.hl.keep fun g cur ho hc => ⟨ho, ht.block g (Array.getElem?_eq_some_iff.1 hc).1 (by simpa using h.ha.not hc)⟩⟩
theorem WS.list {S : List Nat} (h : WS W b q p v w) (ht : Turn S w w') (hS : ∀ g ∈ S, W.heap.size ≤ g ∧ ∃ cur, w.heap[g]? = some (Obj.cells cur 22)) (hr : RW (fun g => W.heap.size ≤ g ∨ w.heap.size ≤ g) 22 inU w' v' p') : WS W b q p' v' w' :=
  ⟨h.hw.trans (ht.below h.hw.size fun g hg => (hS g hg).1), h.hb, h.ha.turn ht fun hm => by obtain ⟨_, cur, hc⟩ := hS b hm; exact h.ha.not hc rfl,
    hr.keep fun g cur ho hc => ⟨by rcases ho with ho | ho; exact ho; exact Nat.le_trans h.hw.size ho, rfl⟩⟩
/-- A list that was given, at A, is q from i on. -/
structure GS (W : World) (b : Nat) (q : List Nat) (v : Value) (A : Option Addr) (i : Nat) (w : World) : Prop where
  hw : Below W.heap.size W w
  hb : W.heap.size ≤ b
  ha : AV w b q
  hl : RW (fun g => W.heap.size ≤ g ∧ ∀ o, A ≠ some ⟨g, o, none⟩) 22 inU w v q
  hg : ∀ (j x : Nat), i ≤ j → q[j]? = some x → ∃ G o cur, A = some ⟨G, o, none⟩ ∧ W.heap.size ≤ G ∧ w.heap[G]? = some (Obj.cells cur 22) ∧ cur[o + j]? = some (inU x)
theorem GS.start (h : WS W b q q v w) (hb : Below w.heap.size w w') (hr : RW (fun g => w.heap.size ≤ g) 22 inU w' (.slice A n c) q) : GS W b q v A 0 w' := by
  have h2 := h.below hb
  refine ⟨h2.hw, h2.hb, h2.ha, h.hl.keep fun g cur ho hc => ?_, fun j x _ hx => ?_⟩
  · have hg := (Array.getElem?_eq_some_iff.1 hc).1
    refine ⟨⟨ho, fun o e => ?_⟩, hb.block g hg⟩
    subst e
    rcases hr with ⟨_, e⟩ | ⟨g', o', cap, cur', e1, h3, _⟩
    · cases e
    · injection e1 with e1
      injection e1 with e1
      injection e1 with e1
      omega
  · rcases hr with ⟨e, _⟩ | ⟨g', o', cap, cur', e1, h3, h4, _, _, _, h7⟩
    · subst e; simp at hx
    · injection e1 with e1 e2 e3
      exact ⟨g', o', cur', e1, Nat.le_trans h.hw.size h3, h4, h7 j x hx⟩
theorem GS.back (h : GS W b q v A i w) : WS W b q q v w := ⟨h.hw, h.hb, h.ha, h.hl.keep fun g cur ho hc => ⟨ho.1, rfl⟩⟩
theorem GS.below (h : GS W b q v A i w) (hb : Below w.heap.size w w') : GS W b q v A i w' :=
  ⟨below_up h.hw hb, h.hb, h.ha.below hb, h.hl.below hb, fun j x hj hx => by
    obtain ⟨G, o, cur, h1, h2, h3, h4⟩ := h.hg j x hj hx
    exact ⟨G, o, cur, h1, h2, (hb.block G (Array.getElem?_eq_some_iff.1 h3).1).trans h3, h4⟩⟩
theorem GS.step {x G o : Nat} (h : GS W b q v (some ⟨G, o, none⟩) i w) (hi : q[i]? = some x) (u : Value) : GS W b q v (some ⟨G, o, none⟩) (i + 1) (w.setCell ⟨G, o + i, none⟩ u) := by
  obtain ⟨G', o', cur, e1, h2, h3, h4⟩ := h.hg i x (Nat.le_refl _) hi
  injection e1 with e1
  injection e1 with e1 e2
  subst e1 e2
  have ht := Turn.set w G (o + i) u
  refine ⟨h.hw.trans (ht.below h.hw.size fun g hg => by rw [List.mem_singleton.1 hg]; exact h2), h.hb, h.ha.turn ht (by simpa using fun e => h.ha.not h3 e.symm), h.hl.keep fun g cur' ho hc => ⟨ho, ht.block g (Array.getElem?_eq_some_iff.1 hc).1 (fun hm => ho.2 o (by rw [List.mem_singleton.1 hm]))⟩, fun j y hj hy => ?_⟩
  obtain ⟨G', o', cur', e1, k2, k3, k4⟩ := h.hg j y (by omega) hy
  injection e1 with e1
  injection e1 with e1 e2
  subst e1 e2
  rw [h3] at k3
  injection k3 with k3
  injection k3 with k3 _
  subst k3
  exact ⟨G, o, _, rfl, h2, heap_setCell_same _ _ _ _ _ _ h3, by rw [Array.getElem?_setIfInBounds_ne (by omega)]; exact k4⟩
/-- What stands at i in the list that was given. -/
theorem GS.at_ {x : Nat} (h : GS W b q v A i w) (hi : q[i]? = some x) : ∃ G o, A = some ⟨G, o, none⟩ ∧ w.cell? ⟨G, o + i, none⟩ = some (.int .u64 (x : Int)) ∧ w.frozen? ⟨G, o + i, none⟩ = false := by
  obtain ⟨G, o, cur, e1, h2, h3, h4⟩ := h.hg i x (Nat.le_refl _) hi
  exact ⟨G, o, e1, by rw [cell_of_row _ _ _ _ _ (0, 0) h3]; exact h4, frozen_of_row _ _ _ _ _ h3⟩
end Go.Proofs.Ytdkmddljdggbpaa
