/- TicketRuns: the law's state. -/
import Derived.Test.YtogbidkkdhhllaaVi
import Derived.BigQuiet
set_option linter.unusedVariables false
set_option linter.unusedSimpArgs false
namespace Tk
/-- Where the law has found x among the first k: nowhere, or at j. -/
def At (us : List Nat) (x k : Nat) (a : Int) : Prop := (a = -1 ∧ ∀ j, j < k → us[j]? ≠ some x) ∨ ∃ j : Nat, j < k ∧ us[j]? = some x ∧ a = (j : Int)
theorem At.ix {us : List Nat} {x : Nat} {a : Int} (h : At us x us.length a) (hn : us.Nodup) : (a = -1 ∧ x ∉ us) ∨ ∃ j : Nat, x ∈ us ∧ us.idxOf x = j ∧ j < us.length ∧ a = (j : Int) := by
  rcases h with ⟨h1, h2⟩ | ⟨j, h1, h2, h3⟩
  · exact .inl ⟨h1, not_mem_of h2⟩
  · refine .inr ⟨j, List.mem_of_getElem? h2, idx_eq h2 fun i hi e => ?_, h1, h3⟩
    have h4 : us[i]? = us[j]? := by rw [e, h2]
    have := (List.getElem?_inj (by omega) hn).1 h4
    omega
theorem jq_nodup {us : List Nat} {x : Nat} (h : us.Nodup) : (jq us x).Nodup := by
  unfold jq
  split
  · exact h
  · rename_i hn
    rw [List.nodup_append]
    refine ⟨h, by simp, fun a ha b hb e => ?_⟩
    have : b = x := by simpa using hb
    subst this
    subst e
    exact hn (.inr ha)
end Tk
namespace Go.Proofs.Ytogbidkkdhhllaa
open Go.RowKit Tk
set_option linter.unusedVariables false
set_option linter.unusedSimpArgs false
variable {W w w' : World} {L : Nat} {T T' : List Nat} {us us' : List Nat} {n n' : Nat} {v v' : Value}
/-- The lock, and the law's own list beside it. -/
structure QS (W : World) (L : Nat) (T : List Nat) (us : List Nat) (n : Nat) (v : Value) (w : World) : Prop where
  b : Below W.heap.size W w
  l : W.heap.size ≤ L
  t : ∀ b ∈ T, W.heap.size ≤ b ∧ b < w.heap.size
  m : LM (fun b => b ∉ T) w L us n
  q : RW (fun b => b ∈ T) 25 enU w v us
/-- The lock has moved on, the list has not. -/
structure QH (W : World) (L : Nat) (T : List Nat) (us : List Nat) (n : Nat) (v : Value) (us' : List Nat) (w : World) : Prop where
  b : Below W.heap.size W w
  l : W.heap.size ≤ L
  t : ∀ b ∈ T, W.heap.size ≤ b ∧ b < w.heap.size
  m : LM (fun b => b ∉ T) w L us n
  q : RW (fun b => b ∈ T) 25 enU w v us'
theorem QH.same (h : QH W L T us n v us w) : QS W L T us n v w := ⟨h.b, h.l, h.t, h.m, h.q⟩
theorem QS.half (h : QS W L T us n v w) : QH W L T us n v us w := ⟨h.b, h.l, h.t, h.m, h.q⟩
theorem QS.lock (h : QS W L T us n v w) (hT : Turn [L] w w') (hm : LM (fun b => b ∉ T ∨ w.heap.size ≤ b) w' L us' n') : QH W L T us' n' v us w' :=
  ⟨h.b.trans (hT.below h.b.size fun b hb => by rw [List.mem_singleton.1 hb]; exact h.l), h.l, fun b hb => ⟨(h.t b hb).1, Nat.lt_of_lt_of_le (h.t b hb).2 hT.size⟩,
    hm.keep rfl fun b cur hb _ => ⟨by
      rcases hb with hb | hb
      · exact hb
      · exact fun hm => by have := (h.t b hm).2; omega, rfl⟩,
    h.q.keep fun b cur hb hc => ⟨hb, hT.block b (h.t b hb).2 fun hm => by
      obtain ⟨v, h1, _⟩ := h.m
      rw [List.mem_singleton.1 hm, h1] at hc
      simp at hc⟩⟩
theorem QS.below (h : QS W L T us n v w) (hb : Below w.heap.size w w') : QS W L T us n v w' :=
  ⟨h.b.trans (hb.mono h.b.size), h.l, fun b hm => ⟨(h.t b hm).1, Nat.lt_of_lt_of_le (h.t b hm).2 hb.size⟩, h.m.below hb, h.q.keep fun b cur ho hc => ⟨ho, hb.block b (h.t b ho).2⟩⟩
theorem QH.below (h : QH W L T us n v us' w) (hb : Below w.heap.size w w') : QH W L T us n v us' w' :=
  ⟨h.b.trans (hb.mono h.b.size), h.l, fun b hm => ⟨(h.t b hm).1, Nat.lt_of_lt_of_le (h.t b hm).2 hb.size⟩, h.m.below hb, h.q.keep fun b cur ho hc => ⟨ho, hb.block b (h.t b ho).2⟩⟩
/-- The list has moved on, too. -/
theorem QH.list {S : List Nat} (h : QH W L T us n v us' w) (hT : Turn S w w') (hS : ∀ b ∈ S, b ∈ T ∧ ∃ cur, w.heap[b]? = some (Obj.cells cur 25)) (hr : RW (fun b => b ∈ T ∨ w.heap.size ≤ b) 25 enU w' v' us) : ∃ T', QS W L T' us n v' w' := by
  have hb : Below W.heap.size W w' := h.b.trans (hT.below h.b.size fun b hb => (h.t b (hS b hb).1).1)
  have hLT : L ∉ S := fun hm => by
    obtain ⟨_, cur, hc⟩ := hS L hm
    obtain ⟨v, h1, _⟩ := h.m
    rw [h1] at hc
    simp at hc
  have mk : ∀ T' : List Nat, (∀ b ∈ T', (b ∈ T ∨ w.heap.size ≤ b) ∧ b < w'.heap.size) → RW (fun b => b ∈ T') 25 enU w' v' us → QS W L T' us n v' w' := fun T' hT' hq =>
    ⟨hb, h.l, fun b hm => ⟨by
      rcases (hT' b hm).1 with e | e
      · exact (h.t b e).1
      · exact Nat.le_trans h.b.size e, (hT' b hm).2⟩,
     h.m.keep (hT.block L h.m.lt hLT) fun b cur ho hc => by
      have hlt := (Array.getElem?_eq_some_iff.1 hc).1
      refine ⟨fun hm => ?_, hT.block b hlt fun hm => ho (hS b hm).1⟩
      rcases (hT' b hm).1 with e | e
      · exact ho e
      · omega, hq⟩
  have hold : ∀ b ∈ T, (b ∈ T ∨ w.heap.size ≤ b) ∧ b < w'.heap.size := fun b hm => ⟨.inl hm, Nat.lt_of_lt_of_le (h.t b hm).2 hT.size⟩
  rcases hr with ⟨h1, h2⟩ | ⟨g, o, cap, cur, h1, h2, h3, h4⟩
  · exact ⟨T, mk T hold (.inl ⟨h1, h2⟩)⟩
  · refine ⟨g :: T, mk (g :: T) (fun b hm => ?_) (.inr ⟨g, o, cap, cur, h1, by simp, h3, h4⟩)⟩
    rcases List.mem_cons.1 hm with rfl | hm
    · exact ⟨h2, (Array.getElem?_eq_some_iff.1 h3).1⟩
    · exact hold b hm
/-- One element of a row is stored. -/
theorem RW.set {own : Nat → Prop} {e : TypeId} {α : Type} {enc : α → Value} {xs : List α} {g o k n c : Nat} {y : α} (h : RW own e enc w (.slice (some ⟨g, o, none⟩) n c) xs) (hk : k < xs.length) :
    RW own e enc (w.setCell ⟨g, o + k, none⟩ (enc y)) (.slice (some ⟨g, o, none⟩) n c) (xs.set k y) ∧ w.frozen? ⟨g, o + k, none⟩ = false ∧ (∃ z, w.cell? ⟨g, o + k, none⟩ = some z) ∧ own g := by
  rcases h with ⟨_, h⟩ | ⟨g', o', cap, cur, h1, h2, h3, h4, h5, h6, h7⟩
  · cases h
  · injection h1 with e1 e2 e3
    injection e1 with e1
    injection e1 with e1 e4
    subst e1 e2 e3 e4
    obtain ⟨z, hz⟩ : ∃ z, xs[k]? = some z := ⟨_, List.getElem?_eq_getElem hk⟩
    refine ⟨.inr ⟨g, o, c, cur.setIfInBounds (o + k) (enc y), by rw [List.length_set], h2, heap_setCell_same w g (o + k) cur e (enc y) h3, by rw [Array.size_setIfInBounds]; exact h4, by rw [List.length_set]; exact h5, h6, fun i x hi => ?_⟩, frozen_of_row _ _ _ _ e h3, ⟨enc z, by rw [cell_of_row _ _ _ _ e (0, 0) h3]; exact h7 k z hz⟩, h2⟩
    rw [List.getElem?_set] at hi
    by_cases hik : k = i
    · subst hik
      rw [if_pos rfl, if_pos hk] at hi
      injection hi with hi
      subst hi
      rw [Array.getElem?_setIfInBounds_self_of_lt (by have := (Array.getElem?_eq_some_iff.1 (h7 k z hz)).1; exact this)]
    · rw [if_neg hik] at hi
      rw [Array.getElem?_setIfInBounds_ne (by omega)]
      exact h7 i x hi
end Go.Proofs.Ytogbidkkdhhllaa
