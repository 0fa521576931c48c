/- The model of a pool: the law's own memory. -/
import Derived.Test.YtnhfjipakhgjcaaGh
namespace Fr
theorem own_pos (os : List Nat) (f : Int) (h : own os f ≠ 0) : ∃ i : Nat, f = (i : Int) + 1 ∧ i < os.length ∧ os.getD i 0 ≠ 0 := by
  unfold own at h
  split at h
  · exact ⟨f.toNat - 1, by omega, by omega, h⟩
  · exact absurd rfl h
theorem getD_set (l : List Nat) (i j x : Nat) (hj : j < l.length) : (l.set j x).getD i 0 = if i = j then x else l.getD i 0 := by
  rw [List.getD_eq_getElem?_getD, List.getD_eq_getElem?_getD, List.getElem?_set]
  by_cases e : j = i
  · subst e; rw [if_pos rfl, if_pos hj, if_pos rfl]; rfl
  · rw [if_neg e, if_neg (fun x => e x.symm)]
theorem getD_setD (l : List (List Nat)) (i j : Nat) (x : List Nat) (hj : j < l.length) : (l.set j x).getD i [] = if i = j then x else l.getD i [] := by
  rw [List.getD_eq_getElem?_getD, List.getD_eq_getElem?_getD, List.getElem?_set]
  by_cases e : j = i
  · subst e; rw [if_pos rfl, if_pos hj, if_pos rfl]; rfl
  · rw [if_neg e, if_neg (fun x => e x.symm)]
theorem set_same (l : List Nat) (i : Nat) (h : l.getD i 0 = 0) : l.set i 0 = l := by
  apply List.ext_getElem?
  intro j
  rw [List.getElem?_set]
  split
  · rename_i e
    subst e
    split
    · rename_i hl
      rw [List.getD_eq_getElem?_getD, List.getElem?_eq_getElem hl] at h
      rw [List.getElem?_eq_getElem hl]
      have h' : l[i] = 0 := h
      rw [h']
    · rename_i hl
      rw [List.getElem?_eq_none (by omega)]
  · rfl
theorem free_none (os : List Nat) (f : Int) (h : own os f = 0) : free os f = os := by
  unfold free
  split
  · rename_i hr
    unfold own at h
    rw [if_pos hr] at h
    exact set_same os _ h
  · rfl
end Fr
namespace Go.Proofs.Ytnhfjipakhgjcaa
open Go.RowKit
set_option linter.unusedVariables false
set_option linter.unusedSimpArgs false
/-- Owners, as cells. -/
def U (os : List Nat) : List Value := os.map (fun (o : Nat) => Value.int .u64 (o : Int))
theorem U_get (os : List Nat) (i : Nat) (h : i < os.length) : (U os)[i]? = some (.int .u64 (os.getD i 0 : Nat)) := by
  unfold U; rw [List.getElem?_map, List.getElem?_eq_getElem h, List.getD_eq_getElem?_getD, List.getElem?_eq_getElem h]; rfl
theorem U_set (os : List Nat) (i x : Nat) : (U os).set i (.int .u64 (x : Int)) = U (os.set i x) := by unfold U; rw [List.map_set]
/-- The model in memory. -/
def Md (w : World) (M O D N : Nat) (os : List Nat) (ds : List (List Nat)) (bl : Nat → Nat) : Prop :=
  w.heap[M]? = some (Obj.cells #[.slice (some ⟨D, 0, none⟩) N N, .slice (some ⟨O, 0, none⟩) N N] 30) ∧
  w.heap[O]? = some (Obj.cells (U os).toArray 31) ∧ os.length = N ∧
  (∃ vs : List Value, w.heap[D]? = some (Obj.cells vs.toArray 32) ∧ vs.length = N ∧ ∀ i, i < N → os.getD i 0 ≠ 0 → vs[i]? = some (.slice (some ⟨bl i, 0, none⟩) 64 64)) ∧
  (∀ i, i < N → os.getD i 0 ≠ 0 → w.heap[bl i]? = some (Obj.cells (Y (ds.getD i [])).toArray 5)) ∧
  (∀ i j, i < N → j < N → os.getD i 0 ≠ 0 → os.getD j 0 ≠ 0 → bl i = bl j → i = j)
/-- What of T the model has. -/
def Has (T : List Nat) (M O D N : Nat) (os : List Nat) (bl : Nat → Nat) : Prop := M ∈ T ∧ O ∈ T ∧ D ∈ T ∧ ∀ i, i < N → os.getD i 0 ≠ 0 → bl i ∈ T
variable {w w' : World} {T : List Nat} {M O D N : Nat} {os : List Nat} {ds : List (List Nat)} {bl : Nat → Nat}
theorem Md.same (h : Md w M O D N os ds bl) (ht : Has T M O D N os bl) (hs : Same T w w') : Md w' M O D N os ds bl := by
  obtain ⟨h1, h2, h3, ⟨vs, h4, h5, h6⟩, h7, h8⟩ := h
  obtain ⟨t1, t2, t3, t4⟩ := ht
  exact ⟨by rw [hs M t1]; exact h1, by rw [hs O t2]; exact h2, h3, ⟨vs, by rw [hs D t3]; exact h4, h5, h6⟩, fun i hi ho => by rw [hs _ (t4 i hi ho)]; exact h7 i hi ho, h8⟩
theorem Has.more (h : Has T M O D N os bl) {T' : List Nat} (hT : ∀ b ∈ T, b ∈ T') : Has T' M O D N os bl :=
  ⟨hT _ h.1, hT _ h.2.1, hT _ h.2.2.1, fun i hi ho => hT _ (h.2.2.2 i hi ho)⟩
/-- Cells of the model. -/
theorem Md.head (h : Md w M O D N os ds bl) : w.cell? ⟨M, 0, none⟩ = some (.slice (some ⟨D, 0, none⟩) N N) ∧ w.cell? ⟨M, 1, none⟩ = some (.slice (some ⟨O, 0, none⟩) N N) :=
  ⟨by rw [cell_of_row _ _ 0 _ 30 (0, 0) h.1]; rfl, by rw [cell_of_row _ _ 1 _ 30 (0, 0) h.1]; rfl⟩
theorem Md.owner (h : Md w M O D N os ds bl) (i : Nat) (hi : i < N) : w.cell? ⟨O, i, none⟩ = some (.int .u64 (os.getD i 0 : Nat)) ∧ w.frozen? ⟨O, i, none⟩ = false :=
  ⟨by rw [cell_of_row _ _ i _ 31 (0, 0) h.2.1, List.getElem?_toArray]; exact U_get os i (by rw [h.2.2.1]; exact hi), frozen_of_row _ _ i _ 31 h.2.1⟩
theorem Md.data (h : Md w M O D N os ds bl) (i : Nat) (hi : i < N) : (∃ v, w.cell? ⟨D, i, none⟩ = some v ∧ (os.getD i 0 ≠ 0 → v = .slice (some ⟨bl i, 0, none⟩) 64 64)) ∧ w.frozen? ⟨D, i, none⟩ = false := by
  obtain ⟨_, _, _, ⟨vs, h4, h5, h6⟩, _, _⟩ := h
  refine ⟨⟨vs[i]'(by omega), ?_, fun ho => ?_⟩, frozen_of_row _ _ i _ 32 h4⟩
  · rw [cell_of_row _ _ i _ 32 (0, 0) h4, List.getElem?_toArray, List.getElem?_eq_getElem (by omega)]
  · have := h6 i hi ho
    rw [List.getElem?_eq_getElem (by omega)] at this
    injection this
/-- A frame is freed. -/
theorem Md.free (h : Md w M O D N os ds bl) (i : Nat) (hi : i < N) : Md (w.setCell ⟨O, i, none⟩ (.int .u64 0)) M O D N (os.set i 0) ds bl := by
  obtain ⟨h1, h2, h3, ⟨vs, h4, h5, h6⟩, h7, h8⟩ := h
  have g : ∀ j, (os.set i 0).getD j 0 ≠ 0 → os.getD j 0 ≠ 0 := fun j hj => by
    rw [Fr.getD_set _ _ _ _ (by omega)] at hj
    split at hj
    · exact absurd rfl hj
    · exact hj
  have oth : ∀ (b : Nat) (o : Obj), b ≠ O → w.heap[b]? = some o → (w.setCell ⟨O, i, none⟩ (.int .u64 0)).heap[b]? = some o := fun b o e hb => by rw [Below.heap_setCell _ _ _ _ e]; exact hb
  refine ⟨oth M _ (fun e => ?_) h1, ?_, by rw [List.length_set]; exact h3, ⟨vs, oth D _ (fun e => ?_) h4, h5, fun j hj ho => h6 j hj (g j ho)⟩, fun j hj ho => oth _ _ (fun e => ?_) (h7 j hj (g j ho)), fun a b ha hb oa ob => h8 a b ha hb (g a oa) (g b ob)⟩
  · subst e; rw [h2] at h1; simp at h1
  · have := heap_setCell_same w O i _ 31 (.int .u64 0) h2
    rw [this, List.setIfInBounds_toArray, show (Value.int .u64 0) = .int .u64 ((0 : Nat) : Int) from rfl, U_set]
  · subst e; rw [h2] at h4; simp at h4
  · have := h7 j hj (g j ho); rw [e, h2] at this; simp at this
/-- Bytes of a frame turn. -/
theorem Md.turn (h : Md w M O D N os ds bl) (i : Nat) (hi : i < N) (ho : os.getD i 0 ≠ 0) (d : List Nat) (hd : ds.length = N) (hw : w'.heap[bl i]? = some (Obj.cells (Y d).toArray 5)) (hk : ∀ b, b < w.heap.size → b ≠ bl i → w'.heap[b]? = w.heap[b]?) :
    Md w' M O D N os (ds.set i d) bl := by
  obtain ⟨h1, h2, h3, ⟨vs, h4, h5, h6⟩, h7, h8⟩ := h
  have hb := h7 i hi ho
  have oth : ∀ (b : Nat) (o : Obj), b ≠ bl i → w.heap[b]? = some o → w'.heap[b]? = some o := fun b o e hb => by rw [hk b (Array.getElem?_eq_some_iff.1 hb).1 e]; exact hb
  refine ⟨oth M _ (fun e => ?_) h1, oth O _ (fun e => ?_) h2, h3, ⟨vs, oth D _ (fun e => ?_) h4, h5, h6⟩, fun j hj oj => ?_, h8⟩
  · rw [← e, h1] at hb; simp at hb
  · rw [← e, h2] at hb; simp at hb
  · rw [← e, h4] at hb; simp at hb
  · rw [Fr.getD_setD _ _ _ _ (by omega)]
    split
    · rename_i e; subst e; exact hw
    · rename_i e; exact oth _ _ (fun x => e (h8 j i hj hi oj ho x)) (h7 j hj oj)
/-- A frame is charged: two stores, and a new block. -/
theorem Md.charge (h : Md w M O D N os ds bl) (i o G : Nat) (hi : i < N) (hd : ds.length = N) (hG : w.heap.size ≤ G) {w1 : World} (ho : o ≠ 0)
    (hO : w1.heap[O]? = some (Obj.cells (U (os.set i o)).toArray 31)) (hD : ∀ vs : List Value, w.heap[D]? = some (Obj.cells vs.toArray 32) → w1.heap[D]? = some (Obj.cells (vs.set i (.slice (some ⟨G, 0, none⟩) 64 64)).toArray 32))
    (hn : w1.heap[G]? = some (Obj.cells (Y Fr.zeros).toArray 5)) (hk : ∀ b, b < w.heap.size → b ≠ O → b ≠ D → w1.heap[b]? = w.heap[b]?) :
    Md w1 M O D N (os.set i o) (ds.set i Fr.zeros) (fun j => if j = i then G else bl j) := by
  obtain ⟨h1, h2, h3, ⟨vs, h4, h5, h6⟩, h7, h8⟩ := h
  have g : ∀ j, j ≠ i → (os.set i o).getD j 0 ≠ 0 → os.getD j 0 ≠ 0 := fun j e hj => by
    rw [Fr.getD_set _ _ _ _ (by omega), if_neg e] at hj; exact hj
  have oth : ∀ (b : Nat) (o : Obj), b ≠ O → b ≠ D → w.heap[b]? = some o → w1.heap[b]? = some o := fun b o e e' hb => by rw [hk b (Array.getElem?_eq_some_iff.1 hb).1 e e']; exact hb
  refine ⟨oth M _ (fun e => ?_) (fun e => ?_) h1, hO, by rw [List.length_set]; exact h3, ⟨_, hD vs h4, by rw [List.length_set]; exact h5, fun j hj oj => ?_⟩, fun j hj oj => ?_, fun a b ha hb oa ob e => ?_⟩
  · subst e; rw [h2] at h1; simp at h1
  · subst e; rw [h4] at h1; simp at h1
  · dsimp only
    rw [List.getElem?_set]
    by_cases e : i = j
    · subst e; rw [if_pos rfl, if_pos (by omega), if_pos rfl]
    · rw [if_neg e, if_neg (fun x => e x.symm)]; exact h6 j hj (g j (fun x => e x.symm) oj)
  · dsimp only
    rw [Fr.getD_setD _ _ _ _ (by omega)]
    by_cases e : j = i
    · subst e; rw [if_pos rfl, if_pos rfl]; exact hn
    · rw [if_neg e, if_neg e]
      have hj7 := h7 j hj (g j e oj)
      refine oth _ _ (fun x => ?_) (fun x => ?_) hj7
      · rw [x, h2] at hj7; simp at hj7
      · rw [x, h4] at hj7; simp at hj7
  · dsimp only at e
    by_cases ea : a = i
    · by_cases eb : b = i
      · omega
      · rw [if_pos ea, if_neg eb] at e
        have := (Array.getElem?_eq_some_iff.1 (h7 b hb (g b eb ob))).1
        omega
    · by_cases eb : b = i
      · rw [if_neg ea, if_pos eb] at e
        have := (Array.getElem?_eq_some_iff.1 (h7 a ha (g a ea oa))).1
        omega
      · rw [if_neg ea, if_neg eb] at e
        exact h8 a b ha hb (g a ea oa) (g b eb ob) e
end Go.Proofs.Ytnhfjipakhgjcaa
