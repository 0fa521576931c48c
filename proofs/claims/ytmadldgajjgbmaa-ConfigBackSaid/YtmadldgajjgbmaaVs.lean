/- Rows of elements of several cells each: read, kept, stored to, appended to. -/
import Derived.Test.YtmadldgajjgbmaaVa
set_option linter.unusedVariables false
set_option linter.unusedSimpArgs false
namespace Go.Proofs.Ytmadldgajjgbmaa
open Go.RowKit
set_option linter.unusedVariables false
set_option linter.unusedSimpArgs false
section
variable {α : Type} {e : TypeId} {sz : Nat} {enc : α → List Value} {w w' : World} {own own' : Nat → Prop} {v : Value} {xs ys : List α} {A : Option Addr}
theorem flat_len (hs : ∀ x, (enc x).length = sz) : ∀ xs : List α, (xs.flatMap enc).length = xs.length * sz
  | [] => by simp
  | x :: r => by rw [List.flatMap_cons, List.length_append, hs, flat_len hs r, List.length_cons, Nat.succ_mul]; omega
theorem flat_at (hs : ∀ x, (enc x).length = sz) : ∀ (xs : List α) (k : Nat) (u : Value), (xs.flatMap enc)[k]? = some u → ∃ (i j : Nat) (x : α), xs[i]? = some x ∧ (enc x)[j]? = some u ∧ k = i * sz + j
  | [], k, u, h => by simp at h
  | x :: r, k, u, h => by
    rw [List.flatMap_cons] at h
    by_cases hk : k < (enc x).length
    · rw [List.getElem?_append_left hk] at h
      exact ⟨0, k, x, rfl, h, by simp⟩
    · rw [List.getElem?_append_right (by omega)] at h
      obtain ⟨i, j, y, h1, h2, h3⟩ := flat_at hs r _ u h
      exact ⟨i + 1, j, y, by simpa using h1, h2, by rw [Nat.succ_mul]; have := hs x; omega⟩
theorem flat_get (hs : ∀ x, (enc x).length = sz) : ∀ (xs : List α) (i j : Nat) (x : α) (u : Value), xs[i]? = some x → (enc x)[j]? = some u → (xs.flatMap enc)[i * sz + j]? = some u
  | [], i, j, x, u, h, _ => by simp at h
  | y :: r, 0, j, x, u, h, h' => by
    obtain rfl : y = x := by simpa using h
    have := (List.getElem?_eq_some_iff.1 h').1
    rw [List.flatMap_cons, Nat.zero_mul, Nat.zero_add, List.getElem?_append_left this]; exact h'
  | y :: r, i + 1, j, x, u, h, h' => by
    rw [List.flatMap_cons, List.getElem?_append_right (by rw [hs, Nat.succ_mul]; omega), show (i + 1) * sz + j - (enc y).length = i * sz + j by rw [hs, Nat.succ_mul]; omega]
    exact flat_get hs r i j x u (by simpa using h) h'
/-- A list that is read at A: elements of sz cells each. -/
def LV (sz : Nat) (enc : α → List Value) (w : World) (A : Option Addr) (xs : List α) : Prop := ∀ (i : Nat) (x : α), xs[i]? = some x → ∃ b off, A = some ⟨b, off, none⟩ ∧ b < w.heap.size ∧ ∀ (j : Nat) (u : Value), (enc x)[j]? = some u → w.cell? ⟨b, off + i * sz + j, none⟩ = some u
theorem LV.nil (w : World) (A : Option Addr) : LV sz enc w A [] := fun i x h => by simp at h
theorem LV.below (h : LV sz enc w A xs) (hb : Below w.heap.size w w') : LV sz enc w' A xs := fun i x hi => by
  obtain ⟨b, off, h1, h2, h3⟩ := h i x hi
  exact ⟨b, off, h1, Nat.lt_of_lt_of_le h2 hb.size, fun j u hu => by rw [hb.cell (p := ⟨b, _, none⟩) h2]; exact h3 j u hu⟩
theorem LV.at_ {b off : Nat} (h : LV sz enc w (some ⟨b, off, none⟩) xs) {i j : Nat} {x : α} {u : Value} (hi : xs[i]? = some x) (hu : (enc x)[j]? = some u) : w.cell? ⟨b, off + i * sz + j, none⟩ = some u := by
  obtain ⟨b', off', e1, h2, h3⟩ := h i x hi
  injection e1 with e1
  injection e1 with e1 e2
  subst e1 e2
  exact h3 j u hu
theorem LV.some_ (h : LV sz enc w A xs) (h0 : 0 < xs.length) : ∃ b off, A = some ⟨b, off, none⟩ := by
  obtain ⟨b, off, h1, _⟩ := h 0 (xs[0]'h0) (List.getElem?_eq_getElem h0)
  exact ⟨b, off, h1⟩
/-- A row in memory of which 'own' tells: nil, or a slice of a block of such cells. -/
def RV (own : Nat → Prop) (e : TypeId) (sz : Nat) (enc : α → List Value) (w : World) (v : Value) (xs : List α) : Prop :=
  (xs = [] ∧ v = .slice none 0 0) ∨ ∃ g o cap cur, v = .slice (some ⟨g, o, none⟩) xs.length cap ∧ own g ∧ w.heap[g]? = some (Obj.cells cur e) ∧ o + cap * sz ≤ cur.size ∧ xs.length ≤ cap ∧ cap ≤ maxLen ∧ ∀ (i : Nat) (x : α), xs[i]? = some x → ∀ (j : Nat) (u : Value), (enc x)[j]? = some u → cur[o + i * sz + j]? = some u
theorem RV.nil (own : Nat → Prop) (w : World) : RV own e sz enc w (.slice none 0 0) [] := .inl ⟨rfl, rfl⟩
theorem RV.form (h : RV own e sz enc w v xs) : ∃ A c, v = .slice A xs.length c ∧ xs.length ≤ c ∧ c ≤ maxLen ∧ LV sz enc w A xs := by
  rcases h with ⟨rfl, rfl⟩ | ⟨g, o, cap, cur, rfl, _, h2, _, h1, h3, h4⟩
  · exact ⟨_, _, rfl, Nat.le_refl _, Nat.zero_le _, LV.nil _ _⟩
  · exact ⟨_, _, rfl, h1, h3, fun i x hi => ⟨g, o, rfl, (Array.getElem?_eq_some_iff.1 h2).1, fun j u hu => by rw [cell_of_row _ _ _ _ e (0, 0) h2]; exact h4 i x hi j u hu⟩⟩
theorem RV.keep (h : RV own e sz enc w v xs) (hk : ∀ b cur, own b → w.heap[b]? = some (Obj.cells cur e) → own' b ∧ w'.heap[b]? = w.heap[b]?) : RV own' e sz enc w' v xs := by
  rcases h with h | ⟨g, o, cap, cur, h1, h2, h3, h4⟩
  · exact .inl h
  · obtain ⟨k1, k2⟩ := hk g cur h2 h3
    exact .inr ⟨g, o, cap, cur, h1, k1, k2.trans h3, h4⟩
theorem RV.lt {o n c : Nat} {g : Nat} (h : RV own e sz enc w (.slice (some ⟨g, o, none⟩) n c) xs) : own g ∧ ∃ cur, w.heap[g]? = some (Obj.cells cur e) := by
  rcases h with ⟨_, h⟩ | ⟨g', o', cap, cur, h1, h2, h3, _⟩
  · cases h
  · injection h1 with e1
    injection e1 with e1
    injection e1 with e1
    subst e1
    exact ⟨h2, cur, h3⟩
/-- One cell of an element is stored to. -/
theorem RV.set {g o k n c j : Nat} {y z : α} {u : Value} (h : RV own e sz enc w (.slice (some ⟨g, o, none⟩) n c) xs) (hs : ∀ x, (enc x).length = sz) (hk : xs[k]? = some z) (hj : j < sz) (hy : enc y = (enc z).set j u) :
    RV own e sz enc (w.setCell ⟨g, o + k * sz + j, none⟩ u) (.slice (some ⟨g, o, none⟩) n c) (xs.set k y) := by
  rcases h with ⟨_, h⟩ | ⟨g', o', cap, cur, h1, h2, h3, h4, h5, h6, h7⟩
  · cases h
  · injection h1 with e1 e2 e3
    injection e1 with e1
    injection e1 with e1 e4
    subst e1 e2 e3 e4
    refine .inr ⟨g, o, c, cur.setIfInBounds (o + k * sz + j) u, by rw [List.length_set], h2, heap_setCell_same w g _ cur e u h3, by rw [Array.size_setIfInBounds]; exact h4, by rw [List.length_set]; exact h5, h6, fun i x hi j' u' hu => ?_⟩
    have hkl := (List.getElem?_eq_some_iff.1 hk).1
    have hjl : j' < sz := by rw [← hs x]; exact (List.getElem?_eq_some_iff.1 hu).1
    rw [List.getElem?_set] at hi
    by_cases hik : k = i
    · subst hik
      rw [if_pos rfl, if_pos hkl] at hi
      injection hi with hi
      subst hi
      rw [hy, List.getElem?_set] at hu
      by_cases hjj : j = j'
      · subst hjj
        rw [if_pos rfl, if_pos (by rw [hs]; exact hj)] at hu
        injection hu with hu
        subst hu
        obtain ⟨u0, hu0⟩ : ∃ u0, (enc z)[j]? = some u0 := ⟨_, List.getElem?_eq_getElem (by rw [hs]; exact hj)⟩
        rw [Array.getElem?_setIfInBounds_self_of_lt (by have := (Array.getElem?_eq_some_iff.1 (h7 k z hk j u0 hu0)).1; exact this)]
      · rw [if_neg hjj] at hu
        rw [Array.getElem?_setIfInBounds_ne (by omega)]
        exact h7 k z hk j' u' hu
    · rw [if_neg hik] at hi
      have hne : o + k * sz + j ≠ o + i * sz + j' := fun e => by
        rcases Nat.lt_or_gt_of_ne hik with h | h
        · have : (k + 1) * sz ≤ i * sz := Nat.mul_le_mul_right sz h
          rw [Nat.succ_mul] at this; omega
        · have : (i + 1) * sz ≤ k * sz := Nat.mul_le_mul_right sz h
          rw [Nat.succ_mul] at this; omega
      rw [Array.getElem?_setIfInBounds_ne hne]
      exact h7 i x hi j' u' hu
/-- Some are appended. -/
theorem append_rv {P : Program} (t ty : TypeId) (i : TypeInfo) (z : Value) (bytes : Nat) (ht : P.underlying t = some (.slice e)) (hi : P.info? e = some i) (hz : i.zero = some z) (hsz : i.size = sz) (hby : i.bytes = bytes) (hb16 : bytes ≤ 1024) (hzc : z.cells.size = sz)
    (hs : ∀ x, (enc x).length = sz) (h1 : ∀ y, ∀ u ∈ enc y, u.oneCell' = true) (hsz0 : 0 < sz) (h : RV own e sz enc w v xs) (hl : xs.length + ys.length ≤ 100000) (A2 : Option Addr) (c2 : Nat) (hc2 : ys.length ≤ c2) (hr : LV sz enc w A2 ys) :
    ∃ v' w', (Builtin.append_ #[t, t] ty #[v, .slice A2 ys.length c2]).run P w = .ok v' w' ∧ RV (fun b => own b ∨ w.heap.size ≤ b) e sz enc w' v' (xs ++ ys) ∧ ∃ S, Turn S w w' ∧ ∀ b ∈ S, own b ∧ ∃ cur, w.heap[b]? = some (Obj.cells cur e) := by
  have hone : ∀ u ∈ ys.flatMap enc, u.oneCell' = true := fun u hu => by
    obtain ⟨y, _, hy⟩ := List.mem_flatMap.1 hu
    exact h1 y u hy
  have fl : ∀ zs : List α, (zs.flatMap enc).length = zs.length * sz := flat_len hs
  have made : ∀ (need old : Nat), need = xs.length + ys.length →
      RV (fun b => own b ∨ w.heap.size ≤ b) e sz enc (w.drew.alloc (.cells ((xs.flatMap enc).toArray ++ (ys.flatMap enc).toArray ++ Builtin.zeroCells z.cells (grownCap w need old e - need)) e)) (.slice (some ⟨w.heap.size, 0, none⟩) need (grownCap w need old e)) (xs ++ ys) := by
    intro need old hn
    have hge := grownCap_ge w need old e
    refine .inr ⟨w.heap.size, 0, grownCap w need old e, _, by rw [List.length_append, hn], .inr (Nat.le_refl _), heap_alloc_new w.drew _, ?_, by rw [List.length_append]; omega, grownCap_le_maxLen _ _ _ _ (by unfold maxLen; omega), fun j y hy j' u hu => ?_⟩
    · simp only [Array.size_append, List.size_toArray, size_zeroCells, hzc, fl]
      have : grownCap w need old e * sz = xs.length * sz + ys.length * sz + (grownCap w need old e - need) * sz := by rw [← Nat.add_mul, ← Nat.add_mul]; congr 1; omega
      have h2 : (grownCap w need old e - need) * sz = sz * (grownCap w need old e - need) := Nat.mul_comm _ _
      omega
    · have hg := flat_get hs _ _ _ _ _ hy hu
      rw [List.flatMap_append] at hg
      have hlt := (List.getElem?_eq_some_iff.1 hg).1
      rw [List.length_append] at hlt
      rw [Nat.zero_add, Array.getElem?_append_left (by simp only [Array.size_append, List.size_toArray]; exact hlt), List.append_toArray, List.getElem?_toArray]
      exact hg
  have new : ∀ {b o : Nat}, A2 = some ⟨b, o, none⟩ → ∀ j u, (ys.flatMap enc)[j]? = some u → w.cell? ((⟨b, o, none⟩ : Addr).add j) = some u := fun {b o} ha j u hu => by
    obtain ⟨i, j', x, h1, h2, rfl⟩ := flat_at hs _ _ _ hu
    rw [ha] at hr
    rw [addr_add, ← Nat.add_assoc]
    exact hr.at_ h1 h2
  have nothing : ∀ (s n c : Nat) (a : Option Addr), ys = [] → n ≤ c → ((Builtin.append_ #[t, t] ty #[.slice a n c, .slice A2 ys.length c2]).run P w = .ok (.slice a n c) w) := fun s n c a hy hn => by
    subst hy
    cases a <;> cases A2 <;> simp [Builtin.append_, run_underlying ht, sizeOf, typeInfo, hi, Builtin.lenOf, hn, Builtin.firstCells, loadCells, loadCellsFrom, storeCells]
  by_cases hy : ys = []
  · obtain ⟨A, c, rfl, hc, _⟩ := h.form
    refine ⟨_, w, nothing 0 _ _ _ hy hc, ?_, [], Turn.refl _ _, by simp⟩
    subst hy
    rw [List.append_nil]
    exact h.keep fun b cur hb _ => ⟨.inl hb, rfl⟩
  have hy0 : 0 < ys.length := by cases ys with | nil => exact absurd rfl hy | cons _ _ => simp
  obtain ⟨b2, o2, rfl⟩ := hr.some_ hy0
  have hnew := new rfl
  rcases h with ⟨rfl, rfl⟩ | ⟨g, o, cap, cur, rfl, hg, hh, ho, hn, hcm, hxs⟩
  · have hr := run_append_nil (P := P) w t ty e i z ht hi hz ⟨b2, o2, none⟩ ys.length c2 (ys.flatMap enc) (by rw [hsz, fl]) hnew (by omega) (by simp at hl; omega) (by rw [hby]; have : ys.length * bytes ≤ 100000 * 1024 := Nat.mul_le_mul (by simp at hl; omega) hb16; omega)
    refine ⟨_, _, hr, ?_, [], Turn.of_below (((Below.refl w.heap.size w).drew).alloc (Nat.le_refl _) _), by simp⟩
    have := made ys.length 0 (by simp)
    simpa using this
  · by_cases hroom : xs.length + ys.length ≤ cap
    · have hmul : xs.length * sz + ys.length * sz ≤ cap * sz := by rw [← Nat.add_mul]; exact Nat.mul_le_mul_right sz hroom
      have hf := run_firstCells_some (P := P) w i.size ys.length ⟨b2, o2, none⟩ ys.length c2 (ys.flatMap enc) (by rw [hsz, fl]) hnew
      have hst := run_storeCells_at P g (o + xs.length * sz) e (ys.flatMap enc) 0 cur w hh (by simp only [fl]; omega) hone
      simp only [Nat.add_zero] at hst
      have ha : (⟨g, o, none⟩ : Addr).add (xs.length * i.size) = ⟨g, o + xs.length * sz, none⟩ := by rw [addr_add, hsz]
      refine ⟨.slice (some ⟨g, o, none⟩) (xs.length + ys.length) cap, w.setRow g (cur.toList.take (o + xs.length * sz) ++ ys.flatMap enc ++ cur.toList.drop (o + xs.length * sz + (ys.flatMap enc).length)).toArray, ?_, ?_, [g], Turn.row w g _, fun b hb => by rw [List.mem_singleton.1 hb]; exact ⟨hg, cur, hh⟩⟩
      · simp [Builtin.append_, run_underlying ht, sizeOf, typeInfo, hi, Builtin.lenOf, hroom, hf, ha, hst]
      · have hcl : cur.toList.length = cur.size := Array.length_toList
        refine .inr ⟨g, o, cap, _, by rw [List.length_append], .inl hg, setRow_heap w g cur _ e _ hh, ?_, by rw [List.length_append]; exact hroom, hcm, fun j y hy j' u hu => ?_⟩
        · simp only [List.size_toArray, List.length_append, List.length_take, List.length_drop, Array.length_toList, fl]
          omega
        · rw [List.getElem?_toArray]
          have hj' : j' < sz := by rw [← hs y]; exact (List.getElem?_eq_some_iff.1 hu).1
          by_cases hj : j < xs.length
          · rw [List.getElem?_append_left hj] at hy
            have hjm : (j + 1) * sz ≤ xs.length * sz := Nat.mul_le_mul_right sz hj
            rw [Nat.succ_mul] at hjm
            rw [List.append_assoc, List.getElem?_append_left (by rw [List.length_take, hcl]; omega), List.getElem?_take, if_pos (by omega)]
            have := hxs j y hy j' u hu
            simpa using this
          · have hjl := (List.getElem?_eq_some_iff.1 hy).1
            rw [List.length_append] at hjl
            rw [List.getElem?_append_right (by omega)] at hy
            have hjm : (j - xs.length + 1) * sz ≤ ys.length * sz := Nat.mul_le_mul_right sz (by omega)
            rw [Nat.succ_mul] at hjm
            have hjs : j * sz = xs.length * sz + (j - xs.length) * sz := by rw [← Nat.add_mul]; congr 1; omega
            rw [List.append_assoc, List.getElem?_append_right (by rw [List.length_take, hcl]; omega), List.length_take, hcl, Nat.min_eq_left (by omega), List.getElem?_append_left (by rw [fl]; omega), show o + j * sz + j' - (o + xs.length * sz) = (j - xs.length) * sz + j' by omega]
            exact flat_get hs _ _ _ _ _ hy hu
    · have hold : ∀ j u, (xs.flatMap enc)[j]? = some u → w.cell? ((⟨g, o, none⟩ : Addr).add j) = some u := fun j u hu => by
        obtain ⟨i, j', x, h1, h2, rfl⟩ := flat_at hs _ _ _ hu
        rw [addr_add, cell_of_row _ _ _ _ e (0, 0) hh, ← Nat.add_assoc]
        exact hxs i x h1 j' u h2
      have hr := run_append_grow (P := P) w t ty e i z ht hi hz ⟨g, o, none⟩ xs.length cap (xs.flatMap enc) (by rw [hsz, fl]) hold ⟨b2, o2, none⟩ ys.length c2 (ys.flatMap enc) (by rw [hsz, fl]) hnew (by omega) (by omega) (growslice_fits (by omega) (by rw [hby]; have : (xs.length + ys.length) * bytes ≤ 100000 * 1024 := Nat.mul_le_mul (by omega) hb16; omega))
      exact ⟨_, _, hr, made (xs.length + ys.length) cap rfl, [], Turn.of_below (((Below.refl w.heap.size w).drew).alloc (Nat.le_refl _) _), by simp⟩
end
end Go.Proofs.Ytmadldgajjgbmaa
