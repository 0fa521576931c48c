/- A slice of the law's own, of elements of one cell each, that may be cut from its beginning. -/
import Derived.Test.YtoccgbfnbpkphaaRn
set_option linter.unusedVariables false
set_option linter.unusedSimpArgs false
namespace Go.Proofs.Ytoccgbfnbpkphaa
open Go.RowKit Rn
set_option linter.unusedVariables false
set_option linter.unusedSimpArgs false
variable {α : Type} {e : TypeId} {enc : α → Value} {w w' : World} {T : List Nat} {v : Value} {xs : List α}
/-- The elements xs, as the slice v of a block of T. -/
def SV (e : TypeId) (enc : α → Value) (w : World) (T : List Nat) (v : Value) (xs : List α) : Prop :=
  (xs = [] ∧ v = .slice none 0 0) ∨ ∃ g o cap cur, v = .slice (some ⟨g, o, none⟩) xs.length cap ∧ g ∈ T ∧ w.heap[g]? = some (Obj.cells cur e) ∧ o + cap ≤ cur.size ∧ xs.length ≤ cap ∧ cap ≤ maxLen ∧ ∀ (i : Nat) (x : α), xs[i]? = some x → cur[o + i]? = some (enc x)
theorem SV.form (h : SV e enc w T v xs) : ∃ A c, v = .slice A xs.length c ∧ xs.length ≤ c ∧ c ≤ maxLen := by
  rcases h with ⟨rfl, rfl⟩ | ⟨g, o, cap, cur, rfl, _, _, _, h1, h2, _⟩
  · exact ⟨_, _, rfl, Nat.le_refl _, Nat.zero_le _⟩
  · exact ⟨_, _, rfl, h1, h2⟩
theorem SV.keep {T' : List Nat} (h : SV e enc w T v xs) (hT : ∀ b ∈ T, b ∈ T') (hs : ∀ g cur, g ∈ T → w.heap[g]? = some (Obj.cells cur e) → w'.heap[g]? = w.heap[g]?) : SV e enc w' T' v xs := by
  rcases h with h | ⟨g, o, cap, cur, h1, h2, h3, h4⟩
  · exact .inl h
  · exact .inr ⟨g, o, cap, cur, h1, hT g h2, (hs g cur h2 h3).trans h3, h4⟩
theorem SV.cell {A : Option Addr} {n c : Nat} (h : SV e enc w T (.slice A n c) xs) {i : Nat} {x : α} (hx : xs[i]? = some x) : ∃ g o, A = some ⟨g, o, none⟩ ∧ w.cell? ⟨g, o + i, none⟩ = some (enc x) := by
  rcases h with ⟨rfl, _⟩ | ⟨g, o, cap, cur, h1, h2, h3, h4, h5, h6, h7⟩
  · simp at hx
  · injection h1 with e1 e2 e3
    exact ⟨g, o, e1, by rw [cell_of_row _ _ _ _ e (0, 0) h3]; exact h7 i x hx⟩
/-- The first one is taken away. -/
theorem SV.tail {x : α} {A : Option Addr} {n c : Nat} (h : SV e enc w T (.slice A n c) (x :: xs)) : ∃ A', (∀ s, s = 1 → sliced A 1 n c s = .slice A' xs.length (c - 1)) ∧ SV e enc w T (.slice A' xs.length (c - 1)) xs := by
  rcases h with ⟨h0, _⟩ | ⟨g, o, cap, cur, h1, h2, h3, h4, h5, h6, h7⟩
  · cases h0
  · injection h1 with e1 e2 e3
    subst e1 e2 e3
    simp only [List.length_cons] at h5
    refine ⟨some ⟨g, if c = 1 then o else o + 1, none⟩, fun s hs => ?_, .inr ⟨g, if c = 1 then o else o + 1, c - 1, cur, rfl, h2, h3, by split <;> omega, by omega, by omega, fun i y hy => ?_⟩⟩
    · subst hs
      unfold sliced
      simp only [List.length_cons]
      by_cases hc : c = 1
      · simp [hc]
      · simp [hc, addr_add]
    · have hil := (List.getElem?_eq_some_iff.1 hy).1
      rw [if_neg (by omega), show o + 1 + i = o + (i + 1) by omega]
      exact h7 (i + 1) y (by simpa using hy)
/-- One is appended. -/
theorem append_sv {P : Program} (t ty : TypeId) (i : TypeInfo) (z : Value) (bytes : Nat) (ht : P.underlying t = some (.slice e)) (hi : P.info? e = some i) (hz : i.zero = some z) (hsz : i.size = 1) (hby : i.bytes = bytes) (hb16 : bytes ≤ 16) (hzc : z.cells.size = 1)
    (h : SV e enc w T v xs) (hl : xs.length ≤ 1000) (x : α) (h1 : (enc x).oneCell' = true) (q : Nat) (hq : w.cell? ⟨q, 0, none⟩ = some (enc x)) :
    ∃ v' w' T', (Builtin.append_ #[t, t] ty #[v, .slice (some ⟨q, 0, none⟩) 1 1]).run P w = .ok v' w' ∧ SV e enc w' T' v' (xs ++ [x]) ∧ (∀ b ∈ T', (b ∈ T ∨ w.heap.size ≤ b) ∧ (b ∈ T ∨ b < w'.heap.size)) ∧ (∀ b ∈ T, b ∈ T') ∧ ∃ S, Turn S w w' ∧ ∀ b ∈ S, b ∈ T ∧ ∃ cur, w.heap[b]? = some (Obj.cells cur e) := by
  have hnew : ∀ j u, [enc x][j]? = some u → w.cell? ((⟨q, 0, none⟩ : Addr).add j) = some u := fun j u hu => by
    match j with
    | 0 => rw [addr_add]; rw [hq]; simpa using hu
    | j + 1 => simp at hu
  have made : ∀ (need old : Nat), need = xs.length + 1 → ∀ (olds : List Value), olds.length = xs.length → (∀ (j : Nat) (y : α), xs[j]? = some y → olds[j]? = some (enc y)) →
      SV e enc (w.drew.alloc (.cells (olds.toArray ++ [enc x].toArray ++ Builtin.zeroCells z.cells (grownCap w need old e - need)) e)) (w.heap.size :: T) (.slice (some ⟨w.heap.size, 0, none⟩) need (grownCap w need old e)) (xs ++ [x]) := by
    intro need old hn olds ho hol
    have hge := grownCap_ge w need old e
    refine .inr ⟨w.heap.size, 0, grownCap w need old e, _, by rw [List.length_append, hn]; rfl, by simp, heap_alloc_new w.drew _, ?_, by rw [List.length_append]; simp only [List.length_singleton]; omega, grownCap_le_maxLen _ _ _ _ (by unfold maxLen; omega), fun j y hy => ?_⟩
    · simp only [Array.size_append, List.size_toArray, size_zeroCells, hzc, ho, List.length_singleton]
      omega
    · rw [Nat.zero_add, Array.getElem?_append_left (by
        have := (List.getElem?_eq_some_iff.1 hy).1
        simp only [List.length_append, List.length_singleton] at this
        simp only [Array.size_append, List.size_toArray, ho, List.length_singleton]; omega), List.append_toArray, List.getElem?_toArray]
      by_cases hj : j < xs.length
      · rw [List.getElem?_append_left hj] at hy
        rw [List.getElem?_append_left (by rw [ho]; exact hj)]
        exact hol j y hy
      · rw [List.getElem?_append_right (by omega)] at hy
        rw [List.getElem?_append_right (by rw [ho]; omega), ho]
        obtain ⟨hj0, _⟩ := List.getElem?_eq_some_iff.1 hy
        simp only [List.length_singleton] at hj0
        have e0 : j - xs.length = 0 := by omega
        rw [e0] at hy ⊢
        simp at hy ⊢
        rw [hy]
  have hgr : ∀ (o : Obj) (b : Nat), b ∈ w.heap.size :: T → (b ∈ T ∨ w.heap.size ≤ b) ∧ (b ∈ T ∨ b < (w.drew.alloc o).heap.size) := fun o b hb => by
    rcases List.mem_cons.1 hb with rfl | hb
    · exact ⟨.inr (Nat.le_refl _), .inr (by simp)⟩
    · exact ⟨.inl hb, .inl hb⟩
  rcases h with ⟨rfl, rfl⟩ | ⟨g, o, cap, cur, rfl, hg, hh, ho, hn, hcm, hxs⟩
  · have hr := run_append_nil (P := P) w t ty e i z ht hi hz ⟨q, 0, none⟩ 1 1 [enc x] (by rw [hsz]; rfl) hnew (by omega) (by omega) (by rw [hby]; omega)
    refine ⟨_, _, w.heap.size :: T, hr, ?_, hgr _, fun b hb => List.mem_cons_of_mem _ hb, [], Turn.of_below (((Below.refl w.heap.size w).drew).alloc (Nat.le_refl _) _), by simp⟩
    have := made 1 0 rfl [] rfl (by simp)
    simpa using this
  · by_cases hroom : xs.length + 1 ≤ cap
    · have hf := run_firstCells_some (P := P) w i.size 1 ⟨q, 0, none⟩ 1 1 [enc x] (by rw [hsz]; rfl) hnew
      have hst := run_storeCells_at P g (o + xs.length) e [enc x] 0 cur w hh (by simp only [List.length_singleton]; omega) (by simpa using h1)
      simp only [Nat.add_zero] at hst
      have ha : (⟨g, o, none⟩ : Addr).add (xs.length * i.size) = ⟨g, o + xs.length, none⟩ := by rw [addr_add, hsz, Nat.mul_one]
      refine ⟨.slice (some ⟨g, o, none⟩) (xs.length + 1) cap, w.setRow g (cur.toList.take (o + xs.length) ++ [enc x] ++ cur.toList.drop (o + xs.length + [enc x].length)).toArray, T, ?_, ?_, fun b hb => ⟨.inl hb, .inl hb⟩, fun b hb => hb, [g], Turn.row w g _, fun b hb => by rw [List.mem_singleton.1 hb]; exact ⟨hg, cur, hh⟩⟩
      · have hroom' : xs.length + 1 ≤ cap := hroom
        simp [Builtin.append_, run_underlying ht, sizeOf, typeInfo, hi, Builtin.lenOf, hroom', hf, ha, hst]
      · have hcl : cur.toList.length = cur.size := Array.length_toList
        refine .inr ⟨g, o, cap, _, by rw [List.length_append]; rfl, hg, setRow_heap w g cur _ e _ hh, ?_, by rw [List.length_append]; exact hroom, hcm, fun j y hy => ?_⟩
        · simp only [List.size_toArray, List.length_append, List.length_take, List.length_drop, Array.length_toList, List.length_singleton]
          omega
        · rw [List.getElem?_toArray]
          by_cases hj : j < xs.length
          · rw [List.getElem?_append_left hj] at hy
            rw [List.append_assoc, List.getElem?_append_left (by rw [List.length_take, hcl]; omega), List.getElem?_take, if_pos (by omega)]
            have := hxs j y hy
            simpa using this
          · rw [List.getElem?_append_right (by omega)] at hy
            obtain ⟨hj0, _⟩ := List.getElem?_eq_some_iff.1 hy
            simp only [List.length_singleton] at hj0
            have e0 : j - xs.length = 0 := by omega
            rw [e0] at hy
            rw [List.append_assoc, List.getElem?_append_right (by rw [List.length_take, hcl]; omega), List.length_take, hcl, Nat.min_eq_left (by omega), show o + j - (o + xs.length) = 0 by omega]
            simp at hy ⊢
            rw [hy]
    · have hold : ∀ j u, (xs.map enc)[j]? = some u → w.cell? ((⟨g, o, none⟩ : Addr).add j) = some u := fun j u hu => by
        rw [List.getElem?_map] at hu
        cases hy : xs[j]? with
        | none => rw [hy] at hu; cases hu
        | some y =>
          rw [hy] at hu
          obtain rfl : enc y = u := by simpa using hu
          rw [addr_add, cell_of_row _ _ _ _ e (0, 0) hh]
          exact hxs j y hy
      have hr := run_append_grow (P := P) w t ty e i z ht hi hz ⟨g, o, none⟩ xs.length cap (xs.map enc) (by rw [hsz, List.length_map, Nat.mul_one]) hold ⟨q, 0, none⟩ 1 1 [enc x] (by rw [hsz]; rfl) hnew (by omega) (by omega) (growslice_fits (by omega) (by rw [hby]; have : (xs.length + 1) * bytes ≤ 1001 * 16 := Nat.mul_le_mul (by omega) hb16; omega))
      refine ⟨_, _, w.heap.size :: T, hr, made (xs.length + 1) cap rfl (xs.map enc) (by simp) (fun j y hy => by rw [List.getElem?_map, hy]; rfl), hgr _, fun b hb => List.mem_cons_of_mem _ hb, [], Turn.of_below (((Below.refl w.heap.size w).drew).alloc (Nat.le_refl _) _), by simp⟩
end Go.Proofs.Ytoccgbfnbpkphaa
