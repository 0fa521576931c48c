/- Rows of elements of several cells each: what was read of one is read of it behind an append, too. -/
import Derived.Test.YtmadldgajjgbmaaVs
set_option linter.unusedVariables false
set_option linter.unusedSimpArgs false
namespace Go.Proofs.Ytmadldgajjgbmaa
open Go.RowKit
set_option linter.unusedVariables false
set_option linter.unusedSimpArgs false
section
variable {α : Type} {e : TypeId} {sz : Nat} {enc : α → List Value} {w w' : World} {own own' : Nat → Prop} {v : Value} {xs ys : List α} {A : Option Addr}
/-- Some are appended. -/
theorem append_rv2 {P : Program} (t ty : TypeId) (i : TypeInfo) (z : Value) (bytes : Nat) (ht : P.underlying t = some (.slice e)) (hi : P.info? e = some i) (hz : i.zero = some z) (hsz : i.size = sz) (hby : i.bytes = bytes) (hb16 : bytes ≤ 1024) (hzc : z.cells.size = sz)
    (hs : ∀ x, (enc x).length = sz) (h1 : ∀ y, ∀ u ∈ enc y, u.oneCell' = true) (hsz0 : 0 < sz) (h : RV own e sz enc w v xs) (hl : xs.length + ys.length ≤ 100000) (A2 : Option Addr) (c2 : Nat) (hc2 : ys.length ≤ c2) (hr : LV sz enc w A2 ys) :
    ∃ v' w', (Builtin.append_ #[t, t] ty #[v, .slice A2 ys.length c2]).run P w = .ok v' w' ∧ RV (fun b => own b ∨ w.heap.size ≤ b) e sz enc w' v' (xs ++ ys) ∧ (∃ S, Turn S w w' ∧ ∀ b ∈ S, own b ∧ ∃ cur, w.heap[b]? = some (Obj.cells cur e)) ∧ RV own e sz enc w' v xs := by
  have hone : ∀ u ∈ ys.flatMap enc, u.oneCell' = true := fun u hu => by
    obtain ⟨y, _, hy⟩ := List.mem_flatMap.1 hu
    exact h1 y u hy
  have fl : ∀ zs : List α, (zs.flatMap enc).length = zs.length * sz := flat_len hs
  have made : ∀ (need old : Nat), need = xs.length + ys.length →
      RV (fun b => own b ∨ w.heap.size ≤ b) e sz enc (w.drew.alloc (.cells ((xs.flatMap enc).toArray ++ (ys.flatMap enc).toArray ++ Builtin.zeroCells z.cells (grownCap w need old e - need)) e)) (.slice (some ⟨w.heap.size, 0, none⟩) need (grownCap w need old e)) (xs ++ ys) := by
    intro need old hn
    have hge := grownCap_ge w need old e
    refine .inr ⟨w.heap.size, 0, grownCap w need old e, _, by rw [List.length_append, hn], .inr (Nat.le_refl _), heap_alloc_new w.drew _, ?_, by rw [List.length_append]; omega, grownCap_le_maxLen _ _ _ _ (by unfold maxLen; omega), fun j y hy j' u hu => ?_⟩
    · simp only [Array.size_append, List.size_toArray, size_zeroCells, hzc, fl]
      have : grownCap w need old e * sz = xs.length * sz + ys.length * sz + (grownCap w need old e - need) * sz := by rw [← Nat.add_mul, ← Nat.add_mul]; congr 1; omega
      have h2 : (grownCap w need old e - need) * sz = sz * (grownCap w need old e - need) := Nat.mul_comm _ _
      omega
    · have hg := flat_get hs _ _ _ _ _ hy hu
      rw [List.flatMap_append] at hg
      have hlt := (List.getElem?_eq_some_iff.1 hg).1
      rw [List.length_append] at hlt
      rw [Nat.zero_add, Array.getElem?_append_left (by simp only [Array.size_append, List.size_toArray]; exact hlt), List.append_toArray, List.getElem?_toArray]
      exact hg
  have new : ∀ {b o : Nat}, A2 = some ⟨b, o, none⟩ → ∀ j u, (ys.flatMap enc)[j]? = some u → w.cell? ((⟨b, o, none⟩ : Addr).add j) = some u := fun {b o} ha j u hu => by
    obtain ⟨i, j', x, h1, h2, rfl⟩ := flat_at hs _ _ _ hu
    rw [ha] at hr
    rw [addr_add, ← Nat.add_assoc]
    exact hr.at_ h1 h2
  have nothing : ∀ (s n c : Nat) (a : Option Addr), ys = [] → n ≤ c → ((Builtin.append_ #[t, t] ty #[.slice a n c, .slice A2 ys.length c2]).run P w = .ok (.slice a n c) w) := fun s n c a hy hn => by
    subst hy
    cases a <;> cases A2 <;> simp [Builtin.append_, run_underlying ht, sizeOf, typeInfo, hi, Builtin.lenOf, hn, Builtin.firstCells, loadCells, loadCellsFrom, storeCells]
  by_cases hy : ys = []
  · obtain ⟨A, c, rfl, hc, _⟩ := h.form
    refine ⟨_, w, nothing 0 _ _ _ hy hc, ?_, ⟨[], Turn.refl _ _, by simp⟩, h⟩
    subst hy
    rw [List.append_nil]
    exact h.keep fun b cur hb _ => ⟨.inl hb, rfl⟩
  have hy0 : 0 < ys.length := by cases ys with | nil => exact absurd rfl hy | cons _ _ => simp
  obtain ⟨b2, o2, rfl⟩ := hr.some_ hy0
  have hnew := new rfl
  rcases h with ⟨rfl, rfl⟩ | ⟨g, o, cap, cur, rfl, hg, hh, ho, hn, hcm, hxs⟩
  · have hr := run_append_nil (P := P) w t ty e i z ht hi hz ⟨b2, o2, none⟩ ys.length c2 (ys.flatMap enc) (by rw [hsz, fl]) hnew (by omega) (by simp at hl; omega) (by rw [hby]; have : ys.length * bytes ≤ 100000 * 1024 := Nat.mul_le_mul (by simp at hl; omega) hb16; omega)
    refine ⟨_, _, hr, ?_, ⟨[], Turn.of_below (((Below.refl w.heap.size w).drew).alloc (Nat.le_refl _) _), by simp⟩, .inl ⟨rfl, rfl⟩⟩
    have := made ys.length 0 (by simp)
    simpa using this
  · by_cases hroom : xs.length + ys.length ≤ cap
    · have hmul : xs.length * sz + ys.length * sz ≤ cap * sz := by rw [← Nat.add_mul]; exact Nat.mul_le_mul_right sz hroom
      have hf := run_firstCells_some (P := P) w i.size ys.length ⟨b2, o2, none⟩ ys.length c2 (ys.flatMap enc) (by rw [hsz, fl]) hnew
      have hst := run_storeCells_at P g (o + xs.length * sz) e (ys.flatMap enc) 0 cur w hh (by simp only [fl]; omega) hone
      simp only [Nat.add_zero] at hst
      have ha : (⟨g, o, none⟩ : Addr).add (xs.length * i.size) = ⟨g, o + xs.length * sz, none⟩ := by rw [addr_add, hsz]
      refine ⟨.slice (some ⟨g, o, none⟩) (xs.length + ys.length) cap, w.setRow g (cur.toList.take (o + xs.length * sz) ++ ys.flatMap enc ++ cur.toList.drop (o + xs.length * sz + (ys.flatMap enc).length)).toArray, ?_, ?_, ⟨[g], Turn.row w g _, fun b hb => by rw [List.mem_singleton.1 hb]; exact ⟨hg, cur, hh⟩⟩, ?_⟩
      · simp [Builtin.append_, run_underlying ht, sizeOf, typeInfo, hi, Builtin.lenOf, hroom, hf, ha, hst]
      · have hcl : cur.toList.length = cur.size := Array.length_toList
        refine .inr ⟨g, o, cap, _, by rw [List.length_append], .inl hg, setRow_heap w g cur _ e _ hh, ?_, by rw [List.length_append]; exact hroom, hcm, fun j y hy j' u hu => ?_⟩
        · simp only [List.size_toArray, List.length_append, List.length_take, List.length_drop, Array.length_toList, fl]
          omega
        · rw [List.getElem?_toArray]
          have hj' : j' < sz := by rw [← hs y]; exact (List.getElem?_eq_some_iff.1 hu).1
          by_cases hj : j < xs.length
          · rw [List.getElem?_append_left hj] at hy
            have hjm : (j + 1) * sz ≤ xs.length * sz := Nat.mul_le_mul_right sz hj
            rw [Nat.succ_mul] at hjm
            rw [List.append_assoc, List.getElem?_append_left (by rw [List.length_take, hcl]; omega), List.getElem?_take, if_pos (by omega)]
            have := hxs j y hy j' u hu
            simpa using this
          · have hjl := (List.getElem?_eq_some_iff.1 hy).1
            rw [List.length_append] at hjl
            rw [List.getElem?_append_right (by omega)] at hy
            have hjm : (j - xs.length + 1) * sz ≤ ys.length * sz := Nat.mul_le_mul_right sz (by omega)
            rw [Nat.succ_mul] at hjm
            have hjs : j * sz = xs.length * sz + (j - xs.length) * sz := by rw [← Nat.add_mul]; congr 1; omega
            rw [List.append_assoc, List.getElem?_append_right (by rw [List.length_take, hcl]; omega), List.length_take, hcl, Nat.min_eq_left (by omega), List.getElem?_append_left (by rw [fl]; omega), show o + j * sz + j' - (o + xs.length * sz) = (j - xs.length) * sz + j' by omega]
            exact flat_get hs _ _ _ _ _ hy hu
      · have hcl : cur.toList.length = cur.size := Array.length_toList
        refine .inr ⟨g, o, cap, _, rfl, hg, setRow_heap w g cur _ e _ hh, ?_, hn, hcm, fun j y hy j' u hu => ?_⟩
        · simp only [List.size_toArray, List.length_append, List.length_take, List.length_drop, Array.length_toList, fl]
          omega
        · rw [List.getElem?_toArray]
          have hj' : j' < sz := by rw [← hs y]; exact (List.getElem?_eq_some_iff.1 hu).1
          have hj := (List.getElem?_eq_some_iff.1 hy).1
          have hjm : (j + 1) * sz ≤ xs.length * sz := Nat.mul_le_mul_right sz hj
          rw [Nat.succ_mul] at hjm
          rw [List.append_assoc, List.getElem?_append_left (by rw [List.length_take, hcl]; omega), List.getElem?_take, if_pos (by omega)]
          have := hxs j y hy j' u hu
          simpa using this
    · have hold : ∀ j u, (xs.flatMap enc)[j]? = some u → w.cell? ((⟨g, o, none⟩ : Addr).add j) = some u := fun j u hu => by
        obtain ⟨i, j', x, h1, h2, rfl⟩ := flat_at hs _ _ _ hu
        rw [addr_add, cell_of_row _ _ _ _ e (0, 0) hh, ← Nat.add_assoc]
        exact hxs i x h1 j' u h2
      have hr := run_append_grow (P := P) w t ty e i z ht hi hz ⟨g, o, none⟩ xs.length cap (xs.flatMap enc) (by rw [hsz, fl]) hold ⟨b2, o2, none⟩ ys.length c2 (ys.flatMap enc) (by rw [hsz, fl]) hnew (by omega) (by omega) (growslice_fits (by omega) (by rw [hby]; have : (xs.length + ys.length) * bytes ≤ 100000 * 1024 := Nat.mul_le_mul (by omega) hb16; omega))
      have hb2 := ((Below.refl w.heap.size w).drew).alloc (Nat.le_refl _) (.cells ((xs.flatMap enc).toArray ++ (ys.flatMap enc).toArray ++ Builtin.zeroCells z.cells (grownCap w (xs.length + ys.length) cap e - (xs.length + ys.length))) e)
      exact ⟨_, _, hr, made (xs.length + ys.length) cap rfl, ⟨[], Turn.of_below hb2, by simp⟩, .inr ⟨g, o, cap, cur, rfl, hg, (hb2.block g (Array.getElem?_eq_some_iff.1 hh).1).trans hh, ho, hn, hcm, hxs⟩⟩
end
end Go.Proofs.Ytmadldgajjgbmaa
