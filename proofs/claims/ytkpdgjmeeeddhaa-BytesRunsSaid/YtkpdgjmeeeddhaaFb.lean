/- A pool's calls that turn it. -/
import Derived.Test.YtkpdgjmeeeddhaaFa
import Derived.Deep.MidRow
import Derived.Laws.CopyRow
import Derived.Laws.IdiomCopy
namespace Go.Proofs.Ytkpdgjmeeeddhaa
open Go.RowKit
set_option linter.unusedVariables false
set_option linter.unusedSimpArgs false
/-- A frame's cells. -/
def Zf (o : Nat) : List Value := .int .u64 (o : Int) :: Y Fr.zeros
theorem Zf_len (o : Nat) : (Zf o).length = 65 := rfl
theorem Zf_one (o : Nat) : ∀ v ∈ Zf o, v.oneCell' = true := fun v hv => by
  rcases List.mem_cons.1 hv with rfl | hv
  · rfl
  · exact Y_one _ v hv
theorem zeros_at {j x : Nat} (h : Fr.zeros[j]? = some x) : j < 64 ∧ x = 0 := by
  unfold Fr.zeros at h
  rw [List.getElem?_replicate] at h
  split at h
  · injection h with h; exact ⟨by assumption, h.symm⟩
  · cases h
theorem zeros_get {j : Nat} (h : j < 64) : Fr.zeros[j]? = some 0 := by unfold Fr.zeros; rw [List.getElem?_replicate, if_pos h]
theorem info57 : (Try.prog.info? 68).map (fun i => (i.zero, i.size, i.bytes)) = some (some (.agg (Zf 0).toArray), 65, 72) := by kernel_rfl
theorem size57 : (Try.prog.info? 68).map (·.size) = some 65 := by kernel_rfl
theorem splice_get {α : Type} (L cs : List α) (o i : Nat) (h : o + cs.length ≤ L.length) : (splice L o cs)[i]? = if i < o then L[i]? else if i < o + cs.length then cs[i - o]? else L[i]? := by
  unfold splice
  rw [List.getElem?_append, List.length_take, Nat.min_eq_left (by omega)]
  by_cases h1 : i < o
  · rw [if_pos h1, if_pos h1, List.getElem?_take, if_pos h1]
  · rw [if_neg h1, if_neg h1, List.getElem?_append]
    by_cases h2 : i < o + cs.length
    · rw [if_pos h2, if_pos (by omega)]
    · rw [if_neg h2, if_neg (by omega), List.getElem?_drop]
      congr 1
      omega
theorem splice_step {α : Type} (cs r : List α) (o : Nat) (v : α) (h : o + (r.length + 1) ≤ cs.length) : splice (cs.set o v) (o + 1) r = splice cs o (v :: r) := by
  apply List.ext_getElem?
  intro i
  rw [splice_get _ _ _ _ (by rw [List.length_set]; omega), splice_get _ _ _ _ (by simpa using h), List.length_cons]
  by_cases h1 : i < o
  · rw [if_pos (by omega), if_pos h1, List.getElem?_set_ne (by omega)]
  · rw [if_neg h1]
    by_cases h2 : i = o
    · subst h2
      rw [if_pos (by omega), if_pos (by omega), Nat.sub_self, List.getElem?_set_self (by omega)]
      rfl
    · rw [if_neg (by omega)]
      by_cases h3 : i < o + (r.length + 1)
      · rw [if_pos (by omega), if_pos h3, show i - o = (i - (o + 1)) + 1 by omega]
        rfl
      · rw [if_neg (by omega), if_neg h3, List.getElem?_set_ne (by omega)]
/-- Cells that are stored one behind the other. -/
theorem setCells_heap (b : Nat) (t : TypeId) : ∀ (vs : List Value) (o : Nat) (w : World) (cs : List Value), w.heap[b]? = some (Obj.cells cs.toArray t) → o + vs.length ≤ cs.length → (w.setCells b o vs).heap[b]? = some (Obj.cells (splice cs o vs).toArray t)
  | [], o, w, cs, h, _ => by
      unfold World.setCells splice
      simpa using h
  | v :: r, o, w, cs, h, hl => by
      unfold World.setCells
      simp only [List.length_cons] at hl
      have h1 := heap_setCell_same w b o cs.toArray t v h
      rw [List.setIfInBounds_toArray] at h1
      rw [setCells_heap b t r (o + 1) _ (cs.set o v) h1 (by simp; omega), splice_step cs r o v hl]
theorem setCells_other (b : Nat) : ∀ (vs : List Value) (o : Nat) (w : World) (k : Nat), k ≠ b → (w.setCells b o vs).heap[k]? = w.heap[k]?
  | [], o, w, k, h => rfl
  | v :: r, o, w, k, h => by
      unfold World.setCells
      rw [setCells_other b r (o + 1) _ k h, heap_setCell_other _ _ _ _ h]
theorem setCells_turn (b : Nat) : ∀ (vs : List Value) (o : Nat) (w : World), Turn [b] w (w.setCells b o vs)
  | [], o, w => Turn.refl _ _
  | v :: r, o, w => by
      unfold World.setCells
      refine Turn.trans ?_ (setCells_turn b r (o + 1) _) (fun x hx => .inl hx)
      exact ⟨rfl, rfl, rfl, by simp, fun k _ hn => heap_setCell_other _ _ _ _ (fun e => hn (by simp [e]))⟩
/-- A frame is charged. -/
theorem Fs.charge {os : List Nat} {ds : List (List Nat)} {cs : List Value} (h : Fs os ds cs) {k o : Nat} (hk : k < os.length) (ho : o < 18446744073709551616) : Fs (os.set k o) (ds.set k Fr.zeros) (splice cs (k * 65) (Zf o)) := by
  obtain ⟨f1, f2, f3, f4⟩ := h
  have hl : k * 65 + (Zf o).length ≤ cs.length := by rw [Zf_len]; omega
  refine ⟨by rw [length_splice _ _ _ hl, List.length_set, f1], by simp [f2], fun i x hx => ?_, fun i d hd => ?_⟩
  · rw [splice_get _ _ _ _ hl, Zf_len]
    rw [List.getElem?_set] at hx
    by_cases hi : k = i
    · subst hi
      rw [if_pos rfl, if_pos hk] at hx
      injection hx with hx
      subst hx
      refine ⟨ho, ?_⟩
      rw [if_neg (by omega), if_pos (by omega), Nat.sub_self]
      rfl
    · rw [if_neg hi] at hx
      have := f3 i x hx
      refine ⟨this.1, ?_⟩
      by_cases hlt : i * 65 < k * 65
      · rw [if_pos hlt]; exact this.2
      · rw [if_neg hlt, if_neg (by omega)]; exact this.2
  · rw [List.getElem?_set] at hd
    by_cases hi : k = i
    · subst hi
      rw [if_pos rfl, if_pos (by omega)] at hd
      injection hd with hd
      subst hd
      refine ⟨rfl, fun x hx => ?_, fun j x hj => ?_⟩
      · rw [(List.mem_replicate.1 hx).2]; omega
      · obtain ⟨hj', rfl⟩ := zeros_at hj
        rw [splice_get _ _ _ _ hl, Zf_len, if_neg (by omega), if_pos (by omega), show k * 65 + 1 + j - k * 65 = j + 1 by omega]
        show (Y Fr.zeros)[j]? = _
        exact Y_at hj
    · rw [if_neg hi] at hd
      obtain ⟨g1, g2, g3⟩ := f4 i d hd
      refine ⟨g1, g2, fun j x hj => ?_⟩
      have hj64 : j < 64 := by rw [← g1]; exact (List.getElem?_eq_some_iff.1 hj).1
      rw [splice_get _ _ _ _ hl, Zf_len]
      by_cases hlt : i * 65 + 1 + j < k * 65
      · rw [if_pos hlt]; exact g3 j x hj
      · rw [if_neg hlt, if_neg (by omega)]; exact g3 j x hj
/-- A frame is freed. -/
theorem Fs.free {os : List Nat} {ds : List (List Nat)} {cs : List Value} (h : Fs os ds cs) {k : Nat} (hk : k < os.length) : Fs (os.set k 0) ds (cs.set (k * 65) (.int .u64 0)) := by
  obtain ⟨f1, f2, f3, f4⟩ := h
  refine ⟨by simp [f1], by simp [f2], fun i x hx => ?_, fun i d hd => ?_⟩
  · rw [List.getElem?_set] at hx
    by_cases hi : k = i
    · subst hi
      rw [if_pos rfl, if_pos hk] at hx
      injection hx with hx
      subst hx
      exact ⟨by omega, by rw [List.getElem?_set_self (by omega)]; rfl⟩
    · rw [if_neg hi] at hx
      have := f3 i x hx
      exact ⟨this.1, by rw [List.getElem?_set_ne (by omega)]; exact this.2⟩
  · obtain ⟨g1, g2, g3⟩ := f4 i d hd
    refine ⟨g1, g2, fun j x hj => ?_⟩
    have hj64 : j < 64 := by rw [← g1]; exact (List.getElem?_eq_some_iff.1 hj).1
    rw [List.getElem?_set_ne (by omega)]
    exact g3 j x hj
theorem lay_len {l b : List Nat} {o : Nat} (h : o + b.length ≤ l.length) : (Fr.lay l o b).length = l.length := by unfold Fr.lay; simp; omega
theorem lay_get (l b : List Nat) (o i : Nat) (h : o + b.length ≤ l.length) : (Fr.lay l o b)[i]? = if i < o then l[i]? else if i < o + b.length then b[i - o]? else l[i]? := by
  have := splice_get l b o i h
  unfold splice at this
  unfold Fr.lay
  rw [List.append_assoc]
  exact this
/-- Bytes are laid. -/
theorem Fs.lay {os : List Nat} {ds : List (List Nat)} {cs : List Value} (h : Fs os ds cs) {k a : Nat} {b : List Nat} (hk : k < os.length) (ha : a + b.length ≤ 64) (hb : ∀ x ∈ b, x < 256) : Fs os (ds.set k (Fr.lay (ds.getD k []) a b)) (splice cs (k * 65 + 1 + a) (Y b)) := by
  obtain ⟨f1, f2, f3, f4⟩ := h
  have hl : k * 65 + 1 + a + (Y b).length ≤ cs.length := by rw [Y_len]; omega
  refine ⟨by rw [length_splice _ _ _ hl, f1], by simp [f2], fun i x hx => ?_, fun i d hd => ?_⟩
  · refine ⟨(f3 i x hx).1, ?_⟩
    rw [splice_get _ _ _ _ hl, Y_len]
    by_cases hlt : i * 65 < k * 65 + 1 + a
    · rw [if_pos hlt]; exact (f3 i x hx).2
    · rw [if_neg hlt, if_neg (by omega)]; exact (f3 i x hx).2
  · have e0 : ds[k]? = some (ds.getD k []) := by rw [List.getD_eq_getElem?_getD, List.getElem?_eq_getElem (by omega)]; rfl
    obtain ⟨q1, q2, q3⟩ := f4 k _ e0
    generalize ds.getD k [] = d0 at hd e0 q1 q2 q3
    rw [List.getElem?_set] at hd
    by_cases hi : k = i
    · subst hi
      rw [if_pos rfl, if_pos (by omega)] at hd
      injection hd with hd
      subst hd
      have hl0 : a + b.length ≤ d0.length := by omega
      refine ⟨by rw [lay_len hl0, q1], fun x hx => ?_, fun j x hj => ?_⟩
      · unfold Fr.lay at hx
        rcases List.mem_append.1 hx with hx | hx
        · rcases List.mem_append.1 hx with hx | hx
          · exact q2 x (List.mem_of_mem_take hx)
          · exact hb x hx
        · exact q2 x (List.mem_of_mem_drop hx)
      · rw [lay_get _ _ _ _ hl0] at hj
        rw [splice_get _ _ _ _ hl, Y_len]
        by_cases h1 : j < a
        · rw [if_pos h1] at hj
          rw [if_pos (by omega)]
          exact q3 j x hj
        · rw [if_neg h1] at hj
          rw [if_neg (by omega)]
          by_cases h2 : j < a + b.length
          · rw [if_pos h2] at hj
            rw [if_pos (by omega), show k * 65 + 1 + j - (k * 65 + 1 + a) = j - a by omega]
            exact Y_at hj
          · rw [if_neg h2] at hj
            rw [if_neg (by omega)]
            exact q3 j x hj
    · rw [if_neg hi] at hd
      obtain ⟨g1, g2, g3⟩ := f4 i d hd
      refine ⟨g1, g2, fun j x hj => ?_⟩
      have hj64 : j < 64 := by rw [← g1]; exact (List.getElem?_eq_some_iff.1 hj).1
      rw [splice_get _ _ _ _ hl, Y_len]
      by_cases hlt : i * 65 + 1 + j < k * 65 + 1 + a
      · rw [if_pos hlt]; exact g3 j x hj
      · rw [if_neg hlt, if_neg (by omega)]; exact g3 j x hj
theorem run_make57 (w : World) (N : Nat) (h : N ≤ 4096) : (Instr.makeSlice 54 (.int .i64 (N : Int)) (.int .i64 (N : Int))).run Try.prog w = .ok (.slice (some ⟨w.heap.size, 0, none⟩) N N) (w.alloc (Obj.cells (madeCells (Zf 0).toArray (N * 65)) 68)) := by
  obtain ⟨i0, hi, hz0, hz1, hz2⟩ := info_parts info57
  have := run_make (P := Try.prog) w 54 68 i0 (.agg (Zf 0).toArray) Try.underlying54 hi hz0 .i64 .i64 N N (by omega) (Int.le_refl _) (by rw [hz2]; omega) (by omega)
  rw [this, hz1]
  rfl
theorem made_Fs (N : Nat) : Fs (List.replicate N 0) (List.replicate N Fr.zeros) (madeCells (Zf 0).toArray (N * 65)).toList := by
  have hg : ∀ i, i < N * 65 → (madeCells (Zf 0).toArray (N * 65)).toList[i]? = (Zf 0)[i % 65]? := fun i hi => by
    unfold madeCells
    simp only [Array.toList_map, Array.toList_range, List.getElem?_map]
    rw [List.getElem?_range hi]
    have e : (Zf 0).toArray.size = 65 := rfl
    rw [Option.map_some, e, List.getElem?_eq_getElem (by rw [Zf_len]; omega)]
    congr 1
    simp [getElem!_def, Zf_len, Nat.mod_lt]
  refine ⟨by simp [madeCells]; omega, by simp, fun i o ho => ?_, fun i d hd => ?_⟩
  · rw [List.getElem?_replicate] at ho
    split at ho
    · injection ho with ho
      subst ho
      exact ⟨by omega, by rw [hg _ (by omega), Nat.mul_mod_left]; rfl⟩
    · cases ho
  · rw [List.getElem?_replicate] at hd
    split at hd
    · injection hd with hd
      subst hd
      refine ⟨rfl, fun x hx => ?_, fun j x hj => ?_⟩
      · rw [(List.mem_replicate.1 hx).2]; omega
      · obtain ⟨hj', rfl⟩ := zeros_at hj
        rw [hg _ (by omega), show (i * 65 + 1 + j) % 65 = j + 1 by omega]
        show (Y Fr.zeros)[j]? = _
        exact Y_at hj
    · cases hd
end Go.Proofs.Ytkpdgjmeeeddhaa
