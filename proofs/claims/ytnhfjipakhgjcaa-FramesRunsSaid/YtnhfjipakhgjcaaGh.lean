/- Owners as a law counts them. -/
import Derived.Test.YtnhfjipakhgjcaaGd
import Derived.Maps.OwnSet
import Derived.Maps.OwnOps
set_option linter.unusedVariables false
set_option linter.unusedSimpArgs false
namespace Fr
/-- Owners, by a rule. -/
def lst (n : Nat) (f : Nat → Nat) : List Nat := (List.range n).map f
theorem lst_len (n : Nat) (f : Nat → Nat) : (lst n f).length = n := by simp [lst]
theorem lst_get (n : Nat) (f : Nat → Nat) (i : Nat) : (lst n f)[i]? = if i < n then some (f i) else none := by
  unfold lst
  rw [List.getElem?_map]
  split
  · rw [List.getElem?_range (by assumption)]; rfl
  · rw [List.getElem?_eq_none (by simp; omega)]; rfl
theorem lst_getD (n : Nat) (f : Nat → Nat) (i : Nat) (h : i < n) : (lst n f).getD i 0 = f i := by
  rw [List.getD_eq_getElem?_getD, lst_get, if_pos h]; rfl
theorem lst_set (n : Nat) (f g : Nat → Nat) (k v : Nat) (h : ∀ i, i < n → g i = if i = k then v else f i) : (lst n f).set k v = lst n g := by
  apply List.ext_getElem?
  intro i
  rw [List.getElem?_set, lst_get, lst_get, lst_len]
  by_cases hi : i < n
  · rw [if_pos hi, if_pos hi, h i hi]
    by_cases e : k = i
    · subst e; rw [if_pos rfl, if_pos hi, if_pos rfl]
    · rw [if_neg e, if_neg (fun x => e x.symm)]
  · rw [if_neg hi, if_neg hi]
    split
    · subst_vars; rw [if_neg hi]
    · rfl
theorem lst_rep (n : Nat) : List.replicate n 0 = lst n (fun _ => 0) := by
  unfold lst
  apply List.ext_getElem?
  intro i
  rw [List.getElem?_map, List.getElem?_replicate]
  by_cases hi : i < n
  · rw [if_pos hi, List.getElem?_range hi]; rfl
  · rw [if_neg hi, List.getElem?_eq_none (by simp; omega)]; rfl
theorem least_some (n : Nat) (f : Nat → Nat) (k : Nat) (hk : k < n) (h0 : f k = 0) (h : ∀ i, i < k → f i ≠ 0) : least (lst n f) = some k := by
  unfold least
  rw [List.findIdx?_eq_some_iff_getElem]
  refine ⟨by rw [lst_len]; exact hk, ?_, fun j hj => ?_⟩
  · have := lst_get n f k
    rw [if_pos hk, List.getElem?_eq_getElem (by rw [lst_len]; exact hk)] at this
    injection this with this
    rw [this, h0]; rfl
  · have := lst_get n f j
    rw [if_pos (by omega), List.getElem?_eq_getElem (by rw [lst_len]; omega)] at this
    injection this with this
    rw [this]
    have := h j hj
    simp [this]
theorem least_none (n : Nat) (f : Nat → Nat) (h : ∀ i, i < n → f i ≠ 0) : least (lst n f) = none := by
  unfold least
  rw [List.findIdx?_eq_none_iff]
  intro x hx
  unfold lst at hx
  obtain ⟨i, hi, rfl⟩ := List.mem_map.1 hx
  have := h i (List.mem_range.1 hi)
  simp [this]
def cnt (g : Nat → Bool) (n : Nat) : Nat := (List.range n).countP g
theorem cnt_succ (g : Nat → Bool) (n : Nat) : cnt g (n + 1) = cnt g n + if g n = true then 1 else 0 := by
  unfold cnt; rw [List.range_succ, List.countP_append]; simp [List.countP_cons]
theorem cnt_congr (g h : Nat → Bool) : ∀ n, (∀ i, i < n → g i = h i) → cnt g n = cnt h n
  | 0, _ => rfl
  | n + 1, e => by rw [cnt_succ, cnt_succ, cnt_congr g h n (fun i hi => e i (by omega)), e n (by omega)]
theorem cnt_none (g : Nat → Bool) : ∀ n, (∀ i, i < n → g i = false) → cnt g n = 0
  | 0, _ => rfl
  | n + 1, e => by rw [cnt_succ, cnt_none g n (fun i hi => e i (by omega)), e n (by omega)]; rfl
theorem cnt_le (g : Nat → Bool) : ∀ n, cnt g n ≤ n
  | 0 => Nat.le_refl _
  | n + 1 => by have := cnt_le g n; rw [cnt_succ]; split <;> omega
theorem lst_count (f : Nat → Nat) (v : Nat) : ∀ n, (lst n f).count v = cnt (fun i => f i == v) n
  | 0 => rfl
  | n + 1 => by
      rw [cnt_succ, ← lst_count f v n]
      unfold lst
      rw [List.range_succ, List.map_append, List.count_append]
      simp [List.count_cons]
/-- One more is gone. -/
def upd (g : Nat → Bool) (j : Nat) : Nat → Bool := fun i => if i = j then true else g i
theorem cnt_upd (g : Nat → Bool) (j : Nat) : ∀ n, cnt (upd g j) n = cnt g n + if j < n ∧ g j = false then 1 else 0
  | 0 => by simp [cnt]
  | n + 1 => by
      rw [cnt_succ, cnt_succ, cnt_upd g j n]
      unfold upd
      by_cases e : n = j
      · subst e
        cases hg : g n <;> simp
      · rw [if_neg e]
        by_cases h : j < n
        · have h' : j < n + 1 := by omega
          cases hg : g j <;> simp [h, h', hg] <;> omega
        · have h' : ¬ j < n + 1 := by omega
          simp [h, h']
/-- Whose each frame is: first in turn; freed; given to another. -/
def o1 (k i : Nat) : Nat := if i < k then i % 3 + 1 else 0
def o2 (g : Nat → Bool) (k i : Nat) : Nat := if g i = true then (if i < k then 9 else 0) else i % 3 + 1
theorem o2_four (g : Nat → Bool) : ∀ n, cnt (fun i => o2 g n i == 1) n + cnt (fun i => o2 g n i == 2) n + cnt (fun i => o2 g n i == 3) n + cnt g n = n := by
  suffices h : ∀ m n, n ≤ m → cnt (fun i => o2 g m i == 1) n + cnt (fun i => o2 g m i == 2) n + cnt (fun i => o2 g m i == 3) n + cnt g n = n from fun n => h n n (Nat.le_refl _)
  intro m n
  induction n with
  | zero => intro _; rfl
  | succ n ih =>
    intro hm
    have := ih (by omega)
    rw [cnt_succ, cnt_succ, cnt_succ, cnt_succ]
    unfold o2 at this ⊢
    cases hg : g n
    · have h3 : n % 3 = 0 ∨ n % 3 = 1 ∨ n % 3 = 2 := by omega
      rcases h3 with h | h | h <;> simp [h] <;> omega
    · simp [show n < m by omega]; omega
theorem o2_nine (g : Nat → Bool) (n : Nat) : cnt (fun i => o2 g n i == 9) n = cnt g n := by
  refine cnt_congr _ _ n fun i hi => ?_
  unfold o2
  cases hg : g i
  · simp; omega
  · simp [hi]
theorem o2_none (g : Nat → Bool) (n : Nat) : ∀ i, i < n → o2 g n i ≠ 0 := by
  intro i hi
  unfold o2
  rw [show (if i < n then 9 else 0) = 9 from if_pos hi]
  split <;> omega
theorem o2_free (g : Nat → Bool) (n : Nat) : cnt (fun i => o2 g 0 i == 0) n = cnt g n := by
  refine cnt_congr _ _ n fun i hi => ?_
  unfold o2
  cases hg : g i <;> simp
end Fr
namespace Go.Proofs.Ytnhfjipakhgjcaa
open Go.RowKit Go.Maps
set_option linter.unusedVariables false
set_option linter.unusedSimpArgs false
theorem keyI : Keyed Try.prog 3 := int_keyed Try.underlying3
theorem zeroB (w : World) : (zeroValue 4).run Try.prog w = .ok (.bool false) w := by kernel_rfl
theorem plain_bool_inv {v : Value} {z : DataW Unit × List MemPlace} (h : plainElem Try.prog 4 v = some z) : ∃ x, v = .bool x ∧ z = (.lit (.bool x), []) := by
  unfold plainElem at h
  rw [Try.underlying4] at h
  cases v <;> simp at h
  subst h
  exact ⟨_, rfl, rfl⟩
/-- A map of what is gone: of 1 to n those of which g says so. -/
def Gone (w : World) (G m n : Nat) (g : Nat → Bool) : Prop := ∃ D : DataW Unit, w.ownsMap Try.prog 3 (plainElem Try.prog 4) G m D ∧
  (∀ i, i < n → D.atKey (.int .i64 ((i : Int) + 1)) (.lit (.bool false)) = .lit (.bool (g i))) ∧ (∀ i, i < n → Maps.has D (.int .i64 ((i : Int) + 1)) = g i) ∧ Maps.size D = Fr.cnt g n
theorem wf_small {x : Int} (h1 : -9223372036854775808 ≤ x) (h2 : x ≤ 9223372036854775807) : (Lit.int .i64 x).wf = true := by
  simp [Lit.wf, IntKind.min, IntKind.max, IntKind.signed, IntKind.bits]; omega
theorem key_num {x : Int} (h1 : -9223372036854775808 ≤ x) (h2 : x ≤ 9223372036854775807) : keyOf Try.prog 3 (.int .i64 x) = some (.int .i64 x) := keyOf_int_mk Try.underlying3 (wf_small h1 h2)
theorem Gone.new (w : World) (n : Nat) : Gone (w.alloc (.map #[] 0)) w.heap.size 0 n (fun _ => false) :=
  ⟨.map [], World.ownsMap_made _ _ _ _, fun i hi => rfl, fun i hi => rfl, by rw [Fr.cnt_none _ _ (fun i hi => rfl)]; rfl⟩
theorem Gone.same {w w' : World} {G m n : Nat} {g : Nat → Bool} (h : Gone w G m n g) (hs : w'.heap[G]? = w.heap[G]?) : Gone w' G m n g := by
  obtain ⟨D, ⟨es, clock, h1, h2⟩, h3⟩ := h
  exact ⟨D, ⟨es, clock, by rw [hs]; exact h1, h2⟩, h3⟩
theorem Gone.at_ {w : World} {G m n j : Nat} {g : Nat → Bool} {x : Int} (h : Gone w G m n g) (hj : j < n) (hn : n ≤ 4096) (hx : x = (j : Int) + 1) :
    (Instr.lookup 46 (.map (some G)) (.int .i64 x) false).run Try.prog w = .ok (.bool (g j)) w := by
  obtain ⟨D, ho, h1, _, _⟩ := h
  obtain ⟨v, ps, hrun, hv⟩ := ho.lookup keyI Try.underlying46 (zeroB w) (plainElem_bool Try.underlying4 false) (key_num (x := x) (by omega) (by omega))
  obtain ⟨y, rfl, hy⟩ := plain_bool_inv hv
  rw [hrun]
  rw [hx, h1 j hj] at hy
  injection hy with hy _
  injection hy with hy
  injection hy with hy
  rw [hy]
theorem Gone.len {w : World} {G m n : Nat} {g : Nat → Bool} (h : Gone w G m n g) (ty : TypeId) : (Builtin.len_ #[46] ty #[.map (some G)]).run Try.prog w = .ok (.int .i64 (Fr.cnt g n : Nat)) w := by
  obtain ⟨D, ho, _, _, h3⟩ := h
  rw [ho.len Try.underlying46, h3]
theorem Gone.store {w : World} {G m n j : Nat} {g : Nat → Bool} {x : Int} (h : Gone w G m n g) (hm : m < maxLen) (hj : j < n) (hn : n ≤ 4096) (hx : x = (j : Int) + 1) :
    ∃ w', (Instr.mapUpdate 46 (.map (some G)) (.int .i64 x) (.bool true)).run Try.prog w = .ok () w' ∧ Gone w' G (m + 1) n (Fr.upd g j) ∧ Turn [G] w w' := by
  obtain ⟨D, ho, h1, h2, h3⟩ := h
  obtain ⟨w', hrun, ho', hg⟩ := ho.update keyI Try.underlying46 hm (key_num (x := x) (by omega) (by omega)) (plainElem_bool Try.underlying4 true)
  have hk : WideAt.IsKeyLit (.int .i64 x) := keyI.key (key_num (x := x) (by omega) (by omega))
  refine ⟨w', hrun, ⟨_, ho', fun i hi => ?_, fun i hi => ?_, ?_⟩, ⟨hg.os, hg.tape, hg.output, hg.size, fun k hk hn => hg.block k hk (fun e => hn (by injection e with e; rw [e]; simp))⟩⟩
  · by_cases e : i = j
    · subst e; rw [← hx, atKey_put_same ho.isMap hk]; simp [Fr.upd]
    · rw [atKey_put_other (by rw [hx]; simp; omega), h1 i hi]; simp [Fr.upd, e]
  · by_cases e : i = j
    · subst e; rw [← hx, has_put_same ho.isMap hk]; simp [Fr.upd]
    · rw [has_put_other (by rw [hx]; simp; omega), h2 i hi]; simp [Fr.upd, e]
  · rw [size_put (ho.tidy keyI), Fr.cnt_upd, hx, h2 j hj, h3]
    cases g j <;> simp [hj]
end Go.Proofs.Ytnhfjipakhgjcaa
