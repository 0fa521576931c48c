/- What any law stands on: what a call turns; lists that are read, and rows of one's own. -/
import Derived.Test.YtjbaniclcaiehaaDoorRows
import Derived.WalkKit
import Derived.Lib.Walk
import Derived.Lib.Hide
import Derived.BigCall
import Derived.BigGuard
import Derived.IntWalk
import Derived.Laws.Rows
import Derived.Laws.MakeOwn
import Derived.Laws.CopyOwn
import Derived.Laws.AppendOwn
import Derived.Laws.OwnMore
import Derived.Below
import Derived.WideShapes
import Derived.Deep.LoopGhost
import Derived.Deep.DeepCutAuto
import Derived.Deep.CutBlock
import Derived.Deep.QuietTactic
import Derived.Deep.RegionHeld3
import Derived.Lib.QuietBelow
import Derived.Lib.MinMax
import Derived.Lib.SliceRun
import Derived.Lib.AppendZerosOnto
namespace Go.Proofs.YtjbaniclcaiehaaDoor
open Go.RowKit
set_option linter.unusedVariables false
set_option linter.unusedSimpArgs false
theorem addr_add (b off j : Nat) : (⟨b, off, none⟩ : Addr).add j = ⟨b, off + j, none⟩ := by
  unfold Addr.add; split <;> simp_all
theorem below_alloc1 (w : World) (o : Obj) : Below w.heap.size w (w.alloc o) := (Below.refl _ _).alloc (Nat.le_refl _) _
/-- Only what is listed has turned, and what is new. -/
structure Turn (S : List Nat) (w w' : World) : Prop where
  os : w'.os = w.os
  tape : w'.tape = w.tape
  output : w'.output = w.output
  size : w.heap.size ≤ w'.heap.size
  block : ∀ k, k < w.heap.size → k ∉ S → w'.heap[k]? = w.heap[k]?
theorem Turn.refl (S : List Nat) (w : World) : Turn S w w := ⟨rfl, rfl, rfl, Nat.le_refl _, fun _ _ _ => rfl⟩
theorem Turn.of_below {S : List Nat} {w w' : World} (h : Below w.heap.size w w') : Turn S w w' := ⟨h.os, h.tape, h.output, h.size, fun k hk _ => h.block k hk⟩
theorem Turn.below {S : List Nat} {w w' : World} (h : Turn S w w') {X : Nat} (hX : X ≤ w.heap.size) (hS : ∀ b ∈ S, X ≤ b) : Below X w w' :=
  ⟨h.os, h.tape, h.output, h.size, fun k hk => h.block k (by omega) fun hm => by have := hS k hm; omega⟩
theorem Turn.trans {S S' : List Nat} {a b c : World} (h : Turn S a b) (k : Turn S' b c) (hs : ∀ x ∈ S', x ∈ S ∨ a.heap.size ≤ x) : Turn S a c :=
  ⟨k.os.trans h.os, k.tape.trans h.tape, k.output.trans h.output, Nat.le_trans h.size k.size, fun i hi hn =>
    (k.block i (Nat.lt_of_lt_of_le hi h.size) fun hm => by rcases hs i hm with h | h; exact hn h; omega).trans (h.block i hi hn)⟩
theorem Turn.mono {S S' : List Nat} {w w' : World} (h : Turn S w w') (hs : ∀ b ∈ S, b ∈ S') : Turn S' w w' := ⟨h.os, h.tape, h.output, h.size, fun k hk hn => h.block k hk fun hm => hn (hs k hm)⟩
theorem Turn.set (w : World) (b i : Nat) (v : Value) : Turn [b] w (w.setCell ⟨b, i, none⟩ v) :=
  ⟨rfl, rfl, rfl, by simp, fun k _ hn => heap_setCell_other _ _ _ _ (fun e => hn (by simp [e]))⟩
theorem Turn.row (w : World) (b : Nat) (cs : Array Value) : Turn [b] w (w.setRow b cs) :=
  ⟨rfl, rfl, rfl, by simp [World.setRow], fun k hk hn => setRow_other w b k _ (fun e => hn (by simp [e]))⟩
theorem Turn.nil {w w' : World} (h : Turn [] w w') : Below w.heap.size w w' := h.below (Nat.le_refl _) (by simp)
theorem take_at {cur : Array Value} {n : Nat} {xs : List Value} (h : cur.toList.take n = xs) {j : Nat} {u : Value} (hu : xs[j]? = some u) : cur[j]? = some u := by
  rw [← h, List.getElem?_take] at hu
  split at hu
  · simpa using hu
  · cases hu
theorem wpList_append_by {P : Program} {ops : Array Oper} {rest : List Oper} {o : Oper} {a : Act} {w : World} {Q : Exit → Act → World → Prop} (hgd : o.guard = none) (d s : Operand) (dT sT : TypeId)
    (ho : o.op = .call { callee := .builtin .append, args := #[d, s], argTypes := #[dT, sT] }) (x y r : Value) (hd : a.eval d = x) (hs : a.eval s = y) (w' : World)
    (hrun : (Builtin.append_ #[dT, sT] o.type #[x, y]).run P w = .ok r w') (h : wpList P ops Q rest (a.put o.dst r) w') : wpList P ops Q (o :: rest) a w := by
  refine wpList_plain hgd fun K hK => ?_
  unfold Oper.wp
  simp [execOp, ho, resolve, invoke, builtin, hd, hs, hrun, Result.andThen]
  exact hK _ _ h
section
variable {α : Type} {e : TypeId} {enc : α → Value} {w w' : World} {own own' : Nat → Prop} {v : Value} {xs ys : List α} {A : Option Addr}
/-- A list that is read at A: elements of one cell each. -/
def LR (enc : α → Value) (w : World) (A : Option Addr) (xs : List α) : Prop := ∀ (i : Nat) (x : α), xs[i]? = some x → ∃ b off, A = some ⟨b, off, none⟩ ∧ b < w.heap.size ∧ w.cell? ⟨b, off + i, none⟩ = some (enc x)
theorem LR.nil (w : World) (A : Option Addr) : LR enc w A [] := fun i x h => by simp at h
theorem LR.below (h : LR enc w A xs) (hb : Below w.heap.size w w') : LR enc w' A xs := fun i x hi => by
  obtain ⟨b, off, h1, h2, h3⟩ := h i x hi
  exact ⟨b, off, h1, Nat.lt_of_lt_of_le h2 hb.size, by rw [hb.cell (p := ⟨b, _, none⟩) h2]; exact h3⟩
theorem LR.take (h : LR enc w A xs) (k : Nat) : LR enc w A (xs.take k) := fun i x hi => by
  rw [List.getElem?_take] at hi
  split at hi
  · exact h i x hi
  · cases hi
theorem LR.drop (h : LR enc w A xs) {k c : Nat} (hc : xs.length ≤ c) : LR enc w (if c = k then A else A.map (·.add k)) (xs.drop k) := fun i x hi => by
  rw [List.getElem?_drop] at hi
  have hl := (List.getElem?_eq_some_iff.1 hi).1
  rw [if_neg (by omega)]
  obtain ⟨b, off, rfl, h2, h3⟩ := h _ x hi
  exact ⟨b, off + k, by rw [Option.map_some, addr_add], h2, by rw [← h3]; congr 2; omega⟩
theorem LR.at_ {b off : Nat} (h : LR enc w (some ⟨b, off, none⟩) xs) {i : Nat} {x : α} (hi : xs[i]? = some x) : w.cell? ⟨b, off + i, none⟩ = some (enc x) := by
  obtain ⟨b', off', e1, h2, h3⟩ := h i x hi
  injection e1 with e1
  injection e1 with e1 e2
  subst e1 e2
  exact h3
theorem LR.some_ (h : LR enc w A xs) (h0 : 0 < xs.length) : ∃ b off, A = some ⟨b, off, none⟩ := by
  obtain ⟨b, off, h1, _⟩ := h 0 (xs[0]'h0) (List.getElem?_eq_getElem h0)
  exact ⟨b, off, h1⟩
/-- A row in memory of which 'own' tells: nil, or a slice of a block of such cells. -/
def RW (own : Nat → Prop) (e : TypeId) (enc : α → Value) (w : World) (v : Value) (xs : List α) : Prop :=
  (xs = [] ∧ v = .slice none 0 0) ∨ ∃ g o cap cur, v = .slice (some ⟨g, o, none⟩) xs.length cap ∧ own g ∧ w.heap[g]? = some (Obj.cells cur e) ∧ o + cap ≤ cur.size ∧ xs.length ≤ cap ∧ cap ≤ maxLen ∧ ∀ (i : Nat) (x : α), xs[i]? = some x → cur[o + i]? = some (enc x)
theorem RW.nil (own : Nat → Prop) (w : World) : RW own e enc w (.slice none 0 0) [] := .inl ⟨rfl, rfl⟩
theorem RW.form (h : RW own e enc w v xs) : ∃ A c, v = .slice A xs.length c ∧ xs.length ≤ c ∧ c ≤ maxLen ∧ LR enc w A xs := by
  rcases h with ⟨rfl, rfl⟩ | ⟨g, o, cap, cur, rfl, _, h2, _, h1, h3, h4⟩
  · exact ⟨_, _, rfl, Nat.le_refl _, Nat.zero_le _, LR.nil _ _⟩
  · exact ⟨_, _, rfl, h1, h3, fun i x hi => ⟨g, o, rfl, (Array.getElem?_eq_some_iff.1 h2).1, by rw [cell_of_row _ _ _ _ e (0, 0) h2]; exact h4 i x hi⟩⟩
theorem RW.keep (h : RW own e enc w v xs) (hk : ∀ b cur, own b → w.heap[b]? = some (Obj.cells cur e) → own' b ∧ w'.heap[b]? = w.heap[b]?) : RW own' e enc w' v xs := by
  rcases h with h | ⟨g, o, cap, cur, h1, h2, h3, h4⟩
  · exact .inl h
  · obtain ⟨k1, k2⟩ := hk g cur h2 h3
    exact .inr ⟨g, o, cap, cur, h1, k1, k2.trans h3, h4⟩
theorem RW.lt {o n c : Nat} {g : Nat} (h : RW own e enc w (.slice (some ⟨g, o, none⟩) n c) xs) : own g ∧ ∃ cur, w.heap[g]? = some (Obj.cells cur e) := by
  rcases h with ⟨_, h⟩ | ⟨g', o', cap, cur, h1, h2, h3, _⟩
  · cases h
  · injection h1 with e1
    injection e1 with e1
    injection e1 with e1
    subst e1
    exact ⟨h2, cur, h3⟩
/-- Some are appended. -/
theorem append_rw {P : Program} (t ty : TypeId) (i : TypeInfo) (z : Value) (bytes : Nat) (ht : P.underlying t = some (.slice e)) (hi : P.info? e = some i) (hz : i.zero = some z) (hsz : i.size = 1) (hby : i.bytes = bytes) (hb16 : bytes ≤ 16) (hzc : z.cells.size = 1)
    (h1 : ∀ y, (enc y).oneCell' = true) (h : RW own e enc w v xs) (hl : xs.length + ys.length ≤ 100000) (A2 : Option Addr) (c2 : Nat) (hc2 : ys.length ≤ c2) (hr : LR enc w A2 ys) :
    ∃ v' w', (Builtin.append_ #[t, t] ty #[v, .slice A2 ys.length c2]).run P w = .ok v' w' ∧ RW (fun b => own b ∨ w.heap.size ≤ b) e enc w' v' (xs ++ ys) ∧ ∃ S, Turn S w w' ∧ ∀ b ∈ S, own b ∧ ∃ cur, w.heap[b]? = some (Obj.cells cur e) := by
  have hone : ∀ u ∈ ys.map enc, u.oneCell' = true := fun u hu => by
    obtain ⟨y, _, rfl⟩ := List.mem_map.1 hu
    exact h1 y
  have made : ∀ (need old : Nat), need = xs.length + ys.length → ∀ (olds : List Value), olds.length = xs.length → (∀ (j : Nat) (y : α), xs[j]? = some y → olds[j]? = some (enc y)) →
      RW (fun b => own b ∨ w.heap.size ≤ b) e enc (w.drew.alloc (.cells (olds.toArray ++ (ys.map enc).toArray ++ Builtin.zeroCells z.cells (grownCap w need old e - need)) e)) (.slice (some ⟨w.heap.size, 0, none⟩) need (grownCap w need old e)) (xs ++ ys) := by
    intro need old hn olds ho hol
    have hge := grownCap_ge w need old e
    refine .inr ⟨w.heap.size, 0, grownCap w need old e, _, by rw [List.length_append, hn], .inr (Nat.le_refl _), heap_alloc_new w.drew _, ?_, by rw [List.length_append]; omega, grownCap_le_maxLen _ _ _ _ (by unfold maxLen; omega), fun j y hy => ?_⟩
    · simp only [Array.size_append, List.size_toArray, size_zeroCells, hzc, ho, List.length_map]
      omega
    · have hjl := (List.getElem?_eq_some_iff.1 hy).1
      rw [List.length_append] at hjl
      rw [Nat.zero_add, Array.getElem?_append_left (by simp only [Array.size_append, List.size_toArray, ho, List.length_map]; omega), List.append_toArray, List.getElem?_toArray]
      by_cases hj : j < xs.length
      · rw [List.getElem?_append_left hj] at hy
        rw [List.getElem?_append_left (by rw [ho]; exact hj)]
        exact hol j y hy
      · rw [List.getElem?_append_right (by omega)] at hy
        rw [List.getElem?_append_right (by rw [ho]; omega), ho, List.getElem?_map, hy]
        rfl
  have new : ∀ {b o : Nat}, A2 = some ⟨b, o, none⟩ → ∀ j u, (ys.map enc)[j]? = some u → w.cell? ((⟨b, o, none⟩ : Addr).add j) = some u := fun {b o} ha j u hu => by
    rw [List.getElem?_map] at hu
    cases hy : ys[j]? with
    | none => rw [hy] at hu; cases hu
    | some y =>
      rw [hy] at hu
      obtain rfl : enc y = u := by simpa using hu
      rw [addr_add]
      rw [ha] at hr
      exact hr.at_ hy
  have nothing : ∀ (s n c : Nat) (a : Option Addr), ys = [] → n ≤ c → ((Builtin.append_ #[t, t] ty #[.slice a n c, .slice A2 ys.length c2]).run P w = .ok (.slice a n c) w) := fun s n c a hy hn => by
    subst hy
    cases a <;> cases A2 <;> simp [Builtin.append_, run_underlying ht, sizeOf, typeInfo, hi, Builtin.lenOf, hn, Builtin.firstCells, loadCells, loadCellsFrom, storeCells]
  by_cases hy : ys = []
  · obtain ⟨A, c, rfl, hc, _⟩ := h.form
    refine ⟨_, w, nothing 0 _ _ _ hy hc, ?_, [], Turn.refl _ _, by simp⟩
    subst hy
    rw [List.append_nil]
    exact h.keep fun b cur hb _ => ⟨.inl hb, rfl⟩
  have hy0 : 0 < ys.length := by cases ys with | nil => exact absurd rfl hy | cons _ _ => simp
  obtain ⟨b2, o2, rfl⟩ := hr.some_ hy0
  have hnew := new rfl
  rcases h with ⟨rfl, rfl⟩ | ⟨g, o, cap, cur, rfl, hg, hh, ho, hn, hcm, hxs⟩
  · have hr := run_append_nil (P := P) w t ty e i z ht hi hz ⟨b2, o2, none⟩ ys.length c2 (ys.map enc) (by rw [hsz, List.length_map, Nat.mul_one]) hnew (by omega) (by simp at hl; omega) (by rw [hby]; have : ys.length * bytes ≤ 100000 * 16 := Nat.mul_le_mul (by simp at hl; omega) hb16; omega)
    refine ⟨_, _, hr, ?_, [], Turn.of_below (((Below.refl w.heap.size w).drew).alloc (Nat.le_refl _) _), by simp⟩
    have := made ys.length 0 (by simp) [] rfl (by simp)
    simpa using this
  · by_cases hroom : xs.length + ys.length ≤ cap
    · have hf := run_firstCells_some (P := P) w i.size ys.length ⟨b2, o2, none⟩ ys.length c2 (ys.map enc) (by rw [hsz, List.length_map, Nat.mul_one]) hnew
      have hst := run_storeCells_at P g (o + xs.length) e (ys.map enc) 0 cur w hh (by simp only [List.length_map]; omega) hone
      simp only [Nat.add_zero] at hst
      have ha : (⟨g, o, none⟩ : Addr).add (xs.length * i.size) = ⟨g, o + xs.length, none⟩ := by rw [addr_add, hsz, Nat.mul_one]
      refine ⟨.slice (some ⟨g, o, none⟩) (xs.length + ys.length) cap, w.setRow g (cur.toList.take (o + xs.length) ++ ys.map enc ++ cur.toList.drop (o + xs.length + (ys.map enc).length)).toArray, ?_, ?_, [g], Turn.row w g _, fun b hb => by rw [List.mem_singleton.1 hb]; exact ⟨hg, cur, hh⟩⟩
      · simp [Builtin.append_, run_underlying ht, sizeOf, typeInfo, hi, Builtin.lenOf, hroom, hf, ha, hst]
      · have hcl : cur.toList.length = cur.size := Array.length_toList
        refine .inr ⟨g, o, cap, _, by rw [List.length_append], .inl hg, setRow_heap w g cur _ e _ hh, ?_, by rw [List.length_append]; exact hroom, hcm, fun j y hy => ?_⟩
        · simp only [List.size_toArray, List.length_append, List.length_take, List.length_drop, Array.length_toList, List.length_map]
          omega
        · rw [List.getElem?_toArray]
          by_cases hj : j < xs.length
          · rw [List.getElem?_append_left hj] at hy
            rw [List.append_assoc, List.getElem?_append_left (by rw [List.length_take, hcl]; omega), List.getElem?_take, if_pos (by omega)]
            have := hxs j y hy
            simpa using this
          · have hjl := (List.getElem?_eq_some_iff.1 hy).1
            rw [List.length_append] at hjl
            rw [List.getElem?_append_right (by omega)] at hy
            rw [List.append_assoc, List.getElem?_append_right (by rw [List.length_take, hcl]; omega), List.length_take, hcl, Nat.min_eq_left (by omega), List.getElem?_append_left (by rw [List.length_map]; omega), show o + j - (o + xs.length) = j - xs.length by omega, List.getElem?_map, hy]
            rfl
    · have hold : ∀ j u, (xs.map enc)[j]? = some u → w.cell? ((⟨g, o, none⟩ : Addr).add j) = some u := fun j u hu => by
        rw [List.getElem?_map] at hu
        cases hy : xs[j]? with
        | none => rw [hy] at hu; cases hu
        | some y =>
          rw [hy] at hu
          obtain rfl : enc y = u := by simpa using hu
          rw [addr_add, cell_of_row _ _ _ _ e (0, 0) hh]
          exact hxs j y hy
      have hr := run_append_grow (P := P) w t ty e i z ht hi hz ⟨g, o, none⟩ xs.length cap (xs.map enc) (by rw [hsz, List.length_map, Nat.mul_one]) hold ⟨b2, o2, none⟩ ys.length c2 (ys.map enc) (by rw [hsz, List.length_map, Nat.mul_one]) hnew (by omega) (by omega) (growslice_fits (by omega) (by rw [hby]; have : (xs.length + ys.length) * bytes ≤ 100000 * 16 := Nat.mul_le_mul (by omega) hb16; omega))
      refine ⟨_, _, hr, made (xs.length + ys.length) cap rfl (xs.map enc) (by simp) (fun j y hy => by rw [List.getElem?_map, hy]; rfl), [], Turn.of_below (((Below.refl w.heap.size w).drew).alloc (Nat.le_refl _) _), by simp⟩
end
end Go.Proofs.YtjbaniclcaiehaaDoor
