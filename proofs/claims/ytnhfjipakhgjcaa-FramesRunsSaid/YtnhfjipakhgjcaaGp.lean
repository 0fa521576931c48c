/- A call of both: the model's play. Written by genGk.py. -/
import Derived.Test.YtnhfjipakhgjcaaGj
import Derived.Test.YtnhfjipakhgjcaaGf
import Derived.Test.YtnhfjipakhgjcaaGl
set_option linter.unusedVariables false
set_option linter.unusedSimpArgs false
namespace Fr
theorem own_out (os : List Nat) (f : Int) (h : ¬ (1 ≤ f ∧ f ≤ os.length)) : own os f = 0 := by unfold own; rw [if_neg h]
theorem own_in (os : List Nat) (i : Nat) (h : i < os.length) : own os ((i : Int) + 1) = os.getD i 0 := by
  unfold own; rw [if_pos (by omega)]; congr 1
/-- What a walk from behind has found. -/
def back (os : List Nat) (o j v N : Nat) : Prop := (o = 0 → v = 0) ∧ (o ≠ 0 → (v = 0 ∧ ∀ p, j ≤ p → p < N → os.getD p 0 ≠ 0) ∨ (∃ p, v = p + 1 ∧ j ≤ p ∧ p < N ∧ os.getD p 0 = 0 ∧ ∀ r, j ≤ r → r < p → os.getD r 0 ≠ 0))
theorem back_start (os : List Nat) (o N : Nat) : back os o N 0 N := ⟨fun _ => rfl, fun _ => .inl ⟨rfl, fun p h1 h2 => by omega⟩⟩
theorem back_hit {os : List Nat} {o j v N : Nat} (h : back os o (j + 1) v N) (ho : o ≠ 0) (hj : j < N) (hx : os.getD j 0 = 0) : back os o j (j + 1) N :=
  ⟨fun e => absurd e ho, fun _ => .inr ⟨j, rfl, Nat.le_refl _, hj, hx, fun r h1 h2 => by omega⟩⟩
theorem back_miss {os : List Nat} {o j v N : Nat} (h : back os o (j + 1) v N) (ho : o ≠ 0) (hx : os.getD j 0 ≠ 0) : back os o j v N := by
  refine ⟨fun e => absurd e ho, fun _ => ?_⟩
  rcases h.2 ho with ⟨h1, h2⟩ | ⟨p, h1, h2, h3, h4, h5⟩
  · exact .inl ⟨h1, fun p q1 q2 => by
      by_cases e : p = j
      · subst e; exact hx
      · exact h2 p (by omega) q2⟩
  · exact .inr ⟨p, h1, by omega, h3, h4, fun r q1 q2 => by
      by_cases e : r = j
      · subst e; exact hx
      · exact h5 r (by omega) q2⟩
theorem getD_lt (os : List Nat) (i : Nat) (h : i < os.length) : os.getD i 0 = os[i] := by rw [List.getD_eq_getElem?_getD, List.getElem?_eq_getElem h]; rfl
theorem back_end {os : List Nat} {o j v N : Nat} (h : back os o j v N) (hN : os.length = N) (hj : j = 0 ∨ o = 0) : (alloc os o).1 = v := by
  unfold alloc
  by_cases z : o = 0
  · rw [if_pos z, h.1 z]
  · obtain rfl : j = 0 := by rcases hj with e | e; exact e; exact absurd e z
    rw [if_neg z]
    rcases h.2 z with ⟨h1, h2⟩ | ⟨p, h1, _, h3, h4, h5⟩
    · have : least os = none := by
        unfold least
        rw [List.findIdx?_eq_none_iff]
        intro x hx
        obtain ⟨i, hi, rfl⟩ := List.mem_iff_getElem.1 hx
        have := h2 i (by omega) (by omega)
        rw [getD_lt os i hi] at this
        simp [this]
      rw [this, h1]
    · have : least os = some p := by
        unfold least
        rw [List.findIdx?_eq_some_iff_getElem]
        refine ⟨by omega, ?_, fun r hr => ?_⟩
        · rw [getD_lt os p (by omega)] at h4; rw [h4]; rfl
        · have := h5 r (by omega) hr
          rw [getD_lt os r (by omega)] at this
          simp [this]
      rw [this, h1]
theorem alloc_zero (os : List Nat) (ds : List (List Nat)) (o : Nat) (h : (alloc os o).1 = 0) : (alloc os o).2 = os ∧ allocD os ds o = ds := by
  unfold alloc allocD at *
  by_cases z : o = 0
  · simp [z]
  · rw [if_neg z] at h ⊢
    rw [if_neg z]
    cases hl : least os with
    | none => simp
    | some k => rw [hl] at h; simp at h
theorem alloc_succ (os : List Nat) (ds : List (List Nat)) (o p : Nat) (h : (alloc os o).1 = p + 1) : o ≠ 0 ∧ p < os.length ∧ (alloc os o).2 = os.set p o ∧ allocD os ds o = ds.set p zeros := by
  unfold alloc allocD at *
  by_cases z : o = 0
  · simp [z] at h
  · rw [if_neg z] at h ⊢
    rw [if_neg z]
    cases hl : least os with
    | none => rw [hl] at h; simp at h
    | some k =>
      rw [hl] at h
      simp at h
      subst h
      unfold least at hl
      rw [List.findIdx?_eq_some_iff_getElem] at hl
      exact ⟨z, hl.1, rfl, rfl⟩
theorem count_take (os : List Nat) (j v : Nat) (h : j < os.length) : (os.take (j + 1)).count v = (os.take j).count v + if os.getD j 0 = v then 1 else 0 := by
  rw [List.take_add_one, List.count_append, List.getElem?_eq_getElem h, List.getD_eq_getElem?_getD, List.getElem?_eq_getElem h]
  simp [List.count_cons]
theorem count_take_le (os : List Nat) (j v : Nat) : (os.take j).count v ≤ j := Nat.le_trans List.count_le_length (by rw [List.length_take]; omega)
end Fr
namespace Go.Proofs.Ytnhfjipakhgjcaa
open Go.RowKit
set_option linter.unusedVariables false
set_option linter.unusedSimpArgs false
/-- A pool, a model of it, and a call in its box. -/
def PC (W : World) (T : List Nat) (R M O D N : Nat) (os : List Nat) (ds : List (List Nat)) (bl : Nat → Nat) (C : Nat) (k f off n : Int) (o : Nat) (A : Option Addr) (l c : Nat) (w : World) : Prop :=
  St W T R os ds w ∧ Md w M O D N os ds bl ∧ Has T M O D N os bl ∧ (∀ b ∈ T, W.heap.size ≤ b) ∧ C ∈ T ∧ w.heap[C]? = some (Obj.cells #[.int .i64 k, .int .i64 f, .int .i64 off, .int .i64 n, .int .u64 (o : Int), .slice A l c] 34)
/-- A pool and a model of it. -/
def PM (W : World) (R M O D N : Nat) (w : World) : Prop := ∃ T os ds bl, St W T R os ds w ∧ Md w M O D N os ds bl ∧ Has T M O D N os bl ∧ (∀ b ∈ T, W.heap.size ≤ b)
variable {W : World} {T : List Nat} {R M O D N : Nat} {os : List Nat} {ds : List (List Nat)} {bl : Nat → Nat} {C : Nat} {k f off n : Int} {o : Nat} {A : Option Addr} {l c : Nat} {w w' : World}
theorem PC.drew (h : PC W T R M O D N os ds bl C k f off n o A l c w) : PC W T R M O D N os ds bl C k f off n o A l c w.drew :=
  ⟨h.1.drew, h.2.1, h.2.2.1, h.2.2.2.1, h.2.2.2.2.1, h.2.2.2.2.2⟩
theorem PC.box (h : PC W T R M O D N os ds bl C k f off n o A l c w) : w.cell? ⟨C, 0, none⟩ = some (.int .i64 k) ∧ w.cell? ⟨C, 1, none⟩ = some (.int .i64 f) ∧ w.cell? ⟨C, 2, none⟩ = some (.int .i64 off) ∧ w.cell? ⟨C, 3, none⟩ = some (.int .i64 n) ∧ w.cell? ⟨C, 4, none⟩ = some (.int .u64 (o : Int)) ∧ w.cell? ⟨C, 5, none⟩ = some (.slice A l c) := by
  have b := h.2.2.2.2.2
  refine ⟨?_, ?_, ?_, ?_, ?_, ?_⟩ <;> (rw [cell_of_row _ _ _ _ 34 (0, 0) b]; rfl)
/-- A call of the pool's that leaves it as it was. -/
theorem PC.stay (h : PC W T R M O D N os ds bl C k f off n o A l c w) (hs : St W T R os ds w') (sm : Same T w w') : PC W T R M O D N os ds bl C k f off n o A l c w' :=
  ⟨hs, h.2.1.same h.2.2.1 sm, h.2.2.1, h.2.2.2.1, h.2.2.2.2.1, by rw [sm C h.2.2.2.2.1]; exact h.2.2.2.2.2⟩
theorem PC.pm (h : PC W T R M O D N os ds bl C k f off n o A l c w) : PM W R M O D N w := ⟨T, os, ds, bl, h.1, h.2.1, h.2.2.1, h.2.2.2.1⟩
theorem PM.open_ (h : PM W R M O D N w) : ∃ T os ds bl, St W T R os ds w ∧ Md w M O D N os ds bl ∧ Has T M O D N os bl ∧ (∀ b ∈ T, W.heap.size ≤ b) := h
theorem box_cells (b : w.heap[C]? = some (Obj.cells #[.int .i64 k, .int .i64 f, .int .i64 off, .int .i64 n, .int .u64 (o : Int), .slice A l c] 34)) : w.cell? ⟨C, 0, none⟩ = some (.int .i64 k) ∧ w.cell? ⟨C, 1, none⟩ = some (.int .i64 f) ∧ w.cell? ⟨C, 2, none⟩ = some (.int .i64 off) ∧ w.cell? ⟨C, 3, none⟩ = some (.int .i64 n) ∧ w.cell? ⟨C, 4, none⟩ = some (.int .u64 (o : Int)) ∧ w.cell? ⟨C, 5, none⟩ = some (.slice A l c) := by
  refine ⟨?_, ?_, ?_, ?_, ?_, ?_⟩ <;> (rw [cell_of_row _ _ _ _ 34 (0, 0) b]; rfl)
/-- The box and the model behind a call of the pool's. -/
theorem PC.held (h : PC W T R M O D N os ds bl C k f off n o A l c w) (sm : Same T w w') : Md w' M O D N os ds bl ∧ w'.heap[C]? = some (Obj.cells #[.int .i64 k, .int .i64 f, .int .i64 off, .int .i64 n, .int .u64 (o : Int), .slice A l c] 34) :=
  ⟨h.2.1.same h.2.2.1 sm, by rw [sm C h.2.2.2.2.1]; exact h.2.2.2.2.2⟩
theorem PC.freed (h : PC W T R M O D N os ds bl C k f off n o A l c w) {i : Nat} (hi : i < N) (hq : St W T R (os.set i 0) ds w') (sm : Same T w w') : PC W T R M O D N (os.set i 0) ds bl C k f off n o A l c (w'.setCell ⟨O, i, none⟩ (.int .u64 0)) := by
  have hm := h.2.1.same h.2.2.1 sm
  have hx : w'.heap[C]? = some (Obj.cells #[.int .i64 k, .int .i64 f, .int .i64 off, .int .i64 n, .int .u64 (o : Int), .slice A l c] 34) := by rw [sm C h.2.2.2.2.1]; exact h.2.2.2.2.2
  refine ⟨hq.set O i _ h.2.2.1.2.1 (h.2.2.2.1 O h.2.2.1.2.1), hm.free i hi, ⟨h.2.2.1.1, h.2.2.1.2.1, h.2.2.1.2.2.1, fun j hj ho => h.2.2.1.2.2.2 j hj ?_⟩, h.2.2.2.1, h.2.2.2.2.1, ?_⟩
  · rw [Fr.getD_set _ _ _ _ (by rw [hm.2.2.1]; exact hi)] at ho
    split at ho
    · exact absurd rfl ho
    · exact ho
  · rw [Below.heap_setCell _ _ _ _ (fun e => ?_)]
    · exact hx
    · simp only at e; rw [e, hm.2.1] at hx; simp at hx
theorem same_drew (h : Same T w w') : Same T w w'.drew := h
theorem turn_mono {S S' : List Nat} (h : Turn S w w') (hs : ∀ b ∈ S, b ∈ S') : Turn S' w w' := ⟨h.os, h.tape, h.output, h.size, fun k hk hn => h.block k hk (fun hm => hn (hs k hm))⟩
theorem PC.wrote (h : PC W T R M O D N os ds bl C k f off n o A l c w) {i : Nat} {d : List Nat} {w1 : World} (hi : i < N) (ho : os.getD i 0 ≠ 0) (hq : St W T R os (ds.set i d) w') (sm : Same T w w') (ht : Turn [bl i] w' w1) (hb : w1.heap[bl i]? = some (Obj.cells (Y d).toArray 5)) :
    PC W T R M O D N os (ds.set i d) bl C k f off n o A l c w1 := by
  have hm := h.2.1.same h.2.2.1 sm
  have hx : w'.heap[C]? = some (Obj.cells #[.int .i64 k, .int .i64 f, .int .i64 off, .int .i64 n, .int .u64 (o : Int), .slice A l c] 34) := by rw [sm C h.2.2.2.2.1]; exact h.2.2.2.2.2
  have hbi := hm.2.2.2.2.1 i hi ho
  refine ⟨hq.turn (turn_mono ht (fun b hb => by
    have e : b = bl i := (by simpa using hb)
    rw [e]
    exact h.2.2.1.2.2.2 i hi ho)) h.2.2.2.1, hm.turn i hi ho d (by have := h.1.len.1; rw [this]; exact h.2.1.2.2.1) hb (fun b hb hn => ht.block b hb (by simpa using hn)), h.2.2.1, h.2.2.2.1, h.2.2.2.2.1, ?_⟩
  rw [ht.block C (Array.getElem?_eq_some_iff.1 hx).1 (fun e => ?_)]
  · exact hx
  · obtain rfl : C = bl i := by simpa using e
    rw [hbi] at hx; simp at hx
theorem PC.charged (h : PC W T R M O D N os ds bl C k f off n o A l c w) {p o' : Nat} (hi : p < N) (ho : o' ≠ 0) (hq : St W T R (os.set p o') (ds.set p Fr.zeros) w') (sm : Same T w w') :
    ∃ T' bl', PC W T' R M O D N (os.set p o') (ds.set p Fr.zeros) bl' C k f off n o A l c (((w'.alloc (Obj.cells (Y Fr.zeros).toArray 5)).setCell ⟨O, p, none⟩ (.int .u64 (o' : Int))).setCell ⟨D, p, none⟩ (.slice (some ⟨w'.heap.size, 0, none⟩) 64 64)) := by
  have hm := h.2.1.same h.2.2.1 sm
  have hx : w'.heap[C]? = some (Obj.cells #[.int .i64 k, .int .i64 f, .int .i64 off, .int .i64 n, .int .u64 (o : Int), .slice A l c] 34) := by rw [sm C h.2.2.2.2.1]; exact h.2.2.2.2.2
  obtain ⟨m1, m2, m3, ⟨vs, m4, m5, m6⟩, m7, m8⟩ := hm
  have hO : O < w'.heap.size := (Array.getElem?_eq_some_iff.1 m2).1
  have hD : D < w'.heap.size := (Array.getElem?_eq_some_iff.1 m4).1
  have OD : O ≠ D := fun e => by subst e; rw [m4] at m2; simp at m2
  have CO : C ≠ O := fun e => by subst e; rw [m2] at hx; simp at hx
  have CD : C ≠ D := fun e => by subst e; rw [m4] at hx; simp at hx
  have CL : C < w'.heap.size := (Array.getElem?_eq_some_iff.1 hx).1
  have a2 : (w'.alloc (Obj.cells (Y Fr.zeros).toArray 5)).heap[O]? = some (Obj.cells (U os).toArray 31) := by rw [Below.heap_alloc _ _ _ hO]; exact m2
  have s2 : ((w'.alloc (Obj.cells (Y Fr.zeros).toArray 5)).setCell ⟨O, p, none⟩ (.int .u64 (o' : Int))).heap[O]? = some (Obj.cells (U (os.set p o')).toArray 31) := by
    rw [heap_setCell_same _ O p _ 31 (.int .u64 (o' : Int)) a2, List.setIfInBounds_toArray, U_set]
  refine ⟨w'.heap.size :: T, fun j => if j = p then w'.heap.size else bl j, ((hq.alloc _).set O p _ (List.mem_cons_of_mem _ h.2.2.1.2.1) (h.2.2.2.1 O h.2.2.1.2.1)).set D p _ (List.mem_cons_of_mem _ h.2.2.1.2.2.1) (h.2.2.2.1 D h.2.2.1.2.2.1),
    Md.charge ⟨m1, m2, m3, ⟨vs, m4, m5, m6⟩, m7, m8⟩ p o' w'.heap.size hi (by have := h.1.len.1; rw [this]; exact h.2.1.2.2.1) (Nat.le_refl _) ho ?_ (fun us hu => ?_) ?_ (fun b hb b1 b2 => ?_),
    ⟨List.mem_cons_of_mem _ h.2.2.1.1, List.mem_cons_of_mem _ h.2.2.1.2.1, List.mem_cons_of_mem _ h.2.2.1.2.2.1, fun j hj oj => ?_⟩, fun b hb => ?_, List.mem_cons_of_mem _ h.2.2.2.2.1, ?_⟩
  · rw [Below.heap_setCell _ _ _ _ OD]; exact s2
  · have d2 : ((w'.alloc (Obj.cells (Y Fr.zeros).toArray 5)).setCell ⟨O, p, none⟩ (.int .u64 (o' : Int))).heap[D]? = some (Obj.cells us.toArray 32) := by
      rw [Below.heap_setCell _ _ _ _ (fun e => OD e.symm), Below.heap_alloc _ _ _ hD]; exact hu
    rw [heap_setCell_same _ D p _ 32 (.slice (some ⟨w'.heap.size, 0, none⟩) 64 64) d2, List.setIfInBounds_toArray]
  · rw [Below.heap_setCell _ _ _ _ (by simp only; omega), Below.heap_setCell _ _ _ _ (by simp only; omega)]; exact heap_alloc_new _ _
  · rw [Below.heap_setCell _ _ _ _ b2, Below.heap_setCell _ _ _ _ b1, Below.heap_alloc _ _ _ hb]
  · dsimp only
    by_cases e : j = p
    · rw [if_pos e]; exact List.mem_cons_self
    · rw [if_neg e]
      rw [Fr.getD_set _ _ _ _ (by omega), if_neg e] at oj
      exact List.mem_cons_of_mem _ (h.2.2.1.2.2.2 j hj oj)
  · rcases List.mem_cons.1 hb with e | e
    · rw [e]; exact hq.b.size
    · exact h.2.2.2.1 b e
  · rw [Below.heap_setCell _ _ _ _ CD, Below.heap_setCell _ _ _ _ CO, Below.heap_alloc _ _ _ CL]; exact hx
theorem blk_part {b : Nat} {d : List Nat} (h : w.heap[b]? = some (Obj.cells (Y d).toArray 5)) (a q : Nat) : BR w (some ⟨b, a, none⟩) ((d.drop a).take q) := fun i x hi => by
  refine ⟨b, a, rfl, (Array.getElem?_eq_some_iff.1 h).1, ?_⟩
  rw [cell_of_row _ _ _ _ 5 (0, 0) h, List.getElem?_toArray]
  refine Y_at ?_
  rw [List.getElem?_take] at hi
  split at hi
  · rw [List.getElem?_drop] at hi; exact hi
  · cases hi
theorem alloc_set (w : World) (b i : Nat) (v : Value) (o : Obj) (h : b < w.heap.size) : (w.setCell ⟨b, i, none⟩ v).alloc o = (w.alloc o).setCell ⟨b, i, none⟩ v := by
  have e : ∀ (f : Obj → Obj), (w.heap.modify b f).push o = (w.heap.push o).modify b f := fun f => by
    apply Array.ext_getElem?
    intro k
    rw [Array.getElem?_push, Array.getElem?_modify, Array.getElem?_modify, Array.getElem?_push, Array.size_modify]
    by_cases h1 : b = k
    · subst h1
      rw [if_neg (by omega), if_pos rfl, if_pos rfl, if_neg (by omega)]
    · rw [if_neg h1, if_neg h1]
  exact congrArg (fun x => { w with heap := x }) (e _)
theorem alloc_set2 (wq : World) (O p : Nat) (o : Nat) (OB : Obj) (OL : O < wq.heap.size) (mk1 : ∀ wx : World, (Instr.makeSlice 32 (.int .i64 64) (.int .i64 64)).run Try.prog wx = .ok (.slice (some ⟨wx.heap.size, 0, none⟩) 64 64) (wx.alloc OB)) : (Instr.makeSlice 32 (.int .i64 64) (.int .i64 64)).run Try.prog (wq.setCell ⟨O, p, none⟩ (.int .u64 (o : Int))).drew = .ok (.slice (some ⟨wq.heap.size, 0, none⟩) 64 64) ((wq.alloc OB).setCell ⟨O, p, none⟩ (.int .u64 (o : Int))).drew := by
  rw [mk1, ← alloc_set wq O p _ OB OL]
  have e : ((wq.setCell ⟨O, p, none⟩ (.int .u64 (o : Int))).drew).heap.size = wq.heap.size := by simp
  rw [e]
  rfl
theorem step_copy_run {P : Program} {ops : Array Oper} {o : Oper} {a : Act} {w : World} {K : Act → World → Prop} {Q : Exit → Act → World → Prop} {E : Prop} (hgd : o.guard = none) (d s : Operand) (dT sT : TypeId)
    (ho : o.op = .call { callee := .builtin .copy, args := #[d, s], argTypes := #[dT, sT] }) (x y r : Value) (hd : a.eval d = x) (hs : a.eval s = y) (w' : World)
    (hrun : (Builtin.copy_ #[dT, sT] o.type #[x, y]).run P w = .ok r w') (h : K (a.put o.dst r) w') : if Region.wanted o (yielded ops a.tmps) = true then Oper.wp P o a w K Q else E := by
  have hw : Region.wanted o (yielded ops a.tmps) = true := by simp [Region.wanted, hgd]
  rw [if_pos hw]
  unfold Oper.wp
  simp [execOp, ho, resolve, invoke, builtin, hd, hs, hrun, Result.andThen]
  exact h
/-- The call's box is laid. -/
theorem PC.of (h1 : St W T R os ds w) (h2 : Md w M O D N os ds bl) (h3 : Has T M O D N os bl) (h4 : ∀ b ∈ T, W.heap.size ≤ b) :
    PC W (w.heap.size :: T) R M O D N os ds bl w.heap.size k f off n o A l c (w.alloc (Obj.cells #[.int .i64 k, .int .i64 f, .int .i64 off, .int .i64 n, .int .u64 (o : Int), .slice A l c] 34)) :=
  ⟨h1.alloc _, h2.same h3 (h1.same (below_alloc1 _ _)), h3.more fun b hb => List.mem_cons_of_mem _ hb, fun b hb => by
    rcases List.mem_cons.1 hb with e | e
    · rw [e]; exact h1.b.size
    · exact h4 b e, List.mem_cons_self, heap_alloc_new _ _⟩
end Go.Proofs.Ytnhfjipakhgjcaa
