/- A segment is made longer or shorter: what serves. -/
import Derived.Test.YtkpdgjmeeeddhaaBf
import Derived.Deep.RegionLaw
set_option linter.unusedVariables false
set_option linter.unusedSimpArgs false
namespace Go.Proofs.Ytkpdgjmeeeddhaa
open Go.RowKit
set_option linter.unusedVariables false
set_option linter.unusedSimpArgs false
section
variable {α : Type} {e : TypeId} {enc : α → Value} {w w' : World} {own own' : Nat → Prop} {v : Value} {xs ys : List α} {A : Option Addr}
/-- Some are appended where there is no room. -/
theorem append_full {P : Program} (t ty : TypeId) (i : TypeInfo) (z : Value) (bytes : Nat) (ht : P.underlying t = some (.slice e)) (hi : P.info? e = some i) (hz : i.zero = some z) (hsz : i.size = 1) (hby : i.bytes = bytes) (hb16 : bytes ≤ 16) (hzc : z.cells.size = 1)
    (h : LR enc w A xs) (hl : xs.length + ys.length ≤ 100000) (hy0 : 0 < ys.length) (A2 : Option Addr) (c2 : Nat) (hr : LR enc w A2 ys) (hA : xs = [] → A = none ∨ ∃ b o, A = some ⟨b, o, none⟩) :
    ∃ v' w', (Builtin.append_ #[t, t] ty #[.slice A xs.length xs.length, .slice A2 ys.length c2]).run P w = .ok v' w' ∧ RW (fun b => w.heap.size ≤ b) e enc w' v' (xs ++ ys) ∧ Below w.heap.size w w' := by
  have made : ∀ (need old : Nat), need = xs.length + ys.length → ∀ (olds : List Value), olds.length = xs.length → (∀ (j : Nat) (y : α), xs[j]? = some y → olds[j]? = some (enc y)) →
      RW (fun b => w.heap.size ≤ b) e enc (w.drew.alloc (.cells (olds.toArray ++ (ys.map enc).toArray ++ Builtin.zeroCells z.cells (grownCap w need old e - need)) e)) (.slice (some ⟨w.heap.size, 0, none⟩) need (grownCap w need old e)) (xs ++ ys) := by
    intro need old hn olds ho hol
    have hge := grownCap_ge w need old e
    refine .inr ⟨w.heap.size, 0, grownCap w need old e, _, by rw [List.length_append, hn], Nat.le_refl _, heap_alloc_new w.drew _, ?_, by rw [List.length_append]; omega, grownCap_le_maxLen _ _ _ _ (by unfold maxLen; omega), fun j y hy => ?_⟩
    · simp only [Array.size_append, List.size_toArray, size_zeroCells, hzc, ho, List.length_map]
      omega
    · have hjl := (List.getElem?_eq_some_iff.1 hy).1
      rw [List.length_append] at hjl
      rw [Nat.zero_add, Array.getElem?_append_left (by simp only [Array.size_append, List.size_toArray, ho, List.length_map]; omega), List.append_toArray, List.getElem?_toArray]
      by_cases hj : j < xs.length
      · rw [List.getElem?_append_left hj] at hy
        rw [List.getElem?_append_left (by rw [ho]; exact hj)]
        exact hol j y hy
      · rw [List.getElem?_append_right (by omega)] at hy
        rw [List.getElem?_append_right (by rw [ho]; omega), ho, List.getElem?_map, hy]
        rfl
  have new : ∀ {b o : Nat}, A2 = some ⟨b, o, none⟩ → ∀ j u, (ys.map enc)[j]? = some u → w.cell? ((⟨b, o, none⟩ : Addr).add j) = some u := fun {b o} ha j u hu => by
    rw [List.getElem?_map] at hu
    cases hy : ys[j]? with
    | none => rw [hy] at hu; cases hu
    | some y =>
      rw [hy] at hu
      obtain rfl : enc y = u := by simpa using hu
      rw [addr_add]
      rw [ha] at hr
      exact hr.at_ hy
  obtain ⟨b2, o2, rfl⟩ := hr.some_ hy0
  have hnew := new rfl
  have hbel := ((Below.refl w.heap.size w).drew).alloc (Nat.le_refl _)
  have hgrow : ∀ g o, A = some ⟨g, o, none⟩ → ∃ v' w', (Builtin.append_ #[t, t] ty #[.slice A xs.length xs.length, .slice (some ⟨b2, o2, none⟩) ys.length c2]).run P w = .ok v' w' ∧ RW (fun b => w.heap.size ≤ b) e enc w' v' (xs ++ ys) ∧ Below w.heap.size w w' := fun g o hA => by
    subst hA
    have hold : ∀ j u, (xs.map enc)[j]? = some u → w.cell? ((⟨g, o, none⟩ : Addr).add j) = some u := fun j u hu => by
      rw [List.getElem?_map] at hu
      cases hy : xs[j]? with
      | none => rw [hy] at hu; cases hu
      | some y =>
        rw [hy] at hu
        obtain rfl : enc y = u := by simpa using hu
        rw [addr_add]
        exact h.at_ hy
    have hr := run_append_grow (P := P) w t ty e i z ht hi hz ⟨g, o, none⟩ xs.length xs.length (xs.map enc) (by rw [hsz, List.length_map, Nat.mul_one]) hold ⟨b2, o2, none⟩ ys.length c2 (ys.map enc) (by rw [hsz, List.length_map, Nat.mul_one]) hnew (by omega) (by omega) (growslice_fits (by omega) (by rw [hby]; have : (xs.length + ys.length) * bytes ≤ 100000 * 16 := Nat.mul_le_mul (by omega) hb16; omega))
    exact ⟨_, _, hr, made (xs.length + ys.length) xs.length rfl (xs.map enc) (by simp) (fun j y hy => by rw [List.getElem?_map, hy]; rfl), hbel _⟩
  by_cases hx : xs = []
  · rcases hA hx with rfl | ⟨g, o, rfl⟩
    · subst hx
      have hr := run_append_nil (P := P) w t ty e i z ht hi hz ⟨b2, o2, none⟩ ys.length c2 (ys.map enc) (by rw [hsz, List.length_map, Nat.mul_one]) hnew (by omega) (by simp at hl; omega) (by rw [hby]; have : ys.length * bytes ≤ 100000 * 16 := Nat.mul_le_mul (by simp at hl; omega) hb16; omega)
      refine ⟨_, _, hr, ?_, hbel _⟩
      have := made ys.length 0 (by simp) [] rfl (by simp)
      simpa using this
    · exact hgrow g o rfl
  · obtain ⟨g, o, rfl⟩ := h.some_ (by cases xs with | nil => exact absurd rfl hx | cons _ _ => simp)
    exact hgrow g o rfl
end
/-- The first of a row, without room. -/
theorem rw_cut {α : Type} {e : TypeId} {enc : α → Value} {w : World} {own : Nat → Prop} {A : Option Addr} {m c k : Nat} {xs : List α} (h : RW own e enc w (.slice A m c) xs) (hk : k ≤ xs.length) : RW own e enc w (.slice A k k) (xs.take k) := by
  rcases h with ⟨rfl, e⟩ | ⟨g, o, cap, cur, e, h1, h2, h3, h4, h5, h6⟩
  · injection e with e1 e2 e3
    obtain rfl : k = 0 := by simpa using hk
    rw [e1]; exact .inl ⟨rfl, rfl⟩
  · injection e with e1 e2 e3
    subst e1
    refine .inr ⟨g, o, k, cur, by rw [List.length_take, Nat.min_eq_left hk], h1, h2, by omega, by rw [List.length_take]; exact Nat.min_le_left _ _, by omega, fun i x hi => ?_⟩
    rw [List.getElem?_take] at hi
    split at hi
    · exact h6 i x hi
    · cases hi
/-- An operation of a list whose run is known: a slice. -/
theorem wpList_slice_by {P : Program} {ops : Array Oper} {rest : List Oper} {op : Oper} {a : Act} {w : World} {Q : Exit → Act → World → Prop} (hgd : op.guard = none) (t : TypeId) (x : Operand) (lo hi mx : Option Operand)
    (ho : op.op = .slice t x lo hi mx) (X r : Value) (L H M : Option Value) (hx : a.eval x = X) (hL : lo.map a.eval = L) (hH : hi.map a.eval = H) (hM : mx.map a.eval = M)
    (hrun : (Instr.sliceAt t X L H M).run P w = .ok r w) (h : wpList P ops Q rest (a.put op.dst r) w) : wpList P ops Q (op :: rest) a w := by
  refine wpList_plain hgd fun K hK => ?_
  unfold Oper.wp
  subst hx hL hH hM
  simp [execOp, ho, hrun, Result.andThen]
  exact hK _ _ h
theorem elemI : Try.prog.elem 35 = 3 := by kernel_rfl
theorem sizeI (w : World) : (sizeOf 3).run Try.prog w = .ok 1 w := by kernel_rfl
theorem sl_lo (w : World) (A : Option Addr) (n c k : Nat) (h : k ≤ n) : (Instr.sliceAt 35 (.slice A n c) (some (.int .i64 (k : Int))) none none).run Try.prog w = .ok (.slice (if c = k then A else A.map (·.add k)) (n - k) (c - k)) w := by
  have hu : Try.prog.underlying 35 = some (.slice (Try.prog.elem 35)) := by rw [elemI]; exact Try.underlying35
  rw [run_sliceAt_slice (P := Try.prog) (w := w) _ _ _ _ _ hu, run_slice_l w _ _ _ _ hu .i64 (k : Int) (by omega) (by omega), elemI, sizeI]
  simp only [Result.andThen_ok, sliced, Int.toNat_natCast, Nat.mul_one]
theorem sl_hm (w : World) (A : Option Addr) (n c k : Nat) (h : k ≤ c) (hA : ∀ a, A = some a → a.add 0 = a) : (Instr.sliceAt 35 (.slice A n c) none (some (.int .i64 (k : Int))) (some (.int .i64 (k : Int)))).run Try.prog w = .ok (.slice A k k) w := by
  have hu : Try.prog.underlying 35 = some (.slice (Try.prog.elem 35)) := by rw [elemI]; exact Try.underlying35
  rw [run_sliceAt_slice (P := Try.prog) (w := w) _ _ _ _ _ hu, run_slice_hm w _ _ _ _ hu .i64 .i64 (k : Int) (k : Int) (by omega) (by omega) (by omega), elemI, sizeI]
  simp only [Result.andThen_ok, sliced, Int.toNat_natCast, Nat.zero_mul, Nat.sub_zero]
  cases A with
  | none => simp
  | some a => simp [hA a rfl]
/-- append, as one step of a region that draws. -/
theorem step_append_by {P : Program} {ops : Array Oper} {o : Oper} {a : Act} {w : World} {K : Act → World → Prop} {Q : Exit → Act → World → Prop} {E : Prop} (hgd : o.guard = none) (d s : Operand) (dT sT : TypeId)
    (ho : o.op = .call { callee := .builtin .append, args := #[d, s], argTypes := #[dT, sT] }) (x y r : Value) (hd : a.eval d = x) (hs : a.eval s = y) (w' : World)
    (hrun : (Builtin.append_ #[dT, sT] o.type #[x, y]).run P w = .ok r w') (hK : K (a.put o.dst r) w') :
    if Region.wanted o (yielded ops a.tmps) = true then Oper.wp P o a w K Q else E := by
  have hw : Region.wanted o (yielded ops a.tmps) = true := by simp [Region.wanted, hgd]
  rw [if_pos hw]
  unfold Oper.wp
  simp [execOp, ho, resolve, invoke, builtin, hd, hs, hrun, Result.andThen]
  exact hK
section
variable {w w' w1 w2 : World} {b o R c : Nat} {v P : Value} {fs S S1 os os' : List Nat} {ds ds' : List (List Nat)} {A : Option Addr}
/-- A row of frames: one's own since N, or without room. -/
def FO (N : Nat) (w : World) (v : Value) (fs : List Nat) : Prop := RW (fun k => N ≤ k) 3 encI w v fs ∨ ∃ A, v = .slice A fs.length fs.length ∧ RW (fun _ => True) 3 encI w v fs
theorem FO.row {N : Nat} (h : FO N w v fs) : RW (fun _ => True) 3 encI w v fs := by
  rcases h with h | ⟨A, _, h⟩
  · exact RW.keep h fun b cur _ _ => ⟨trivial, rfl⟩
  · exact h
theorem FO.keep {N : Nat} (h : FO N w v fs) (k : ∀ (g : Nat) (cur : Array Value), w.heap[g]? = some (Obj.cells cur 3) → w'.heap[g]? = w.heap[g]?) : FO N w' v fs := by
  rcases h with h | ⟨A, e, h⟩
  · exact .inl (RW.keep h fun b cur hb hc => ⟨hb, k b cur hc⟩)
  · exact .inr ⟨A, e, RW.keep h fun b cur hb hc => ⟨hb, k b cur hc⟩⟩
theorem infoI : (Try.prog.info? 3).map (fun i => (i.zero, i.size, i.bytes)) = some (some (.int .i64 0), 1, 8) := by kernel_rfl
/-- One more frame. -/
theorem append_i {N f : Nat} (ty : TypeId) (h : FO N w v fs) (hl : fs.length ≤ 1000) (hN : N ≤ w.heap.size) :
    ∃ v' w', (Builtin.append_ #[35, 35] ty #[v, .slice (some ⟨w.heap.size, 0, none⟩) 1 1]).run Try.prog (w.alloc (Obj.cells #[.int .i64 (f : Int)] 3)) = .ok v' w' ∧ RW (fun k => N ≤ k) 3 encI w' v' (fs ++ [f]) ∧ ∃ S, Turn S w w' ∧ ∀ b ∈ S, N ≤ b ∧ ∃ cur, w.heap[b]? = some (Obj.cells cur 3) := by
  obtain ⟨i, hi, hie⟩ := Option.map_eq_some_iff.1 infoI
  injection hie with hz h2
  injection h2 with hsz hby
  have b1 := below_alloc1 w (Obj.cells #[.int .i64 (f : Int)] 3)
  have hlr : LR encI (w.alloc (Obj.cells #[.int .i64 (f : Int)] 3)) (some ⟨w.heap.size, 0, none⟩) [f] := fun j x hx => by
    match j with
    | 0 =>
      obtain rfl : f = x := by simpa using hx
      exact ⟨_, _, rfl, by simp, by rw [cell_of_row _ _ _ _ _ (0, 0) (heap_alloc_new w _)]; rfl⟩
    | j + 1 => simp at hx
  rcases h with h | ⟨A, rfl, h⟩
  · have hk : RW (fun k => N ≤ k) 3 encI (w.alloc (Obj.cells #[.int .i64 (f : Int)] 3)) v fs := RW.keep h fun b cur hb hc => ⟨hb, b1.block b (Array.getElem?_eq_some_iff.1 hc).1⟩
    have hk2 : RW (fun k => N ≤ k ∧ k < w.heap.size) 3 encI (w.alloc (Obj.cells #[.int .i64 (f : Int)] 3)) v fs := RW.keep h fun b cur hb hc => ⟨⟨hb, (Array.getElem?_eq_some_iff.1 hc).1⟩, b1.block b (Array.getElem?_eq_some_iff.1 hc).1⟩
    obtain ⟨v', w', hrun, hr, S, hT, hS⟩ := append_rw (P := Try.prog) (ys := [f]) 35 ty i _ 8 Try.underlying35 hi hz hsz hby (by omega) rfl encI_one hk2 (by simp; omega) (some ⟨w.heap.size, 0, none⟩) 1 hlr
    refine ⟨v', w', hrun, RW.keep hr fun b cur hb _ => ⟨?_, rfl⟩, S, ⟨hT.os.trans b1.os, hT.tape.trans b1.tape, hT.output.trans b1.output, Nat.le_trans b1.size hT.size, fun k hk hn => ?_⟩, fun b hb => ?_⟩
    · rcases hb with hb | hb
      · exact hb.1
      · exact Nat.le_trans hN (Nat.le_trans b1.size hb)
    · rw [hT.block k (Nat.lt_of_lt_of_le hk b1.size) hn, b1.block k hk]
    · obtain ⟨⟨h1, hlt⟩, cur, h2⟩ := hS b hb
      exact ⟨h1, cur, by rw [← h2]; exact (b1.block b hlt).symm⟩
  · have hlr2 : LR encI w A fs := by
      obtain ⟨A', c', e, _, _, h⟩ := RW.form h
      injection e with e; rw [e]; exact h
    have hA : fs = [] → A = none ∨ ∃ b o, A = some ⟨b, o, none⟩ := fun _ => by
      rcases h with ⟨_, e⟩ | ⟨g, o, cap, cur, e, _⟩
      · injection e with e; exact .inl e
      · injection e with e; exact .inr ⟨g, o, e⟩
    obtain ⟨v', w', hrun, hr, hb⟩ := append_full (P := Try.prog) (ys := [f]) 35 ty i _ 8 Try.underlying35 hi hz hsz hby (by omega) rfl (hlr2.below b1) (by simp; omega) (by simp) (some ⟨w.heap.size, 0, none⟩) 1 hlr hA
    exact ⟨v', w', hrun, RW.keep hr fun k cur hk _ => ⟨Nat.le_trans hN (Nat.le_trans b1.size hk), rfl⟩, [], Turn.of_below (b1.trans (hb.mono b1.size)), by simp⟩
/-- The same cell is stored to on both sides. -/
theorem turn_both {p : Addr} {x y : Value} (h : Turn S (w.setCell p x) w') (hp : p.block ∉ S) (hlt : p.block < w.heap.size) (hs : p.spot = none) : Turn S (w.setCell p y) (w'.setCell p y) := by
  obtain ⟨pb, po, psp⟩ := p
  simp only at hs hp hlt
  subst hs
  refine ⟨h.os, h.tape, h.output, by have := h.size; simpa using this, fun k hk hn => ?_⟩
  have hk' : k < w.heap.size := by simpa using hk
  have e := h.block k (by simpa using hk') hn
  by_cases hkb : k = pb
  · subst hkb
    simp only [World.setCell, Array.getElem?_modify] at e ⊢
    simp only [if_true] at e ⊢
    rw [e]
    cases hh : w.heap[k]? with
    | none => simp
    | some ob => cases ob <;> simp
  · have e1 := heap_setCell_other w ⟨pb, po, none⟩ k x hkb
    rw [heap_setCell_other _ _ _ _ hkb, heap_setCell_other _ _ _ _ hkb, e, e1]
theorem turn_set {p : Addr} {y : Value} (h : Turn S w w') (hp : p.block ∉ S) (hlt : p.block < w.heap.size) : Turn S (w.setCell p y) (w'.setCell p y) := by
  refine ⟨h.os, h.tape, h.output, by have := h.size; simpa using this, fun k hk hn => ?_⟩
  have hk' : k < w.heap.size := by simpa using hk
  have e := h.block k hk' hn
  by_cases hkb : k = p.block
  · subst hkb
    simp only [World.setCell, Array.getElem?_modify, if_true]
    rw [e]
  · rw [heap_setCell_other _ _ _ _ hkb, heap_setCell_other _ _ _ _ hkb, e]
theorem plt_store0 {w6 : World} {y : Value} {cs : Array Value} (h : PlT w R S os ds w6) (hp : Pl w R S os' ds') (hb : w.heap[b]? = some (Obj.cells cs 37)) : PlT (w.setCell ⟨b, o, none⟩ y) R S os ds (w6.setCell ⟨b, o, none⟩ y) := by
  have hbS := Pl.not_mem hp hb (by decide) (by decide)
  have hlt := (Array.getElem?_eq_some_iff.1 hb).1
  obtain ⟨S2, p, t, s⟩ := h
  refine ⟨S2, p.keep fun k hk => heap_setCell_other _ _ _ _ (fun e => ?_), turn_set t hbS hlt, fun z hz => (s z hz).imp id (by simp)⟩
  have e' : k = b := e
  subst e'
  rcases s k hk with h1 | h1
  · exact hbS h1
  · omega
/-- Rows of ints turn: the pool doesn't. -/
theorem plt_ints {w5 w6 : World} {S6 : List Nat} (h : PlT w R S os ds w5) (hT : Turn S6 w5 w6) (hS : ∀ x ∈ S6, w.heap.size ≤ x ∧ ∃ cur, w5.heap[x]? = some (Obj.cells cur 3)) : PlT w R S os ds w6 := by
  obtain ⟨S2, p, t, s⟩ := h
  refine ⟨S2, p.keep fun k hk => hT.block k (p.lt k hk) fun hm => ?_, t.trans hT (fun x hx => .inr (hS x hx).1), s⟩
  obtain ⟨_, cur, hc⟩ := hS k hm
  exact Pl.not_mem p hc (by decide) (by decide) hk
/-- The segment's cell is stored to. -/
theorem plt_store {w6 : World} {x y : Value} {cs : Array Value} (h : PlT (w.setCell ⟨b, o, none⟩ x) R S os ds w6) (hp : Pl w R S os' ds') (hb : w.heap[b]? = some (Obj.cells cs 37)) : PlT (w.setCell ⟨b, o, none⟩ y) R S os ds (w6.setCell ⟨b, o, none⟩ y) := by
  have hbS := Pl.not_mem hp hb (by decide) (by decide)
  have hlt := (Array.getElem?_eq_some_iff.1 hb).1
  obtain ⟨S2, p, t, s⟩ := h
  refine ⟨S2, p.keep fun k hk => heap_setCell_other _ _ _ _ (fun e => ?_), turn_both t hbS hlt rfl, fun z hz => (s z hz).imp id (by simp)⟩
  have e' : k = b := e
  subst e'
  rcases s k hk with h1 | h1
  · exact hbS h1
  · simp at h1; omega
/-- What stands in the segment's cell. -/
theorem plt_cell {w6 : World} {x : Value} {cs : Array Value} (h : PlT (w.setCell ⟨b, o, none⟩ x) R S os ds w6) (hp : Pl w R S os' ds') (hb : w.heap[b]? = some (Obj.cells cs 37)) (ho : o < cs.size) : w6.cell? ⟨b, o, none⟩ = some x ∧ w6.frozen? ⟨b, o, none⟩ = false ∧ ∃ cs', w6.heap[b]? = some (Obj.cells cs' 37) := by
  have hbS := Pl.not_mem hp hb (by decide) (by decide)
  have hlt := (Array.getElem?_eq_some_iff.1 hb).1
  obtain ⟨S2, p, t, s⟩ := h
  have e := (t.block b (by simpa using hlt) hbS).trans (heap_setCell_same w b o cs 37 x hb)
  refine ⟨?_, frozen_of_row _ _ _ _ _ e, ⟨_, e⟩⟩
  rw [cell_of_row _ _ _ _ _ (0, 0) e]
  simp [ho]
theorem Kp.plt {w6 : World} {x : Value} {cs : Array Value} (h : PlT (w.setCell ⟨b, o, none⟩ x) R S os ds w6) (hp : Pl w R S os' ds') {k : Nat} {cs : Array Value} {t : TypeId} (hk : w.heap[k]? = some (Obj.cells cs t)) (h1 : t ≠ 56) (h2 : t ≠ 68) (hne : k ≠ b) : w6.heap[k]? = w.heap[k]? := by
  obtain ⟨S2, p, t', s⟩ := h
  rw [t'.block k (by simpa using (Array.getElem?_eq_some_iff.1 hk).1) (Pl.not_mem hp hk h1 h2)]
  exact heap_setCell_other _ _ _ _ hne
theorem free_some : ∀ {os : List Nat}, 0 < os.count 0 → ∃ k, Fr.least os = some k := fun {os} h => by
  unfold Fr.least
  have hm := List.count_pos_iff.1 h
  have := List.findIdx?_isSome (xs := os) (p := fun x => x == 0)
  have h2 : os.any (fun x => x == 0) = true := List.any_eq_true.2 ⟨0, hm, rfl⟩
  rw [h2] at this
  exact Option.isSome_iff_exists.1 this
end
end Go.Proofs.Ytkpdgjmeeeddhaa
