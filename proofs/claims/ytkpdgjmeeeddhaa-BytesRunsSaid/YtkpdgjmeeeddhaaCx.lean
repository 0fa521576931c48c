/- BytesRuns: what a longer or shorter segment, and a copy, want beside. -/
import Derived.Test.YtkpdgjmeeeddhaaCa
set_option linter.unusedVariables false
set_option linter.unusedSimpArgs false
namespace Go.Proofs.Ytkpdgjmeeeddhaa
open Go.RowKit
set_option linter.unusedVariables false
set_option linter.unusedSimpArgs false
theorem one_minus {i : Nat} (h : i < 2) : ∃ ki : Nat, RowKit.wrap64 (1 - (i : Int)) = (ki : Int) ∧ IntKind.i64.wrap (1 - (i : Int)) = (ki : Int) ∧ ki < 2 ∧ ki ≠ i := ⟨1 - i, by unfold RowKit.wrap64; omega, by rw [IntKind.wrap_i64]; omega, by omega, by omega⟩
theorem two_at {x : Nat → Value} {i : Nat} (h : i < 2) : (#[x 0, x 1] : Array Value)[i]? = some (x i) := by
  match i, h with
  | 0, _ => rfl
  | 1, _ => rfl
theorem w_nat' {a : Nat} (h : a ≤ 5000) : IntKind.i64.wrap (a : Int) = (a : Int) := by rw [IntKind.wrap_i64]; omega
theorem w_mul {m m6 : Nat} (h : m ≤ 16) (h6 : 64 * m = m6) : RowKit.wrap64 ((m : Int) * 64) = (m6 : Int) ∧ IntKind.i64.wrap ((m : Int) * 64) = (m6 : Int) := ⟨by unfold RowKit.wrap64; omega, by rw [IntKind.wrap_i64]; omega⟩
/-- What is copied to a new row is what stays, with zeros behind. -/
theorem lay_rsz {b : List Nat} {m m6 l : Nat} (h6 : 64 * m = m6) (hl : min b.length m6 = l) : Fr.lay (List.replicate m6 0) 0 (b.take l) = Sg.rsz b m ∧ (Sg.rsz b m).length = m6 := by
  have g2 := lay0 (b := b.take l) (N := m6) (by rw [List.length_take]; omega)
  have hlen : (Sg.rsz b m).length = m6 := by unfold Sg.rsz; rw [List.length_append, List.length_take, List.length_replicate]; omega
  refine ⟨?_, hlen⟩
  have hbl : (b.take l).length = l := by rw [List.length_take]; omega
  rw [hbl] at g2
  apply List.ext_getElem?
  intro i
  rw [g2 i]
  unfold Sg.rsz
  rw [h6, List.getElem?_append, List.length_take, List.getElem?_take, List.getElem?_replicate, List.getElem?_take]
  by_cases h1 : i < l
  · rw [if_pos h1, if_pos h1, if_pos (by omega), if_pos (by omega)]
  · rw [if_neg h1]
    by_cases h2 : i < m6
    · rw [if_pos h2, if_neg (by omega), if_pos (by omega)]
    · rw [if_neg h2, if_neg (by omega), if_neg (by omega)]
theorem step_copy_by {P : Program} {ops : Array Oper} {o : Oper} {a : Act} {w : World} {K : Act → World → Prop} {Q : Exit → Act → World → Prop} {E : Prop} (hgd : o.guard = none) (d s : Operand) (dT sT : TypeId)
    (ho : o.op = .call { callee := .builtin .copy, args := #[d, s], argTypes := #[dT, sT] }) (x y r : Value) (hd : a.eval d = x) (hs : a.eval s = y) (w' : World)
    (hrun : (Builtin.copy_ #[dT, sT] o.type #[x, y]).run P w = .ok r w') (h : K (a.put o.dst r) w') : if Region.wanted o (yielded ops a.tmps) = true then Oper.wp P o a w K Q else E := by
  have hw : Region.wanted o (yielded ops a.tmps) = true := by simp [Region.wanted, hgd]
  rw [if_pos hw]
  unfold Oper.wp
  simp [execOp, ho, resolve, invoke, builtin, hd, hs, hrun, Result.andThen]
  exact h
theorem RZd.keep {W w w' : World} {B i R x n : Nat} {os f : List Nat} {ds : List (List Nat)} {csB : Array Value} (hz : RZd W w B i R x os ds f n w') (hB : w.heap[B]? = some (Obj.cells csB 37)) :
    ∀ (k : Nat) (cs : Array Value) (t : TypeId), w.heap[k]? = some (Obj.cells cs t) → t ≠ 56 → t ≠ 68 → t ≠ 37 → w'.heap[k]? = w.heap[k]? := fun k cs t hk h1 h2 h3 => by
  obtain ⟨v', os', ds', f', z1, z2, z3, z4, z5, z6, z7, z8, z9⟩ := hz
  exact z8.block k cs t hk h1 h2 fun e => by rw [e, hB] at hk; injection hk with hk; injection hk with _ hk; exact h3 hk.symm
end Go.Proofs.Ytkpdgjmeeeddhaa
