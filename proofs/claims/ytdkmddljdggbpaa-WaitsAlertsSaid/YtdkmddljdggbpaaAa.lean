/- Alerts in memory: what each call does. -/
import Derived.Test.YtdkmddljdggbpaaWa
import Derived.Test.YtdkmddljdggbpaaVr
import Derived.BigRegion
import Derived.StillTailTactics
set_option linter.unusedVariables false
set_option linter.unusedSimpArgs false
namespace Go.Proofs.Ytdkmddljdggbpaa
open Go.RowKit
set_option linter.unusedVariables false
set_option linter.unusedSimpArgs false
/-- The cells of alerts: what waits, and zeros. -/
def acs (q : List Nat) : Array Value := #[inU (q[0]?.getD 0), inU (q[1]?.getD 0), inU (q[2]?.getD 0), inU (q[3]?.getD 0), .int .i64 (q.length : Int)]
/-- The alerts in block b. -/
def AV (w : World) (b : Nat) (q : List Nat) : Prop := w.heap[b]? = some (Obj.cells (acs q) 33) ∧ q.length ≤ 4
variable {w w' : World} {b : Nat} {q : List Nat}
theorem AV.lt (h : AV w b q) : b < w.heap.size := (Array.getElem?_eq_some_iff.1 h.1).1
theorem AV.below (h : AV w b q) (hb : Below w.heap.size w w') : AV w' b q := ⟨(hb.block b h.lt).trans h.1, h.2⟩
theorem AV.turn {S : List Nat} (h : AV w b q) (hb : Turn S w w') (hn : b ∉ S) : AV w' b q := ⟨(hb.block b h.lt hn).trans h.1, h.2⟩
theorem AV.new (w : World) : AV (w.alloc (Obj.cells #[.int .u64 0, .int .u64 0, .int .u64 0, .int .u64 0, .int .i64 0] 33)) w.heap.size [] := ⟨heap_alloc_new w _, by simp⟩
theorem AV.c4 (h : AV w b q) : w.cell? ⟨b, 4, none⟩ = some (.int .i64 (q.length : Int)) := by rw [cell_of_row _ _ 4 _ _ _ h.1]; rfl
theorem AV.ci (h : AV w b q) {i : Nat} (hi : i < 4) : w.cell? ⟨b, i, none⟩ = some (inU (q[i]?.getD 0)) := by
  rw [cell_of_row _ _ i _ _ _ h.1]
  match i, hi with
  | 0, _ | 1, _ | 2, _ | 3, _ => rfl
theorem AV.f (h : AV w b q) (i : Nat) : w.frozen? ⟨b, i, none⟩ = false := frozen_of_row _ _ _ _ _ h.1
theorem len_any (h : AV w b q) : Calls Try.prog 11 #[.pointer (some ⟨b, 0, none⟩)] w fun e w' => e = .returned (.int .i64 (q.length : Int)) ∧ w' = w := by
  have c4 := h.c4
  clear h
  go_enter Try.func11, Try.ntmps11
  go_wp2_with fail
  go_ret
  exact ⟨rfl, rfl⟩
theorem push_full (h : AV w b q) (hf : q.length = 4) (x : Nat) : Calls Try.prog 8 #[.pointer (some ⟨b, 0, none⟩), .int .u64 (x : Int)] w fun e w' => e = .returned (.int .i64 7) ∧ w' = w := by
  have c4 := h.c4
  rw [hf] at c4
  clear h hf
  go_enter Try.func8, Try.ntmps8
  go_wp2_with fail
  go_ret
  exact ⟨rfl, rfl⟩
/-- One more. -/
theorem AV.set (h : AV w b q) {n : Nat} (hn : q.length = n) (h4 : n < 4) (x : Nat) : AV ((w.setCell ⟨b, n, none⟩ (.int .u64 (x : Int))).setCell ⟨b, 4, none⟩ (.int .i64 ((n : Int) + 1))) b (q ++ [x]) := by
  have h1 := heap_setCell_same _ _ n _ _ (.int .u64 (x : Int)) h.1
  have h2 := heap_setCell_same _ _ 4 _ _ (.int .i64 ((n : Int) + 1)) h1
  refine ⟨h2.trans ?_, by simp; omega⟩
  congr 2
  match q, n, hn, h4 with
  | [], 0, _, _ | [_], 1, _, _ | [_, _], 2, _, _ | [_, _, _], 3, _, _ => rfl
set_option maxHeartbeats 1000000 in
theorem push_any (h : AV w b q) (hf : q.length < 4) (x : Nat) : Calls Try.prog 8 #[.pointer (some ⟨b, 0, none⟩), .int .u64 (x : Int)] w fun e w' => e = .returned (.int .i64 0) ∧ Turn [b] w w' ∧ AV w' b (q ++ [x]) := by
  obtain ⟨n, en⟩ : ∃ n, q.length = n := ⟨_, rfl⟩
  rw [en] at hf
  have c4 := h.c4
  rw [en] at c4
  have ci := h.ci (i := n) hf
  have f4 := h.f 4
  have fi := h.f n
  have HA := Lib.hid (h.set en hf x)
  have HT := Lib.hid ((Turn.set w b n (.int .u64 (x : Int))).trans (Turn.set (w.setCell ⟨b, n, none⟩ (.int .u64 (x : Int))) b 4 (.int .i64 ((n : Int) + 1))) (by simp))
  have n4 : ¬ (n : Int) = 4 := by omega
  have l4 : (n : Int) < 4 := by omega
  have i1 : IntKind.i64.wrap ((n : Int) + 1) = (n : Int) + 1 := by rw [IntKind.wrap_i64]; omega
  have d4 : (w.setCell ⟨b, n, none⟩ (.int .u64 (x : Int))).cell? ⟨b, 4, none⟩ = some (.int .i64 (n : Int)) := by
    rw [World.cell?_setCell_other _ _ _ _ (fun e => by injection e with _ e; omega)]; exact c4
  have g4 : (w.setCell ⟨b, n, none⟩ (.int .u64 (x : Int))).frozen? ⟨b, 4, none⟩ = false := frozen_of_row _ _ _ _ _ (heap_setCell_same _ _ n _ _ (.int .u64 (x : Int)) h.1)
  clear h en
  go_enter Try.func8, Try.ntmps8
  go_wp2_with fail
  go_region
  go_wp2_with fail
  go_ret
  exact ⟨rfl, HT.out.trans (Turn.of_below (Below.refl _ _).drew (S := [])) (by simp), HA.out⟩
theorem wpList_copy_by {P : Program} {ops : Array Oper} {rest : List Oper} {o : Oper} {a : Act} {w : World} {Q : Exit → Act → World → Prop} (hgd : o.guard = none) (d s : Operand) (dT sT : TypeId)
    (ho : o.op = .call { callee := .builtin .copy, args := #[d, s], argTypes := #[dT, sT] }) (x y r : Value) (hd : a.eval d = x) (hs : a.eval s = y) (w' : World)
    (hrun : (Builtin.copy_ #[dT, sT] o.type #[x, y]).run P w = .ok r w') (h : wpList P ops Q rest (a.put o.dst r) w') : wpList P ops Q (o :: rest) a w := by
  refine wpList_plain hgd fun K hK => ?_
  unfold Oper.wp
  simp [execOp, ho, resolve, invoke, builtin, hd, hs, hrun, Result.andThen]
  exact hK _ _ h
theorem acs_pop (x : Nat) (r : List Nat) (m : Nat) (hm : r.length = m) (h3 : m ≤ 3) :
    (((((acs (x :: r)).toList.take 0 ++ r.map inU ++ (acs (x :: r)).toList.drop (0 + m)).toArray).setIfInBounds 4 (.int .i64 (m : Int))).setIfInBounds m (.int .u64 0)) = acs r := by
  match r, m, hm, h3 with
  | [], 0, _, _ | [_], 1, _, _ | [_, _], 2, _, _ | [_, _, _], 3, _, _ => rfl
theorem sizeU : (Try.prog.info? 22).map (·.size) = some 1 := by kernel_rfl
theorem pop_none (h : AV w b []) : Calls Try.prog 9 #[.pointer (some ⟨b, 0, none⟩)] w fun e w' => e = .returned (.tuple #[.int .u64 0, .int .i64 2]) ∧ w' = w := by
  have C := Lib.hid (len_any h)
  clear h
  go_enter Try.func9, Try.ntmps9
  go_wp2_with fail
  refine C.out.mono ?_; rintro e w1 ⟨rfl, rfl⟩
  simp only [List.length_nil, show ((0 : Nat) : Int) = 0 from rfl]
  go_wp2_with fail
  go_ret2
  exact ⟨rfl, rfl⟩
set_option maxHeartbeats 1000000 in
theorem pop_any {x : Nat} {r : List Nat} (h : AV w b (x :: r)) : Calls Try.prog 9 #[.pointer (some ⟨b, 0, none⟩)] w fun e w' => e = .returned (.tuple #[.int .u64 (x : Int), .int .i64 0]) ∧ Turn [b] w w' ∧ AV w' b r := by
  obtain ⟨m, em⟩ : ∃ m, r.length = m := ⟨_, rfl⟩
  have hm : m ≤ 3 := by have := h.2; simp at this; omega
  obtain ⟨n, en⟩ : ∃ n, m + 1 = n := ⟨_, rfl⟩
  have eq : (x :: r).length = n := by simp; omega
  have C := Lib.hid (len_any h)
  rw [eq] at C
  have c4 := h.c4
  rw [eq] at c4
  have c0 := h.ci (i := 0) (by omega)
  simp only [List.getElem?_cons_zero, Option.getD_some] at c0
  unfold inU at c0
  have n0 : ¬ (n : Int) = 0 := by omega
  obtain ⟨W0, eW0⟩ : ∃ W0, w.drew = W0 := ⟨_, rfl⟩
  have h0 : AV W0 b (x :: r) := by rw [← eW0]; exact h
  have hrun := run_copy_row (P := Try.prog) W0 30 30 3 22 b 0 4 4 ⟨b, 1, none⟩ m 3 (acs (x :: r)) 33 (r.map inU) Try.underlying30 sizeU h0.1
    (by rw [List.length_map, em]; exact (Nat.min_eq_left (by omega)).symm)
    (fun j v hv => by
      rw [List.getElem?_map] at hv
      cases hy : r[j]? with
      | none => rw [hy] at hv; cases hv
      | some y =>
        rw [hy] at hv
        obtain rfl : inU y = v := by simpa using hv
        have hj := (List.getElem?_eq_some_iff.1 hy).1
        have := h0.ci (i := 1 + j) (by omega)
        rw [addr_add, this, show 1 + j = j + 1 by omega, List.getElem?_cons_succ, hy]
        rfl)
    (by simp [acs]; omega) (fun v hv => by obtain ⟨y, _, rfl⟩ := List.mem_map.1 hv; rfl)
  rw [List.length_map, em] at hrun
  have h1 : (W0.setRow b ((acs (x :: r)).toList.take 0 ++ r.map inU ++ (acs (x :: r)).toList.drop (0 + m)).toArray).heap[b]? = some (Obj.cells ((acs (x :: r)).toList.take 0 ++ r.map inU ++ (acs (x :: r)).toList.drop (0 + m)).toArray 33) := setRow_heap W0 b _ _ 33 _ h0.1
  have t1 := Turn.row W0 b ((acs (x :: r)).toList.take 0 ++ r.map inU ++ (acs (x :: r)).toList.drop (0 + m)).toArray
  obtain ⟨W1, eW1⟩ : ∃ W1, W0.setRow b ((acs (x :: r)).toList.take 0 ++ r.map inU ++ (acs (x :: r)).toList.drop (0 + m)).toArray = W1 := ⟨_, rfl⟩
  rw [eW1] at hrun h1 t1
  have a0 := acs_pop x r m em hm
  obtain ⟨R, eR⟩ : ∃ R, ((acs (x :: r)).toList.take 0 ++ r.map inU ++ (acs (x :: r)).toList.drop (0 + m)).toArray = R := ⟨_, rfl⟩
  rw [eR] at h1 a0
  have r4 : R[4]? = some (.int .i64 (n : Int)) := by
    rw [← eR, ← en, ← em]
    match r, em, hm with
    | [], _, _ | [_], _, _ | [_, _], _, _ | [_, _, _], _, _ => rfl
    | _ :: _ :: _ :: _ :: _, e, h => simp at e; omega
  have p4 : W1.cell? ⟨b, 4, none⟩ = some (.int .i64 (n : Int)) := by rw [cell_of_row _ _ 4 _ _ _ h1]; exact r4
  have g4 : W1.frozen? ⟨b, 4, none⟩ = false := frozen_of_row _ _ _ _ _ h1
  have h2 := heap_setCell_same _ _ 4 _ _ (.int .i64 (m : Int)) h1
  have h3 := heap_setCell_same _ _ m _ _ (.int .u64 0) h2
  have t3 : Turn [b] W0 ((W1.setCell ⟨b, 4, none⟩ (.int .i64 (m : Int))).setCell ⟨b, m, none⟩ (.int .u64 0)) := (t1.trans (Turn.set _ _ _ _) (by simp)).trans (Turn.set _ _ _ _) (by simp)
  have d4 : (W1.setCell ⟨b, 4, none⟩ (.int .i64 (m : Int))).cell? ⟨b, 4, none⟩ = some (.int .i64 (m : Int)) := by
    rw [cell_of_row _ _ 4 _ _ (0, 0) h2]
    have := (Array.getElem?_eq_some_iff.1 r4).1
    simp [this]
  have gm : (W1.setCell ⟨b, 4, none⟩ (.int .i64 (m : Int))).frozen? ⟨b, m, none⟩ = false := frozen_of_row _ _ _ _ _ h2
  have HA : Hid (AV ((W1.setCell ⟨b, 4, none⟩ (.int .i64 (m : Int))).setCell ⟨b, m, none⟩ (.int .u64 0)) b r) := Lib.hid ⟨by rw [h3, a0], by omega⟩
  have HT : Hid (Turn [b] w ((W1.setCell ⟨b, 4, none⟩ (.int .i64 (m : Int))).setCell ⟨b, m, none⟩ (.int .u64 0))) := Lib.hid ((show Turn [b] w W0 by rw [← eW0]; exact Turn.of_below (Below.refl _ _).drew).trans t3 (by simp))
  obtain ⟨z, hz⟩ : ∃ z, W1.cell? ⟨b, m, none⟩ = some z := by
    rw [cell_of_row _ _ m _ _ (0, 0) h1]
    have := (Array.getElem?_eq_some_iff.1 r4).1
    exact ⟨_, Array.getElem?_eq_getElem (by omega)⟩
  have i1 : IntKind.i64.wrap ((n : Int) - 1) = (m : Int) := by rw [IntKind.wrap_i64]; omega
  have l1 : (1 : Int) ≤ (n : Int) := by omega
  have l4 : (n : Int) ≤ 4 := by omega
  have m4 : (m : Int) < 4 := by omega
  have HW := Lib.hid eW0
  have HR := Lib.hid hrun
  have HN := Lib.hid en
  have c4' : W0.cell? ⟨b, 4, none⟩ = some (.int .i64 (n : Int)) := by rw [← eW0]; exact c4
  clear hrun h1 h2 h3 t1 t3 a0 eR eW1 r4 eW0 h0 h eq em en
  go_enter Try.func9, Try.ntmps9
  go_wp2_with fail
  refine C.out.mono ?_; rintro e w1 ⟨rfl, rfl⟩
  go_upto_region 4 with fail
  clear C
  refine wp_region_still_tail 12 (by kernel_rfl) (by kernel_rfl) ?_
  rw [show ({ w1 with drawn := w1.drawn + 1 } : World) = W0 from HW.out]
  simp only [List.take_succ_cons, List.take_zero, List.drop_succ_cons, List.drop_zero]
  repeat still_step
  refine wpStill_nil ?_
  rw [show n - 1 = m by have := HN.out; omega]
  go_wp2_with (refine wpList_copy_by rfl (.tmp 16) (.tmp 24) 30 30 rfl _ _ _ rfl rfl W1 HR.out ?_)
  go_region
  go_wp2_with fail
  go_ret2
  exact ⟨rfl, HT.out.trans (Turn.of_below (Below.refl _ _).drew (S := [])) (by simp), HA.out⟩
end Go.Proofs.Ytdkmddljdggbpaa
