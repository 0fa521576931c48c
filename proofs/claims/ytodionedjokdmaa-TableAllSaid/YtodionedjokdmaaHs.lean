/- What is kept while objects come (the same as in the text of TableRuns). -/
import Derived.Test.YtodionedjokdmaaIg
set_option linter.unusedVariables false
set_option linter.unusedSimpArgs false
namespace Go.Proofs.Ytodionedjokdmaa
open Go.RowKit Go.Maps
set_option linter.unusedVariables false
set_option linter.unusedSimpArgs false
attribute [local go_sem] Oper.semAt_some
/-- What stands while objects come: all but a few blocks is as it was. -/
structure SI (w : World) (T0 : List Nat) (B7 B8 : Nat) (TT pre : List Nat) (W : World) : Prop where
  ht : ∀ b ∈ TT, b ∈ T0 ∨ w.heap.size ≤ b
  os : W.os = w.os
  tape : W.tape = w.tape
  output : W.output = w.output
  size : w.heap.size ≤ W.heap.size
  keep : ∀ b, b < w.heap.size → b ∉ T0 → b ≠ B7 → b ≠ B8 → W.heap[b]? = w.heap[b]?
  c7 : W.heap[B7]? = some (Obj.cells #[.int .u64 (pre.getLastD 0 : Nat)] 28)
  c8 : W.heap[B8]? = some (Obj.cells #[.int .i64 (pre.length : Nat)] 3)
theorem SI.grows {w : World} {T0 : List Nat} {B7 B8 : Nat} (h7 : B7 ∉ T0 ∧ B7 < w.heap.size) (h8 : B8 ∉ T0 ∧ B8 < w.heap.size) : Grows (SI w T0 B7 B8) := by
  intro T T' s W W' h hT ht hn
  have hnT : ∀ b, b < w.heap.size → b ∉ T0 → b ∉ T := fun b hb h0 hm => by
    rcases h.ht b hm with h1 | h1
    · exact h0 h1
    · omega
  have hbl : ∀ b, b < w.heap.size → b ∉ T0 → W'.heap[b]? = W.heap[b]? := fun b hb h0 => ht.block b (Nat.lt_of_lt_of_le hb h.size) (hnT b hb h0)
  refine ⟨fun b hb => ?_, ht.os.trans h.os, ht.tape.trans h.tape, ht.output.trans h.output, Nat.le_trans h.size ht.size, fun b hb h0 n7 n8 => (hbl b hb h0).trans (h.keep b hb h0 n7 n8), (hbl B7 h7.2 h7.1).trans h.c7, (hbl B8 h8.2 h8.1).trans h.c8⟩
  rcases (hn b hb).1 with h1 | h1
  · exact h.ht b h1
  · have := h.size; exact .inr (by omega)
/-- One more has come. -/
theorem SI.step {w : World} {T0 : List Nat} {B7 B8 : Nat} (h7 : B7 ∉ T0 ∧ B7 < w.heap.size) (h8 : B8 ∉ T0 ∧ B8 < w.heap.size) (hne : B7 ≠ B8) {TT pre : List Nat} {W : World} {x : Nat} (h : SI w T0 B7 B8 TT pre W) :
    SI w T0 B7 B8 TT (pre ++ [x]) ((W.setCell ⟨B7, 0, none⟩ (.int .u64 (x : Int))).setCell ⟨B8, 0, none⟩ (.int .i64 ((pre.length + 1 : Nat) : Int))) ∧ Same TT W ((W.setCell ⟨B7, 0, none⟩ (.int .u64 (x : Int))).setCell ⟨B8, 0, none⟩ (.int .i64 ((pre.length + 1 : Nat) : Int))) := by
  have ho : ∀ b, b ≠ B7 → b ≠ B8 → ((W.setCell ⟨B7, 0, none⟩ (.int .u64 (x : Int))).setCell ⟨B8, 0, none⟩ (.int .i64 ((pre.length + 1 : Nat) : Int))).heap[b]? = W.heap[b]? := fun b h1 h2 => (heap_setCell_other _ _ _ _ h2).trans (heap_setCell_other _ _ _ _ h1)
  have a7 := heap_setCell_same W B7 0 _ 28 (.int .u64 (x : Int)) h.c7
  have a8 := heap_setCell_same (W.setCell ⟨B7, 0, none⟩ (.int .u64 (x : Int))) B8 0 _ 3 (.int .i64 ((pre.length + 1 : Nat) : Int)) ((heap_setCell_other _ _ _ _ (fun e => hne (by have e2 : B8 = B7 := e; exact e2.symm))).trans h.c8)
  refine ⟨⟨h.ht, h.os, h.tape, h.output, by simpa using h.size, fun b hb h0 n7 n8 => (ho b n7 n8).trans (h.keep b hb h0 n7 n8), ?_, ?_⟩, fun b hb => ?_⟩
  · refine (heap_setCell_other _ _ _ _ (fun e => hne (by have e2 : B7 = B8 := e; exact e2))).trans ?_
    rw [List.getLastD_concat]; simpa using a7
  · rw [List.length_append]; simpa using a8
  · refine ho b (fun e => ?_) fun e => ?_
    · subst e
      rcases h.ht _ hb with h1 | h1
      · exact h7.1 h1
      · have := h7.2; omega
    · subst e
      rcases h.ht _ hb with h1 | h1
      · exact h8.1 h1
      · have := h8.2; omega
theorem SI.below {w : World} {T0 : List Nat} {B7 B8 : Nat} (h7 : B7 ∉ T0 ∧ B7 < w.heap.size) (h8 : B8 ∉ T0 ∧ B8 < w.heap.size) {TT pre : List Nat} {W W' : World} (h : SI w T0 B7 B8 TT pre W) (hT : ∀ b ∈ TT, b < W.heap.size) (hb : Below W.heap.size W W') : SI w T0 B7 B8 TT pre W' :=
  SI.grows h7 h8 TT TT pre W W' h hT (Turn.of_below hb) fun b hm => ⟨.inl hm, Nat.lt_of_lt_of_le (hT b hm) hb.size⟩
theorem rise_le (l : List Nat) (n : Nat) (h : l.Pairwise (· < ·)) (hn : ∀ y ∈ l, y < n) : l.length ≤ n := by
  have := nodup_len l (List.range n) (h.imp fun hlt e => by omega) fun y hy => List.mem_range.2 (hn y hy)
  simpa using this
theorem results_cell1 {fn : Func} {p : Tmp} (h : fn.results = #[.cell p 4]) (tmps : Array Value) (w : World) (g : Nat) (b : Bool) (hp : tmps.getD p undef = .pointer (some ⟨g, 0, none⟩)) (hc : w.cell? ⟨g, 0, none⟩ = some (.bool b)) :
    (results fn tmps).run Try.prog w = .ok (.bool b) w := by
  have hp' : tmps[p]?.getD undef = .pointer (some ⟨g, 0, none⟩) := by simpa using hp
  have ha : (isAgg 4).run Try.prog w = .ok false w := by kernel_rfl
  simp [results, h, hp', asAddr, loadVar, Sem.run_bind, ha, run_load, hc]
end Go.Proofs.Ytodionedjokdmaa
