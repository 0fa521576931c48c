/- A ring beside a counter, in a range over a function; bytes of one's own that turn; a cell as the result. -/
import Derived.Test.YtoccgbfnbpkphaaRj
import Derived.Test.YtoccgbfnbpkphaaRk
set_option linter.unusedVariables false
set_option linter.unusedSimpArgs false
namespace Go.Proofs.Ytoccgbfnbpkphaa
open Go.RowKit Rn
set_option linter.unusedVariables false
set_option linter.unusedSimpArgs false
variable {W w w' : World} {R : Nat} {ps : List (List Nat)} {lost : Nat} {us : List Nat}
theorem new_up {TT TT' : List Nat} (hb : Below W.heap.size W w) (hW : ∀ b ∈ TT, W.heap.size ≤ b) (hn : New TT TT' w w') : ∀ b ∈ TT', W.heap.size ≤ b := fun b hm => by
  rcases (hn b hm).1 with e | e
  · exact hW b e
  · exact Nat.le_trans hb.size e
theorem new_out {own TT TT' : List Nat} (ho : ∀ b ∈ own, b < w.heap.size) (hd : ∀ b ∈ own, b ∉ TT) (hn : New TT TT' w w') : ∀ b ∈ own, b ∉ TT' := fun b hb e => by
  rcases (hn b e).1 with e | e
  · exact hd b hb e
  · have := ho b hb; omega
theorem same_turn {own TT : List Nat} (ho : ∀ b ∈ own, b < w.heap.size) (hd : ∀ b ∈ own, b ∉ TT) (ht : Turn TT w w') : Same own w w' := fun b hb => ht.block b (ho b hb) (hd b hb)
theorem RS.grow {own TT TT' : List Nat} (h : RS W (own ++ TT) R ps lost us w) (hW : ∀ b ∈ TT, W.heap.size ≤ b) (ht : Turn TT w w') (hn : New TT TT' w w') : RS W (own ++ TT') R ps lost us w' :=
  h.keep (h.b.trans (ht.below h.b.size hW)) (fun b hl _ hn' => ht.block b hl (fun e => hn' (by simp [e]))) fun b hb => by
    rcases List.mem_append.1 hb with hb | hb
    · exact ⟨.inl (by simp [hb]), Nat.lt_of_lt_of_le (h.t b (by simp [hb])) ht.size⟩
    · refine ⟨?_, (hn b hb).2⟩
      rcases (hn b hb).1 with e | e
      · exact .inl (by simp [e])
      · exact .inr e
/-- A ring beside a counter in block N, and what doesn't turn. -/
def CR (W : World) (own1 : List Nat) (N R : Nat) (ps : List (List Nat)) (lost : Nat) (us : List Nat) (w3 : World) (TT : List Nat) (v : Int) (X : World) : Prop :=
  (∀ b ∈ TT, W.heap.size ≤ b) ∧ RS W ((N :: own1) ++ TT) R ps lost us X ∧ (∀ b ∈ N :: own1, b ∉ TT) ∧ Same own1 w3 X ∧ X.heap[N]? = some (Obj.cells #[.int .i64 v] 3)
variable {own1 : List Nat} {N : Nat} {w3 : World} {T T' : List Nat} {v : Int}
theorem CR.grow (h : CR W own1 N R ps lost us w3 T v w) (ht : Turn T w w') (hn : New T T' w w') : CR W own1 N R ps lost us w3 T' v w' := by
  obtain ⟨h1, h2, h3, h6, h7⟩ := h
  have ho : ∀ b ∈ N :: own1, b < w.heap.size := fun b hb => h2.t b (List.mem_append_left _ hb)
  have hs := same_turn ho h3 ht
  exact ⟨new_up h2.b h1 hn, h2.grow h1 ht hn, new_out ho h3 hn, h6.trans (fun b hb => hs b (List.mem_cons_of_mem _ hb)), (hs N (by simp)).trans h7⟩
theorem CR.less (h : CR W own1 N R ps lost us w3 T v w) (hs : ∀ b ∈ T', b ∈ T) : CR W own1 N R ps lost us w3 T' v w :=
  h.grow (Turn.refl _ _) fun b hb => ⟨.inl (hs b hb), h.2.1.t b (List.mem_append_right _ (hs b hb))⟩
theorem CR.set (h : CR W own1 N R ps lost us w3 T v w) (hW : W.heap.size ≤ N) (ho : N ∉ own1) (u : Int) : CR W own1 N R ps lost us w3 T u (w.setCell ⟨N, 0, none⟩ (.int .i64 u)) ∧ Same T w (w.setCell ⟨N, 0, none⟩ (.int .i64 u)) := by
  obtain ⟨h1, h2, h3, h6, h7⟩ := h
  have hne : ∀ b, b ≠ N → (w.setCell ⟨N, 0, none⟩ (.int .i64 u)).heap[b]? = w.heap[b]? := fun b hb => Below.heap_setCell _ _ _ _ hb
  refine ⟨⟨h1, h2.set N 0 _ (by simp) hW, h3, fun b hb => ?_, ?_⟩, fun b hb => hne b (fun e => h3 N (by simp) (e ▸ hb))⟩
  · rw [hne b (fun e => ho (e ▸ hb))]; exact h6 b hb
  · have := heap_setCell_same w N 0 _ 3 (.int .i64 u) h7
    simpa using this
theorem CR.cells (h : CR W own1 N R ps lost us w3 T v w) : w.cell? ⟨N, 0, none⟩ = some (.int .i64 v) ∧ w.frozen? ⟨N, 0, none⟩ = false :=
  ⟨by rw [cell_of_row _ _ 0 _ 3 (0, 0) h.2.2.2.2]; rfl, frozen_of_row _ _ 0 _ 3 h.2.2.2.2⟩
/-- A block that was handed over turns. -/
theorem CR.turn1 {b : Nat} (h : CR W own1 N R ps lost us w3 (b :: T) v w) (ht : Turn [b] w w') : CR W own1 N R ps lost us w3 (b :: T) v w' :=
  h.grow ⟨ht.os, ht.tape, ht.output, ht.size, fun k hk hn => ht.block k hk fun hm => hn (by rw [List.mem_singleton.1 hm]; simp)⟩ fun x hx => ⟨.inl hx, Nat.lt_of_lt_of_le (h.2.1.t x (List.mem_append_right _ hx)) ht.size⟩
/-- Bytes that may be turned, in block b. -/
def MB (w : World) (b n : Nat) : Prop := ∃ cur, w.heap[b]? = some (Obj.cells cur 5) ∧ ∀ i, i < n → ∃ z : Int, cur[i]? = some (.int .u8 z)
theorem NB.mb {b : Nat} {p : List Nat} {u : Value} (h : NB w b p u) : MB w b p.length := by
  obtain ⟨c, cur, h1, h2, h3, h4, h5⟩ := h
  refine ⟨cur, h2, fun i hi => ⟨(p[i] : Nat), take_at h5 (Y_at (List.getElem?_eq_getElem hi))⟩⟩
theorem MB.cell {b n : Nat} (h : MB w b n) {i : Nat} (hi : i < n) : (∃ z : Int, w.cell? ⟨b, i, none⟩ = some (.int .u8 z)) ∧ w.frozen? ⟨b, i, none⟩ = false := by
  obtain ⟨cur, h1, h2⟩ := h
  obtain ⟨z, hz⟩ := h2 i hi
  exact ⟨⟨z, by rw [cell_of_row _ _ _ _ 5 (0, 0) h1]; exact hz⟩, frozen_of_row _ _ _ _ 5 h1⟩
theorem MB.set {b n : Nat} (h : MB w b n) (i : Nat) (z : Int) : MB (w.setCell ⟨b, i, none⟩ (.int .u8 z)) b n := by
  obtain ⟨cur, h1, h2⟩ := h
  refine ⟨_, heap_setCell_same w b i cur 5 _ h1, fun j hj => ?_⟩
  rw [Array.getElem?_setIfInBounds]
  split
  · rename_i e
    subst e
    rw [if_pos]
    · exact ⟨z, rfl⟩
    · obtain ⟨y, hy⟩ := h2 i hj
      exact (Array.getElem?_eq_some_iff.1 hy).1
  · exact h2 j hj
theorem MB.same {b n : Nat} (h : MB w b n) (hs : w'.heap[b]? = w.heap[b]?) : MB w' b n := by
  obtain ⟨cur, h1, h2⟩ := h; exact ⟨cur, hs.trans h1, h2⟩
theorem NB.conv0 {b : Nat} {p : List Nat} {A : Option Addr} {n c : Nat} (h : NB w b p (.slice A n c)) : (convert 32 9 (.slice A n c)).run Try.prog w = .ok (.string (Str p)) w := by
  obtain ⟨c', cur, e, h2⟩ := h
  injection e with e1 e2 e3
  subst e1 e2 e3
  exact conv_bytes _ _ _ _ _ rfl (NB.br ⟨_, cur, rfl, h2⟩)
theorem enters_of {P : Program} {f : FuncId} {fn : Func} {c : Code} (hf : P.funcs[f]? = some fn) (hname : (fn.name == "runtime.NumGoroutine") = false) (hb : fn.body = some c) (args : Array Value) (w : World) : (callFunc f args).run P w = .ok (.enter f args) w := by
  have hn : ¬ fn.name = "runtime.NumGoroutine" := by simpa using hname
  simp [callFunc, hf, hb, hn]
theorem results_cell1 {fn : Func} {p : Tmp} (h : fn.results = #[.cell p 4]) (tmps : Array Value) (w : World) (g : Nat) (b : Bool) (hp : tmps.getD p undef = .pointer (some ⟨g, 0, none⟩)) (hc : w.cell? ⟨g, 0, none⟩ = some (.bool b)) :
    (results fn tmps).run Try.prog w = .ok (.bool b) w := by
  have hp' : tmps[p]?.getD undef = .pointer (some ⟨g, 0, none⟩) := by simpa using hp
  have ha : (isAgg 4).run Try.prog w = .ok false w := by kernel_rfl
  simp [results, h, hp', asAddr, loadVar, Sem.run_bind, ha, run_load, hc]
/-- Bytes appended to nil. -/
theorem append_bytes0 (w : World) (ty : TypeId) (A : Option Addr) (l c : Nat) (bs : List Nat) (hn : bs.length = l) (hl : l ≤ 1000000) (hr : BR w A bs) :
    ∃ v' w', (Builtin.append_ #[32, 32] ty #[.slice none 0 0, .slice A l c]).run Try.prog w = .ok v' w' ∧ Below w.heap.size w w' ∧ ((l = 0 ∧ v' = .slice none 0 0) ∨ ∃ M, NB w' M bs v' ∧ w.heap.size ≤ M) := by
  obtain ⟨i0, hi, hz0, hz1, hz2⟩ := info_parts info5
  by_cases h0 : l = 0
  · subst h0
    refine ⟨.slice none 0 0, w, ?_, Below.refl _ _, .inl ⟨rfl, rfl⟩⟩
    cases A <;> simp [Builtin.append_, run_underlying Try.underlying32, sizeOf, typeInfo, hi, Builtin.lenOf, Builtin.firstCells, loadCells, loadCellsFrom]
  · obtain ⟨sb, so, rfl, hs⟩ := hr.at' (by omega)
    have hrun := run_append_nil (P := Try.prog) w 32 ty 5 i0 (.int .u8 0) Try.underlying32 hi hz0 ⟨sb, so, none⟩ l c (Y bs) (by rw [hz1, Y_len, hn, Nat.mul_one]) hs (by omega) (by omega) (by rw [hz2]; omega)
    refine ⟨_, _, hrun, ((Below.refl w.heap.size w).drew).alloc (Nat.le_refl _) _, .inr ⟨w.heap.size, ⟨_, _, by rw [hn], heap_alloc_new w.drew _, by rw [hn]; exact grownCap_ge _ _ _ _, grownCap_le_maxLen _ _ _ _ (by unfold maxLen; omega), ?_⟩, Nat.le_refl _⟩⟩
    simp only [Array.toList_append]
    rw [← Y_len bs]
    exact List.take_left
end Go.Proofs.Ytoccgbfnbpkphaa
