/- A lock in memory: Version, Busy, Holds, Queue, Join. -/
import Derived.Test.YtogbidkkdhhllaaVc
set_option linter.unusedVariables false
set_option linter.unusedSimpArgs false
namespace Tk
/-- The queue and the version behind a Join. -/
def jq (us : List Nat) (x : Nat) : List Nat := if x = 0 ∨ x ∈ us then us else us ++ [x]
def jv (us : List Nat) (n x : Nat) : Nat := if x = 0 ∨ x ∈ us then n else if us = [] then n + 1 else n
/-- The version behind a Leave (the queue is us.erase x). -/
def lv (us : List Nat) (n x : Nat) : Nat := if x ∈ us then (if us.idxOf x = 0 then (if us.length = 1 then n + 1 else n + 2) else n) else n
end Tk
namespace Go.Proofs.Ytogbidkkdhhllaa
open Go.RowKit Tk
set_option linter.unusedVariables false
set_option linter.unusedSimpArgs false
variable {own own' : Nat → Prop} {w w' : World} {L : Nat} {us : List Nat} {n : Nat}
/-- The lock at L. -/
def LM (own : Nat → Prop) (w : World) (L : Nat) (us : List Nat) (n : Nat) : Prop := ∃ v, w.heap[L]? = some (Obj.cells #[v, .int .u64 (n : Int)] 27) ∧ RW own 25 enU w v us
theorem LM.lt (h : LM own w L us n) : L < w.heap.size := by
  obtain ⟨v, h1, _⟩ := h; exact (Array.getElem?_eq_some_iff.1 h1).1
theorem LM.keep (h : LM own w L us n) (hL : w'.heap[L]? = w.heap[L]?) (hk : ∀ b cur, own b → w.heap[b]? = some (Obj.cells cur 25) → own' b ∧ w'.heap[b]? = w.heap[b]?) : LM own' w' L us n := by
  obtain ⟨v, h1, h2⟩ := h; exact ⟨v, hL.trans h1, h2.keep hk⟩
theorem LM.drew (h : LM own w L us n) : LM own w.drew L us n := h
theorem LM.new (w : World) : LM own (w.alloc (Obj.cells #[.slice none 0 0, .int .u64 0] 27)) w.heap.size [] 0 := ⟨_, heap_alloc_new w _, RW.nil _ _⟩
theorem cells_lk {v : Value} (h1 : w.heap[L]? = some (Obj.cells #[v, .int .u64 (n : Int)] 27)) : w.cell? ⟨L, 0, none⟩ = some v ∧ w.cell? ⟨L, 1, none⟩ = some (.int .u64 (n : Int)) ∧ w.frozen? ⟨L, 0, none⟩ = false ∧ w.frozen? ⟨L, 1, none⟩ = false :=
  ⟨by rw [cell_of_row _ _ 0 _ 27 (0, 0) h1]; rfl, by rw [cell_of_row _ _ 1 _ 27 (0, 0) h1]; rfl, frozen_of_row _ _ 0 _ 27 h1, frozen_of_row _ _ 1 _ 27 h1⟩
theorem ver_any (h : LM own w L us n) : Calls Try.prog 9 #[.pointer (some ⟨L, 0, none⟩)] w fun e w' => e = .returned (.int .u64 (n : Int)) ∧ w' = w := by
  obtain ⟨v, h1, h2⟩ := h
  obtain ⟨c0, c1, _, _⟩ := cells_lk h1
  clear h1 h2
  go_enter Try.func9, Try.ntmps9
  go_wp2_with fail
  go_ret
  exact ⟨rfl, rfl⟩
theorem busy_any (h : LM own w L us n) : Calls Try.prog 10 #[.pointer (some ⟨L, 0, none⟩)] w fun e w' => e = .returned (.bool (decide (0 < us.length))) ∧ w' = w := by
  obtain ⟨v, h1, h2⟩ := h
  obtain ⟨c0, c1, _, _⟩ := cells_lk h1
  obtain ⟨A, c, rfl, _⟩ := h2.form
  have hB : Hid (decide (0 < us.length) = decide ((us.length : Int) > 0)) := Lib.hid (by rw [decide_eq_decide]; omega)
  clear h1 h2
  go_enter Try.func10, Try.ntmps10
  go_wp2_with fail
  go_ret
  exact ⟨by rw [hB.out]; simp, rfl⟩
theorem holds_any (x : Nat) (h : LM own w L us n) : Calls Try.prog 11 #[.pointer (some ⟨L, 0, none⟩), .int .u64 (x : Int)] w fun e w' => e = .returned (.bool (decide (us.head? = some x))) ∧ w' = w := by
  have C := Lib.hid (busy_any h)
  obtain ⟨v, h1, h2⟩ := h
  obtain ⟨c0, c1, _, _⟩ := cells_lk h1
  obtain ⟨A, c, rfl, _, _, hr⟩ := h2.form
  clear h1 h2
  cases us with
  | nil =>
    go_enter Try.func11, Try.ntmps11
    go_wp2_with fail
    refine C.out.mono ?_; rintro e w1 ⟨rfl, rfl⟩
    go_wp2_with fail
    go_ret
    exact ⟨rfl, rfl⟩
  | cons y r =>
    obtain ⟨b, o, rfl, hb, hc⟩ := hr 0 y rfl
    unfold enU at hc
    rw [Nat.add_zero] at hc
    have hB : Hid (decide ((y :: r).head? = some x) = decide ((y : Int) = (x : Int))) := Lib.hid (by rw [decide_eq_decide]; simp; omega)
    obtain ⟨l, el⟩ : ∃ l, (y :: r).length = l := ⟨_, rfl⟩
    have hl : 0 < l := by rw [← el]; simp
    rw [el] at c0 C
    rw [decide_eq_true hl] at C
    clear hr hb el
    go_enter Try.func11, Try.ntmps11
    go_wp2_with fail
    refine C.out.mono ?_; rintro e w1 ⟨rfl, rfl⟩
    go_wp2_with fail
    go_ret
    exact ⟨by rw [hB.out]; first | rfl | (simp; rfl), rfl⟩
theorem queue_any (h : LM own w L us n) (hm : us.length ≤ 100000) : Calls Try.prog 12 #[.pointer (some ⟨L, 0, none⟩)] w fun e w' => ∃ v, e = .returned v ∧ RW (fun b => w.heap.size ≤ b) 25 enU w' v us ∧ Below w.heap.size w w' := by
  obtain ⟨v, h1, h2⟩ := h
  obtain ⟨c0, c1, _, _⟩ := cells_lk h1
  obtain ⟨A, c, rfl, hc, _, hr⟩ := h2.form
  have C := Lib.hid (clone_u rfl hm hc hr)
  clear h1 h2 hr
  go_enter Try.func12, Try.ntmps12
  go_wp2_with fail
  refine C.out.mono ?_; rintro e w1 ⟨v', rfl, hv⟩
  have HV := Lib.hid hv
  clear hv C
  go_wp2_with fail
  go_ret
  exact ⟨_, rfl, HV.out⟩
end Go.Proofs.Ytogbidkkdhhllaa
