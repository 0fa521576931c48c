/- Alerts in memory: List; lists of numbers: appended to, cloned, without their first one. -/
import Derived.Test.YtdkmddljdggbpaaAa
set_option linter.unusedVariables false
set_option linter.unusedSimpArgs false
namespace Go.Proofs.Ytdkmddljdggbpaa
open Go.RowKit
set_option linter.unusedVariables false
set_option linter.unusedSimpArgs false
theorem enU_one (x : Nat) : (inU x).oneCell' = true := rfl
theorem infoU : (Try.prog.info? 22).map (fun i => (i.zero, i.size, i.bytes)) = some (some (.int .u64 0), 1, 8) := by kernel_rfl
theorem nilU (w : World) (a : Option Addr) (n c : Nat) : (binOp .eql 30 (.slice a n c) (.slice none 0 0)).run Try.prog w = .ok (.bool a.isNone) w := Lib.run_eql_slice_nil w _ _ a n c 0 0 Try.underlying30
variable {w w' : World} {A : Option Addr} {l c : Nat} {us : List Nat}
/-- Some numbers are appended. -/
theorem append_u {own : Nat → Prop} {v : Value} {xs ys : List Nat} (ty : TypeId) (h : RW own 22 inU w v xs) (hl : xs.length + ys.length ≤ 100000) (A2 : Option Addr) (n2 c2 : Nat) (hn : ys.length = n2) (hc2 : ys.length ≤ c2) (hr : LR inU w A2 ys) :
    ∃ v' w', (Builtin.append_ #[30, 30] ty #[v, .slice A2 n2 c2]).run Try.prog w = .ok v' w' ∧ RW (fun b => own b ∨ w.heap.size ≤ b) 22 inU w' v' (xs ++ ys) ∧ ∃ S, Turn S w w' ∧ ∀ b ∈ S, own b ∧ ∃ cur, w.heap[b]? = some (Obj.cells cur 22) := by
  obtain ⟨i0, hi, hz0, hz1, hz2⟩ := info_parts infoU
  subst hn
  exact append_rw 30 ty i0 (.int .u64 0) 8 Try.underlying30 hi hz0 hz1 hz2 (by omega) rfl enU_one h hl A2 c2 hc2 hr
set_option maxHeartbeats 1000000 in
theorem clone_u (hl : us.length = l) (hm : l ≤ 100000) (hc : l ≤ c) (hr : LR inU w A us) : Calls Try.prog 12 #[.slice A l c] w fun e w' => ∃ v, e = .returned v ∧ RW (fun b => w.heap.size ≤ b) 22 inU w' v us ∧ Below w.heap.size w w' := by
  have qT := nilU
  cases A with
  | none =>
    obtain rfl : us = [] := by
      cases us with
      | nil => rfl
      | cons x r => obtain ⟨b, o, h, _⟩ := hr 0 x rfl; cases h
    clear hr
    go_enter Try.func12, Try.ntmps12
    go_wp2_with fail
    go_ret
    exact ⟨_, rfl, RW.nil _ _, Below.refl _ _⟩
  | some ad =>
    obtain ⟨W1, eW1⟩ : ∃ W1, w.alloc (Obj.cells #[] 22) = W1 := ⟨_, rfl⟩
    have hb1 : Below w.heap.size w W1 := by rw [← eW1]; exact below_alloc1 _ _
    have h0 : RW (fun b => w.heap.size ≤ b) 22 inU W1 (.slice (some ⟨w.heap.size, 0, none⟩) 0 0) [] := .inr ⟨w.heap.size, 0, 0, #[], rfl, Nat.le_refl _, by rw [← eW1]; exact heap_alloc_new w _, by simp, by simp, by simp, by simp⟩
    obtain ⟨v', W2, hrun, hu, S, ht, hS⟩ := append_u 30 h0 (ys := us) (by simp; omega) (some ad) l c hl (by omega) (hr.below hb1)
    have HE : Hid (RW (fun b => w.heap.size ≤ b) 22 inU W2 v' us ∧ Below w.heap.size w W2) := Lib.hid ⟨(by simpa using hu : RW _ 22 inU W2 v' us).keep fun b cur hb _ => ⟨by rcases hb with h | h; exact h; have := hb1.size; omega, rfl⟩, hb1.trans (ht.below hb1.size fun b hb => (hS b hb).1)⟩
    have HR := Lib.hid hrun
    clear hu ht hS hb1 h0 hr hrun
    go_enter Try.func12, Try.ntmps12
    go_wp2_with (at_builtin; refine wpList_append_by rfl (.tmp 5) (.tmp 6) _ _ rfl _ _ _ rfl rfl W2 HR.out ?_)
    go_wp2_with fail
    go_ret
    exact ⟨_, rfl, HE.out⟩
theorem list_any {b : Nat} {q : List Nat} (h : AV w b q) : Calls Try.prog 10 #[.pointer (some ⟨b, 0, none⟩)] w fun e w' => ∃ v, e = .returned v ∧ RW (fun g => w.heap.size ≤ g) 22 inU w' v q ∧ Below w.heap.size w w' := by
  obtain ⟨n, en⟩ : ∃ n, q.length = n := ⟨_, rfl⟩
  have h4 := h.2
  have c4 := h.c4
  have l4 : (n : Int) ≤ 4 := by omega
  rw [en] at c4
  have hr : LR inU w.drew (some ⟨b, 0, none⟩) q := fun i x hx => ⟨b, 0, rfl, h.lt, by
    rw [Nat.zero_add]
    have hi := (List.getElem?_eq_some_iff.1 hx).1
    have := h.ci (i := i) (by omega)
    rw [hx] at this
    exact this⟩
  have C := Lib.hid (clone_u (w := w.drew) (A := some ⟨b, 0, none⟩) (l := n) (c := 4) en (by omega) (by omega) hr)
  clear h hr en h4
  go_enter Try.func10, Try.ntmps10
  go_upto_region 3 with fail
  refine wp_region_still_tail 8 (by kernel_rfl) (by kernel_rfl) ?_
  rw [show ({ w with drawn := w.drawn + 1 } : World) = w.drew from rfl]
  simp only [List.take_succ_cons, List.take_zero, List.drop_succ_cons, List.drop_zero]
  repeat still_step
  refine wpStill_nil ?_
  go_wp2_with fail
  refine C.out.mono ?_; rintro e w1 ⟨v, rfl, hv, hb⟩
  have H1 : Hid (RW (fun g => w.heap.size ≤ g) 22 inU w1 v q ∧ Below w.heap.size w w1) := Lib.hid ⟨hv, ((Below.refl _ _).drew).trans hb⟩
  obtain ⟨A, c, rfl, _⟩ := hv.form
  clear hb C
  go_wp2_with fail
  go_ret
  exact ⟨_, rfl, H1.out⟩
/-- A row without its first one. -/
theorem RW.tail {α : Type} {e : TypeId} {enc : α → Value} {own : Nat → Prop} {n cp : Nat} {x : α} {xs : List α} (h : RW own e enc w (.slice A n cp) (x :: xs)) :
    RW own e enc w (.slice (if cp = 1 then A else A.map (·.add 1)) (n - 1) (cp - 1)) xs := by
  rcases h with ⟨h, _⟩ | ⟨g, o, cap, cur, h1, h2, h3, h4, h5, h6, h7⟩
  · cases h
  · injection h1 with e1 e2 e3
    subst e1 e2 e3
    simp only [List.length_cons] at h5 ⊢
    by_cases h8 : cp = 1
    · subst h8
      obtain rfl : xs = [] := by cases xs; rfl; simp at h5
      exact .inr ⟨g, o, 0, cur, by simp, h2, h3, by omega, by simp, by omega, by simp⟩
    · rw [if_neg h8]
      refine .inr ⟨g, o + 1, cp - 1, cur, by rw [Option.map_some, addr_add]; simp, h2, h3, by omega, by omega, by omega, fun i y hi => ?_⟩
      have := h7 (i + 1) y (by simpa using hi)
      rw [show o + 1 + i = o + (i + 1) by omega]
      exact this
end Go.Proofs.Ytdkmddljdggbpaa
