/- Why a wait ends; the example: fit. -/
import Derived.Test.YtdkmddljdggbpaaVt
set_option linter.unusedVariables false
set_option linter.unusedSimpArgs false
namespace Go.Proofs.Ytdkmddljdggbpaa
open Go.RowKit
set_option linter.unusedVariables false
set_option linter.unusedSimpArgs false
/-- The first reason that holds. -/
def why (x : Wt) (l : Lk) : Int := if l.t = false ∨ l.v ≠ x.v then 1 else if l.k ≠ x.k then 2 else if 0 < l.a then 3 else if x.u ≠ 0 ∧ x.u ≤ l.n then 4 else 0
theorem below2 (w : World) (a b : Obj) : Below w.heap.size w ((w.alloc a).alloc b) := ((Below.refl _ _).alloc (Nat.le_refl _) _).alloc (by simp) _
set_option maxHeartbeats 1000000 in
theorem why_any (x : Wt) (l : Lk) (r : Int) (hr : why x l = r) (w : World) : Calls Try.prog 7 #[x.agg, l.agg] w fun e w' => e = .returned (.int .i64 r) ∧ Below w.heap.size w w' := by
  obtain ⟨xs, xo, xv, xk, xu⟩ := x
  obtain ⟨t, v, k, a, n⟩ := l
  unfold Wt.agg Lk.agg
  unfold why at hr
  simp only at hr ⊢
  have HB := Lib.hid (below2 w)
  by_cases h1 : t = false ∨ v ≠ xv
  · rw [if_pos h1] at hr
    subst hr
    cases t with
    | false =>
      clear h1
      go_enter Try.func7, Try.ntmps7
      go_wp2_with fail
      go_ret
      exact ⟨rfl, HB.out _ _⟩
    | true =>
      have h2 : ¬ v = xv := by simpa using h1
      clear h1
      go_enter Try.func7, Try.ntmps7
      go_wp2_with fail
      go_ret
      exact ⟨rfl, HB.out _ _⟩
  rw [if_neg h1] at hr
  obtain rfl : t = true := by cases t; exact absurd (Or.inl rfl) h1; rfl
  obtain rfl : v = xv := by simpa using h1
  clear h1
  by_cases h2 : ¬ k = xk
  · rw [if_pos h2] at hr
    subst hr
    go_enter Try.func7, Try.ntmps7
    go_wp2_with fail
    go_ret
    exact ⟨rfl, HB.out _ _⟩
  obtain rfl : k = xk := Decidable.not_not.1 h2
  clear h2
  rw [if_neg (fun h => h rfl)] at hr
  by_cases h3 : 0 < a
  · rw [if_pos h3] at hr
    subst hr
    have h4 : a > 0 := h3
    go_enter Try.func7, Try.ntmps7
    go_wp2_with fail
    go_ret
    exact ⟨rfl, HB.out _ _⟩
  rw [if_neg h3] at hr
  have h4 : ¬ a > 0 := h3
  by_cases h5 : xu = 0
  · rw [if_neg (fun h => h.1 h5)] at hr
    subst hr h5
    go_enter Try.func7, Try.ntmps7
    go_wp2_with fail
    go_ret
    exact ⟨rfl, HB.out _ _⟩
  by_cases h6 : xu ≤ n
  · rw [if_pos ⟨h5, h6⟩] at hr
    subst hr
    have h7 : n ≥ xu := h6
    go_enter Try.func7, Try.ntmps7
    go_wp2_with fail
    go_ret
    exact ⟨rfl, HB.out _ _⟩
  · rw [if_neg (fun h => h6 h.2)] at hr
    subst hr
    have h7 : ¬ n ≥ xu := h6
    go_enter Try.func7, Try.ntmps7
    go_wp2_with fail
    go_ret
    exact ⟨rfl, HB.out _ _⟩
theorem below_up {W w w' : World} (h : Below W.heap.size W w) (hs : Below w.heap.size w w') : Below W.heap.size W w' := h.trans (hs.mono h.size)
theorem cells5 {w : World} {g T : Nat} {a b c d e : Value} (h : w.heap[g]? = some (Obj.cells #[a, b, c, d, e] T)) :
    w.cell? ⟨g, 0, none⟩ = some a ∧ w.cell? ⟨g, 1, none⟩ = some b ∧ w.cell? ⟨g, 2, none⟩ = some c ∧ w.cell? ⟨g, 3, none⟩ = some d ∧ w.cell? ⟨g, 4, none⟩ = some e :=
  ⟨by rw [cell_of_row _ _ 0 _ _ (0, 0) h]; rfl, by rw [cell_of_row _ _ 1 _ _ (0, 0) h]; rfl, by rw [cell_of_row _ _ 2 _ _ (0, 0) h]; rfl, by rw [cell_of_row _ _ 3 _ _ (0, 0) h]; rfl, by rw [cell_of_row _ _ 4 _ _ (0, 0) h]; rfl⟩
theorem keep5 {w w' : World} {g T : Nat} {cs : Array Value} (h : w.heap[g]? = some (Obj.cells cs T)) (hb : Below w.heap.size w w') : w'.heap[g]? = some (Obj.cells cs T) := (hb.block g (Array.getElem?_eq_some_iff.1 h).1).trans h
set_option maxHeartbeats 1000000 in
theorem fit_any (w : World) : Calls Try.prog 6 #[] w fun e w' => e = .returned (.bool true) ∧ Below w.heap.size w w' := by
  have h1 := heap_alloc_new w (Obj.cells #[.int .u64 0, .int .i64 0, .int .u64 5, .int .u64 0, .int .u64 9] 24)
  have b1 := below_alloc1 w (Obj.cells #[.int .u64 0, .int .i64 0, .int .u64 5, .int .u64 0, .int .u64 9] 24)
  obtain ⟨w1, e1⟩ : ∃ w1, w.alloc (Obj.cells #[.int .u64 0, .int .i64 0, .int .u64 5, .int .u64 0, .int .u64 9] 24) = w1 := ⟨_, rfl⟩
  obtain ⟨g, eg⟩ : ∃ g, w.heap.size = g := ⟨_, rfl⟩
  rw [e1] at h1 b1
  rw [eg] at h1
  have HG := Lib.hid eg
  have HE := Lib.hid (And.intro e1 (And.intro h1 b1))
  have C1 := Lib.hid (why_any ⟨0, 0, 5, 0, 9⟩ ⟨true, 5, 0, 0, 8⟩ 0 (by decide) w1)
  obtain ⟨d0, d1, d2, d3, d4⟩ := cells5 h1
  clear e1 h1 b1 eg
  go_enter Try.func6, Try.ntmps6
  go_upto_region 2 with fail
  rw [HE.out.1, HG.out]
  go_wp2_with fail
  refine C1.out.mono ?_; rintro e w2 ⟨rfl, hb⟩
  clear d0 d1 d2 d3 d4
  obtain ⟨d0, d1, d2, d3, d4⟩ := cells5 (keep5 HE.out.2.1 hb)
  have C2 := Lib.hid (why_any ⟨0, 0, 5, 0, 9⟩ ⟨true, 5, 0, 0, 9⟩ 4 (by decide) w2)
  have H2 := Lib.hid (below_up HE.out.2.2 hb)
  clear hb C1 HE
  go_wp2_with fail
  refine C2.out.mono ?_; rintro e w3 ⟨rfl, hb⟩
  go_wp2_with fail
  go_ret
  exact ⟨rfl, below_up H2.out hb⟩
end Go.Proofs.Ytdkmddljdggbpaa
