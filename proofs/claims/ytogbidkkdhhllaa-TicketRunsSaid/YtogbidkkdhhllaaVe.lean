/- Join. -/
import Derived.Test.YtogbidkkdhhllaaVd
set_option linter.unusedVariables false
set_option linter.unusedSimpArgs false
namespace Go.Proofs.Ytogbidkkdhhllaa
open Go.RowKit Tk
set_option linter.unusedVariables false
set_option linter.unusedSimpArgs false
variable {own own' : Nat → Prop} {w w' : World} {L : Nat} {us : List Nat} {n : Nat}
theorem LM.setq {v v' : Value} {xs : List Nat} (h1 : w.heap[L]? = some (Obj.cells #[v, .int .u64 (n : Int)] 27)) (h2 : RW own 25 enU w v' xs) : LM own (w.setCell ⟨L, 0, none⟩ v') L xs n := by
  refine ⟨v', by rw [heap_setCell_same w L 0 _ 27 v' h1]; rfl, h2.keep fun b cur hb hc => ⟨hb, heap_setCell_other _ _ _ _ fun e => ?_⟩⟩
  simp only at e
  rw [e, h1] at hc
  simp at hc
theorem LM.setn (h : LM own w L us n) (m : Nat) : LM own (w.setCell ⟨L, 1, none⟩ (.int .u64 (m : Int))) L us m := by
  obtain ⟨v, h1, h2⟩ := h
  refine ⟨v, by rw [heap_setCell_same w L 1 _ 27 _ h1]; rfl, h2.keep fun b cur hb hc => ⟨hb, heap_setCell_other _ _ _ _ fun e => ?_⟩⟩
  simp only at e
  rw [e, h1] at hc
  simp at hc
set_option maxRecDepth 100000 in
set_option maxHeartbeats 1000000 in
theorem join_any (x : Nat) (h : LM own w L us n) (hm : us.length ≤ 10000) (hn : n ≤ 1000000) : Calls Try.prog 7 #[.pointer (some ⟨L, 0, none⟩), .int .u64 (x : Int)] w fun e w' => e = .returned (.tuple #[]) ∧ Turn [L] w w' ∧ LM (fun b => own b ∨ w.heap.size ≤ b) w' L (jq us x) (jv us n x) := by
  have hkeep : LM (fun b => own b ∨ w.heap.size ≤ b) w L us n := h.keep rfl fun b cur hb _ => ⟨.inl hb, rfl⟩
  by_cases h0 : x = 0
  · subst h0
    have HE : Hid (LM (fun b => own b ∨ w.heap.size ≤ b) w L (jq us 0) (jv us n 0)) := Lib.hid (by rw [jq, jv, if_pos (.inl rfl), if_pos (.inl rfl)]; exact hkeep)
    clear hkeep h
    go_enter Try.func7, Try.ntmps7
    go_wp2_with fail
    exact bodyPost_ret (results_none rfl _ _ _) rfl ⟨rfl, Turn.refl _ _, HE.out⟩
  obtain ⟨v, h1, h2⟩ := h
  obtain ⟨c0, c1, f0, f1⟩ := cells_lk h1
  obtain ⟨A, c, rfl, hc, _, hr⟩ := h2.form
  have n0 : ¬ (x : Int) = 0 := by omega
  have K := Lib.hid (contains_any (c := c) x rfl (by omega) hr)
  by_cases hx : x ∈ us
  · rw [decide_eq_true hx] at K
    have HE : Hid (LM (fun b => own b ∨ w.heap.size ≤ b) w L (jq us x) (jv us n x)) := Lib.hid (by rw [jq, jv, if_pos (.inr hx), if_pos (.inr hx)]; exact hkeep)
    clear hkeep h1 h2 hr hx f0 f1
    go_enter Try.func7, Try.ntmps7
    go_wp2_with fail
    refine K.out.mono ?_; rintro e w1 ⟨rfl, rfl⟩
    go_wp2_with fail
    exact bodyPost_ret (results_none rfl _ _ _) rfl ⟨rfl, Turn.refl _ _, HE.out⟩
  · rw [decide_eq_false hx] at K
    obtain ⟨W1, eW1⟩ : ∃ W1, w.alloc (Obj.cells #[.int .u64 (x : Int)] 25) = W1 := ⟨_, rfl⟩
    have hb1 : Below w.heap.size w W1 := by rw [← eW1]; exact below_alloc1 _ _
    have hs1 : W1.heap.size = w.heap.size + 1 := by rw [← eW1]; simp
    have hr1 : LR enU W1 (some ⟨w.heap.size, 0, none⟩) [x] := fun i y hi => by
      match i with
      | 0 =>
        obtain rfl : x = y := by simpa using hi
        refine ⟨_, _, rfl, by omega, ?_⟩
        rw [← eW1, cell_of_row _ _ _ _ 25 (0, 0) (heap_alloc_new w _)]; rfl
      | i + 1 => simp at hi
    obtain ⟨l, el⟩ : ∃ l, us.length = l := ⟨_, rfl⟩
    rw [el] at c0 K h1
    obtain ⟨W2, eW2⟩ : ∃ W2, W1.alloc (Obj.cells #[.slice A l c, .slice (some ⟨w.heap.size, 0, none⟩) 1 1] 24) = W2 := ⟨_, rfl⟩
    have hb2 : Below w.heap.size w W2 := hb1.trans (by rw [← eW2]; exact (below_alloc1 _ _).mono hb1.size)
    have d0 : W2.cell? ⟨w.heap.size + 1, 0, none⟩ = some (.slice A l c) := by
      rw [← eW2, ← hs1, cell_of_row _ _ _ _ 24 (0, 0) (heap_alloc_new W1 _)]; rfl
    have d1 : W2.cell? ⟨w.heap.size + 1, 1, none⟩ = some (.slice (some ⟨w.heap.size, 0, none⟩) 1 1) := by
      rw [← eW2, ← hs1, cell_of_row _ _ _ _ 24 (0, 0) (heap_alloc_new W1 _)]; rfl
    have C := Lib.hid (concat_any (w.heap.size + 1) A l c us (some ⟨w.heap.size, 0, none⟩) 1 1 [x] W2 d0 d1 el rfl (by omega) (by omega) (by omega) (hr.below hb2) (hr1.below (by rw [← eW2]; exact below_alloc1 _ _)))
    have HB2 := Lib.hid hb2
    have HH := Lib.hid h1
    have EL := Lib.hid el
    have HX := Lib.hid hx
    clear hkeep h2 hr d0 d1 hb1 hb2 hr1 f1 h1 el hx
    go_enter Try.func7, Try.ntmps7
    go_wp2_with fail
    refine K.out.mono ?_; rintro e w1 ⟨rfl, rfl⟩
    clear K
    go_wp2_with fail
    refine C.out.mono ?_; rintro e W3 ⟨v', rfl, hv, hb3⟩
    have hL : L < w1.heap.size := (Array.getElem?_eq_some_iff.1 HH.out).1
    have h3 : W3.heap[L]? = some (Obj.cells #[.slice A l c, .int .u64 (n : Int)] 27) := by
      rw [hb3.block L (Nat.lt_of_lt_of_le hL HB2.out.size), HB2.out.block L hL]; exact HH.out
    obtain ⟨d0, d1, g0, g1⟩ := cells_lk h3
    have HS := Lib.hid (LM.setq h3 hv)
    have HT : Hid (Turn [L] w1 (W3.setCell ⟨L, 0, none⟩ v')) := Lib.hid ((Turn.of_below (HB2.out.trans (hb3.mono HB2.out.size))).trans (Turn.set W3 L 0 v') (fun b hb => .inl hb))
    have HW := Lib.hid (Nat.le_trans HB2.out.size (Nat.le_refl W2.heap.size))
    obtain ⟨A', c', rfl, _⟩ := hv.form
    have e1 : (us ++ [x]).length = l + 1 := by rw [List.length_append, EL.out]; rfl
    rw [e1] at HS HT ⊢
    have ej : jq us x = us ++ [x] := by rw [jq, if_neg (by rintro (h | h); exact h0 h; exact HX.out h)]
    clear hv hb3 h3 C
    by_cases hl : l = 0
    · subst hl
      obtain ⟨N, eN⟩ : ∃ N : Nat, n + 1 = N := ⟨_, rfl⟩
      have ev : jv us n x = N := by rw [jv, if_neg (by rintro (h | h); exact h0 h; exact HX.out h), if_pos (List.length_eq_zero_iff.1 EL.out), eN]
      have i1 : IntKind.u64.wrap ((n : Int) + 1) = (N : Int) := by rw [IntKind.wrap_u64]; omega
      have HE := Lib.hid ((HS.out.setn N).keep (own' := fun b => own b ∨ w1.heap.size ≤ b) (w' := _) rfl fun b cur hb _ => ⟨.inr (Nat.le_trans HW.out hb), rfl⟩)
      have HT2 := Lib.hid (HT.out.trans (Turn.set _ L 1 (.int .u64 (N : Int))) fun b hb => .inl hb)
      clear HS HT eN
      go_wp2_with fail
      exact bodyPost_end (results_none rfl _ _ _) rfl ⟨rfl, HT2.out, by rw [ej, ev]; exact HE.out⟩
    · have ev : jv us n x = n := by rw [jv, if_neg (by rintro (h | h); exact h0 h; exact HX.out h), if_neg fun h => hl (by rw [← EL.out, h]; rfl)]
      have HE := Lib.hid (HS.out.keep (own' := fun b => own b ∨ w1.heap.size ≤ b) (w' := _) rfl fun b cur hb _ => ⟨.inr (Nat.le_trans HW.out hb), rfl⟩)
      have hl' : l ≤ 10000 := by rw [← EL.out]; exact hm
      have i1 : IntKind.i64.wrap ((l : Int) + 1) = (l : Int) + 1 := by rw [IntKind.wrap_i64]; omega
      have i2 : ((l : Int) + 1 == 1) = false := by simp; omega
      have i3 : ¬ ((l : Int) + 1 = 1) := by omega
      go_wp2_with fail
      exact bodyPost_end (results_none rfl _ _ _) rfl ⟨rfl, HT.out, by rw [ej, ev]; exact HE.out⟩
end Go.Proofs.Ytogbidkkdhhllaa
