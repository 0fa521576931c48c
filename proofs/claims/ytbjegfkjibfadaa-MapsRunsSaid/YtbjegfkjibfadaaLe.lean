/- MapsRuns: the law's state. -/
import Derived.Test.YtbjegfkjibfadaaMh
set_option linter.unusedVariables false
set_option linter.unusedSimpArgs false
namespace Go.Proofs.Ytbjegfkjibfadaa
open Go.RowKit
set_option linter.unusedVariables false
set_option linter.unusedSimpArgs false
/-- What the law has: got in blocks that P isn't said of, want in such that it is. -/
structure RS (w : World) (P : Nat → Bool) (vg vw : Value) (G W : List Mp) (wr : World) : Prop where
  b : Below w.heap.size w wr
  rg : RV (fun b => w.heap.size ≤ b ∧ P b = false) 26 5 encM wr vg G
  rw : RV (fun b => w.heap.size ≤ b ∧ P b = true) 26 5 encM wr vw W
  lt : ∀ b, P b = true → b < wr.heap.size
  sp : Sp G
  pm : G.Perm W
  len : G.length ≤ 16
section
variable {w wr w5 wx W0 w' : World} {P : Nat → Bool} {vg vw vl vg' : Value} {G W G' L : List Mp} {m x : Mp}
theorem RS.start (w : World) (h : Below w.heap.size w wr) : RS w (fun _ => false) (.slice none 0 0) (.slice none 0 0) [] [] wr :=
  ⟨h, RV.nil _ _, RV.nil _ _, (fun b h => (by cases h)), Sp.nil, List.Perm.refl _, (by simp)⟩
theorem RS.below (h : RS w P vg vw G W wr) (hb : Below wr.heap.size wr w') : RS w P vg vw G W w' :=
  ⟨below_up h.b hb, h.rg.below hb, h.rw.below hb, fun b hp => Nat.lt_of_lt_of_le (h.lt b hp) hb.size, h.sp, h.pm, h.len⟩
theorem RS.wlen (h : RS w P vg vw G W wr) : W.length ≤ 16 := by rw [← h.pm.length_eq]; exact h.len
theorem RS.wok (h : RS w P vg vw G W wr) {y : Mp} (hy : y ∈ W) : y.Ok := h.sp.2 y (h.pm.mem_iff.2 hy)
theorem RS.left (h : RS w P vg vw G W wr) (hb : Below wr.heap.size wr W0) (hg : RV (fun b => wr.heap.size ≤ b) 26 5 encM W0 vg' G') (hx : Below W0.heap.size W0 wx) (hl : RV (fun b => W0.heap.size ≤ b) 26 5 encM wx vl L) (hs : Sp G') (hp : G'.Perm L) (hn : G'.length ≤ 16) :
    RS w (fun b => decide (W0.heap.size ≤ b ∧ b < wx.heap.size)) vg' vl G' L wx := by
  have h0 := below_up h.b hb
  refine ⟨below_up h0 hx, hg.keep fun b cur ho hc => ?_, hl.keep fun b cur ho hc => ?_, fun b hp => ?_, hs, hp, hn⟩
  · have hlt := (Array.getElem?_eq_some_iff.1 hc).1
    exact ⟨⟨Nat.le_trans h.b.size ho, decide_eq_false (by omega)⟩, hx.block b hlt⟩
  · exact ⟨⟨Nat.le_trans h0.size ho, decide_eq_true ⟨ho, (Array.getElem?_eq_some_iff.1 hc).1⟩⟩, rfl⟩
  · exact (of_decide_eq_true hp).2
theorem RS.app (h : RS w P vg vw G W wr) (hb : Below wr.heap.size wr w5) (hg : RV (fun b => wr.heap.size ≤ b) 26 5 encM w5 vg' G') (hs : Sp G') (hp : G'.Perm (m :: G)) (hl : G'.length ≤ 16) :
    ∃ v' w' P', (Builtin.append_ #[22, 22] 22 #[vw, .slice (some ⟨w5.heap.size, 0, none⟩) 1 1]).run Try.prog (w5.alloc (blkM m)) = .ok v' w' ∧ RS w P' vg' v' G' (W ++ [m]) w' ∧ Below wr.heap.size wr wr := by
  have b6 := below_alloc1 w5 (blkM m)
  obtain ⟨W6, e6⟩ : ∃ W6, w5.alloc (blkM m) = W6 := ⟨_, rfl⟩
  have hlv : LV 5 encM W6 (some ⟨w5.heap.size, 0, none⟩) [m] := by rw [← e6]; exact lv_one (heap_alloc_new w5 _)
  rw [e6] at b6 ⊢
  have hwl := h.wlen
  obtain ⟨v', w', hrun, hr, ⟨S, hT, hS⟩, _⟩ := append_m 22 ((h.rw.below hb).below b6) (ys := [m]) (by simp; omega) (some ⟨w5.heap.size, 0, none⟩) 1 1 rfl (by simp) hlv
  have h5 : Below w.heap.size w w5 := below_up h.b hb
  have h6 : Below w.heap.size w W6 := below_up h5 b6
  refine ⟨v', w', fun b => P b || decide (W6.heap.size ≤ b ∧ b < w'.heap.size), hrun, ⟨h6.trans (hT.below h6.size fun b hb => (hS b hb).1.1), hg.keep fun b cur ho hc => ?_, hr.keep fun b cur ho hc => ?_, fun b hp => ?_, hs, ?_, hl⟩, Below.refl _ _⟩
  · have hlt := (Array.getElem?_eq_some_iff.1 hc).1
    have hPb : P b = false := by
      cases hq : P b with
      | false => rfl
      | true => have := h.lt b hq; omega
    have h56 := b6.size
    refine ⟨⟨Nat.le_trans h.b.size ho, ?_⟩, ?_⟩
    · show (P b || _) = false
      rw [hPb, Bool.false_or]; exact decide_eq_false (by omega)
    · rw [hT.block b (by omega) (fun hm => by have := (hS b hm).1.2; rw [hPb] at this; cases this), b6.block b hlt]
  · refine ⟨?_, rfl⟩
    rcases ho with ⟨h1, h2⟩ | ho
    · exact ⟨h1, by show (P b || _) = true; rw [h2, Bool.true_or]⟩
    · refine ⟨Nat.le_trans h6.size ho, ?_⟩
      show (P b || _) = true
      rw [decide_eq_true ⟨ho, (Array.getElem?_eq_some_iff.1 hc).1⟩, Bool.or_true]
  · have hp' : (P b || decide (W6.heap.size ≤ b ∧ b < w'.heap.size)) = true := hp
    rw [Bool.or_eq_true] at hp'
    rcases hp' with hp' | hp'
    · have := h.lt b hp'
      have := hb.size
      have := b6.size
      have := hT.size
      omega
    · exact (of_decide_eq_true hp').2
  · exact hp.trans ((List.Perm.cons m h.pm).trans (List.perm_append_comm (l₁ := [m]) (l₂ := W)))
theorem left_app (hb : Below W0.heap.size W0 wx) (hr : RV (fun b => W0.heap.size ≤ b) 26 5 encM wx vl L) (hl : L.length ≤ 1000) :
    ∃ v' w', (Builtin.append_ #[22, 22] 22 #[vl, .slice (some ⟨wx.heap.size, 0, none⟩) 1 1]).run Try.prog (wx.alloc (blkM x)) = .ok v' w' ∧ RV (fun b => W0.heap.size ≤ b) 26 5 encM w' v' (L ++ [x]) ∧ Below W0.heap.size W0 w' := by
  have b6 := below_alloc1 wx (blkM x)
  obtain ⟨W6, e6⟩ : ∃ W6, wx.alloc (blkM x) = W6 := ⟨_, rfl⟩
  have hlv : LV 5 encM W6 (some ⟨wx.heap.size, 0, none⟩) [x] := by rw [← e6]; exact lv_one (heap_alloc_new wx _)
  rw [e6] at b6 ⊢
  obtain ⟨v', w', hrun, hr', ⟨S, hT, hS⟩, _⟩ := append_m 22 (hr.below b6) (ys := [x]) (by simp; omega) (some ⟨wx.heap.size, 0, none⟩) 1 1 rfl (by simp) hlv
  have h6 : Below W0.heap.size W0 W6 := below_up hb b6
  exact ⟨v', w', hrun, hr'.mono fun b ho => by rcases ho with h | h; exact h; exact Nat.le_trans h6.size h, h6.trans (hT.below h6.size fun b hb => (hS b hb).1)⟩
end
/-- Those that don't begin at p. -/
def less (p : Int) (l : List Mp) : List Mp := l.filter fun y => decide (y.a ≠ p)
theorem less_next {p : Int} {l : List Mp} {j : Nat} {x : Mp} (h : l[j]? = some x) : less p (l.take (j + 1)) = less p (l.take j) ++ (if x.a = p then [] else [x]) := by
  unfold less
  have : l.take (j + 1) = l.take j ++ [x] := by rw [List.take_add_one, h]; rfl
  rw [this, List.filter_append]
  by_cases e : x.a = p <;> simp [e]
theorem less_le (p : Int) (l : List Mp) (j : Nat) : (less p (l.take j)).length ≤ l.length := by
  unfold less
  refine Nat.le_trans (List.length_filter_le _ _) ?_
  rw [List.length_take]; omega
/-- Is one of the first over m? -/
theorem ovl_next {l : List Mp} {m x : Mp} {j : Nat} (h : l[j]? = some x) : ovl (l.take (j + 1)) m = (ovl (l.take j) m || ovB x.a x.n m.a m.n) := by
  have : l.take (j + 1) = l.take j ++ [x] := by rw [List.take_add_one, h]; rfl
  unfold ovl
  rw [this, List.any_append]
  simp
end Go.Proofs.Ytbjegfkjibfadaa
