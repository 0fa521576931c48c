/- WaitsCalm. -/
import Derived.Test.YtdkmddljdggbpaaWb
set_option linter.unusedVariables false
set_option linter.unusedSimpArgs false
namespace Go.Proofs.Ytdkmddljdggbpaa
open Go.RowKit
set_option linter.unusedVariables false
set_option linter.unusedSimpArgs false
theorem below_turn {W w w' : World} {S : List Nat} (h : Below W.heap.size W w) (hs : Turn S w w') (hS : ∀ b ∈ S, W.heap.size ≤ b) : Below W.heap.size W w' := h.trans (hs.below h.size hS)
theorem keep_set {w : World} {g h T i : Nat} {cs : Array Value} {u : Value} (hg : w.heap[g]? = some (Obj.cells cs T)) (hn : g ≠ h) : (w.setCell ⟨h, i, none⟩ u).heap[g]? = some (Obj.cells cs T) := (heap_setCell_other _ _ _ _ hn).trans hg
/-- What a thread waits by, and what stands there, in memory. -/
structure CM (W : World) (g h : Nat) (x : Wt) (l : Lk) (w : World) : Prop where
  b : Below W.heap.size W w
  hg : w.heap[g]? = some (Obj.cells #[.int .u64 x.s, .int .i64 x.o, .int .u64 x.v, .int .u64 x.k, .int .u64 x.u] 24)
  hh : w.heap[h]? = some (Obj.cells #[.bool l.t, .int .u64 l.v, .int .u64 l.k, .int .i64 l.a, .int .u64 l.n] 26)
  hb : W.heap.size ≤ h
  ne : g ≠ h
variable {W w w' : World} {g h : Nat} {x : Wt} {l : Lk}
theorem CM.below (m : CM W g h x l w) (hb : Below w.heap.size w w') : CM W g h x l w' := ⟨below_up m.b hb, keep5 m.hg hb, keep5 m.hh hb, m.hb, m.ne⟩
theorem CM.set (m : CM W g h x l w) (i : Nat) (u : Value) (l' : Lk) (hl : #[.bool l.t, .int .u64 l.v, .int .u64 l.k, .int .i64 l.a, .int .u64 l.n].setIfInBounds i u = #[.bool l'.t, .int .u64 l'.v, .int .u64 l'.k, .int .i64 l'.a, .int .u64 l'.n]) : CM W g h x l' (w.setCell ⟨h, i, none⟩ u) :=
  ⟨below_turn m.b (Turn.set w h i u) (fun b hb => by rw [List.mem_singleton.1 hb]; exact m.hb), keep_set m.hg m.ne, by rw [← hl]; exact heap_setCell_same _ _ i _ _ u m.hh, m.hb, m.ne⟩
theorem CM.f (m : CM W g h x l w) (i : Nat) : w.frozen? ⟨h, i, none⟩ = false := frozen_of_row _ _ _ _ _ m.hh
set_option maxRecDepth 100000 in
set_option maxHeartbeats 4000000 in
theorem calm_all (x : Wt) (hx : x.Ok) (how : Int) (w : World) : Calls Try.prog 5 #[x.agg, .int .i64 how] w fun e w' => e = .returned (.bool true) ∧ Below w.heap.size w w' := by
  obtain ⟨xs, xo, xv, xk, xu⟩ := x
  have HO := Lib.hid hx
  obtain ⟨r, r5, s, t, e1, e2, e3, i1, i2, i3⟩ : ∃ (r : Nat), r < 5 ∧ ∃ s t : Int, how.tmod 5 = t ∧ t + 5 = s ∧ s.tmod 5 = (r : Int) ∧ IntKind.i64.wrap t = t ∧ IntKind.i64.wrap s = s ∧ IntKind.i64.wrap (r : Int) = r := by
    have h5 : -5 < how.tmod 5 ∧ how.tmod 5 < 5 := ⟨Int.lt_tmod_of_pos how (by omega), Int.tmod_lt_of_pos how (by omega)⟩
    have h6 : (how.tmod 5 + 5).tmod 5 = (how.tmod 5 + 5) % 5 := Int.tmod_eq_emod_of_nonneg (by omega)
    refine ⟨((how.tmod 5 + 5).tmod 5).toNat, by omega, _, _, rfl, rfl, by omega, ?_, ?_, ?_⟩ <;> (rw [IntKind.wrap_i64]; omega)
  clear hx
  unfold Wt.agg
  simp only
  have hb1 := below_alloc1 w (Obj.cells #[.int .u64 xs, .int .i64 xo, .int .u64 xv, .int .u64 xk, .int .u64 xu] 24)
  have hg1 := heap_alloc_new w (Obj.cells #[.int .u64 xs, .int .i64 xo, .int .u64 xv, .int .u64 xk, .int .u64 xu] 24)
  obtain ⟨g, eg⟩ : ∃ g, w.heap.size = g := ⟨_, rfl⟩
  rw [eg] at hg1
  have H0 := Lib.hid (And.intro hb1 (And.intro hg1 eg))
  clear hb1 hg1 eg
  go_enter Try.func5, Try.ntmps5
  go_wp2_with fail
  refine (fit_any _).mono ?_; rintro e w1 ⟨rfl, hb⟩
  rw [H0.out.2.2]
  have hb1 : Below w.heap.size w w1 := below_up H0.out.1 hb
  have hg1 := keep5 H0.out.2.1 hb
  obtain ⟨d0, d1, d2, d3, d4⟩ := cells5 hg1
  have hg1lt : g < w1.heap.size := (Array.getElem?_eq_some_iff.1 hg1).1
  obtain ⟨h, eh⟩ : ∃ h, w1.heap.size = h := ⟨_, rfl⟩
  have hm : CM w g w1.heap.size ⟨xs, xo, xv, xk, xu⟩ ⟨true, xv, xk, 0, 0⟩ (w1.alloc (Obj.cells #[.bool true, .int .u64 xv, .int .u64 xk, .int .i64 0, .int .u64 0] 26)) :=
    ⟨below_up hb1 (below_alloc1 _ _), keep5 hg1 (below_alloc1 _ _), heap_alloc_new w1 _, hb1.size, by omega⟩
  obtain ⟨w2, ew2⟩ : ∃ w2, w1.alloc (Obj.cells #[.bool true, .int .u64 xv, .int .u64 xk, .int .i64 0, .int .u64 0] 26) = w2 := ⟨_, rfl⟩
  rw [ew2, eh] at hm
  have HE := Lib.hid (And.intro ew2 eh)
  have HM := Lib.hid hm
  clear hb hb1 hg1 hg1lt hm H0 ew2 eh
  go_upto_region 4 with fail
  rw [HE.out.1, HE.out.2]
  clear HE d0 d1 d2 d3 d4
  obtain ⟨d0, d1, d2, d3, d4⟩ := cells5 HM.out.hg
  by_cases hu : xu = 0
  · subst hu
    obtain ⟨f0, f1, f2, f3, f4⟩ := cells5 HM.out.hh
    have C4 := Lib.hid (why_any ⟨xs, xo, xv, xk, 0⟩ ⟨true, xv, xk, 0, 0⟩ 0 (by simp [why]) w2)
    go_wp2_with fail
    refine C4.out.mono ?_; rintro e w4 ⟨rfl, hb⟩
    have HM4 := Lib.hid (HM.out.below hb)
    clear hb C4 f0 f1 f2 f3 f4 d0 d1 d2 d3 d4 HM
    obtain ⟨d0, d1, d2, d3, d4⟩ := cells5 HM4.out.hg
    obtain ⟨f0, f1, f2, f3, f4⟩ := cells5 HM4.out.hh
    have r05 : r = 0 ∨ r = 1 ∨ r = 2 ∨ r = 3 ∨ r = 4 := by omega
    clear r5
    rcases r05 with rfl | rfl | rfl | rfl | rfl
    · simp only [show ((0 : Nat) : Int) = (0 : Int) from rfl] at e3 i3
      have hm5 := HM4.out.set 0 (.bool false) ⟨false, xv, xk, 0, 0⟩ rfl
      obtain ⟨w5, ew5⟩ : ∃ w5, w4.setCell ⟨h, 0, none⟩ (.bool false) = w5 := ⟨_, rfl⟩
      rw [ew5] at hm5
      obtain ⟨p0, p1, p2, p3, p4⟩ := cells5 hm5.hg
      obtain ⟨q0, q1, q2, q3, q4⟩ := cells5 hm5.hh
      have fi := HM4.out.f 0
      have C5 := Lib.hid (why_any ⟨xs, xo, xv, xk, 0⟩ ⟨false, xv, xk, 0, 0⟩ 1 (rfl) w5)
      have HM5 := Lib.hid hm5.b
      clear hm5 HM4
      go_wp2_with fail
      refine C5.out.mono ?_; rintro e w6 ⟨rfl, hb⟩
      go_wp2_with fail
      go_ret
      exact ⟨rfl, below_up HM5.out hb⟩
    · obtain ⟨y, ey⟩ : ∃ y, IntKind.u64.wrap (xv + 1) = y := ⟨_, rfl⟩
      have hy : ¬ y = xv := by have := HO.out.1; unfold Bu at this; rw [← ey, IntKind.wrap_u64]; simp only at this; omega
      simp only [show ((1 : Nat) : Int) = (1 : Int) from rfl] at e3 i3
      have hm5 := HM4.out.set 1 (.int .u64 y) ⟨true, y, xk, 0, 0⟩ rfl
      obtain ⟨w5, ew5⟩ : ∃ w5, w4.setCell ⟨h, 1, none⟩ (.int .u64 y) = w5 := ⟨_, rfl⟩
      rw [ew5] at hm5
      obtain ⟨p0, p1, p2, p3, p4⟩ := cells5 hm5.hg
      obtain ⟨q0, q1, q2, q3, q4⟩ := cells5 hm5.hh
      have fi := HM4.out.f 1
      have C5 := Lib.hid (why_any ⟨xs, xo, xv, xk, 0⟩ ⟨true, y, xk, 0, 0⟩ 1 (by simp [why, hy]) w5)
      have HM5 := Lib.hid hm5.b
      clear hm5 HM4 hy
      go_wp2_with fail
      refine C5.out.mono ?_; rintro e w6 ⟨rfl, hb⟩
      go_wp2_with fail
      go_ret
      exact ⟨rfl, below_up HM5.out hb⟩
    · obtain ⟨y, ey⟩ : ∃ y, IntKind.u64.wrap (xk - 1) = y := ⟨_, rfl⟩
      have hy : ¬ y = xk := by have := HO.out.2.1; unfold Bu at this; rw [← ey, IntKind.wrap_u64]; simp only at this; omega
      simp only [show ((2 : Nat) : Int) = (2 : Int) from rfl] at e3 i3
      have hm5 := HM4.out.set 2 (.int .u64 y) ⟨true, xv, y, 0, 0⟩ rfl
      obtain ⟨w5, ew5⟩ : ∃ w5, w4.setCell ⟨h, 2, none⟩ (.int .u64 y) = w5 := ⟨_, rfl⟩
      rw [ew5] at hm5
      obtain ⟨p0, p1, p2, p3, p4⟩ := cells5 hm5.hg
      obtain ⟨q0, q1, q2, q3, q4⟩ := cells5 hm5.hh
      have fi := HM4.out.f 2
      have C5 := Lib.hid (why_any ⟨xs, xo, xv, xk, 0⟩ ⟨true, xv, y, 0, 0⟩ 2 (by simp [why, hy]) w5)
      have HM5 := Lib.hid hm5.b
      clear hm5 HM4 hy
      go_wp2_with fail
      refine C5.out.mono ?_; rintro e w6 ⟨rfl, hb⟩
      go_wp2_with fail
      go_ret
      exact ⟨rfl, below_up HM5.out hb⟩
    · simp only [show ((3 : Nat) : Int) = (3 : Int) from rfl] at e3 i3
      have hm5 := HM4.out.set 3 (.int .i64 1) ⟨true, xv, xk, 1, 0⟩ rfl
      obtain ⟨w5, ew5⟩ : ∃ w5, w4.setCell ⟨h, 3, none⟩ (.int .i64 1) = w5 := ⟨_, rfl⟩
      rw [ew5] at hm5
      obtain ⟨p0, p1, p2, p3, p4⟩ := cells5 hm5.hg
      obtain ⟨q0, q1, q2, q3, q4⟩ := cells5 hm5.hh
      have fi := HM4.out.f 3
      have C5 := Lib.hid (why_any ⟨xs, xo, xv, xk, 0⟩ ⟨true, xv, xk, 1, 0⟩ 3 (by simp [why]) w5)
      have HM5 := Lib.hid hm5.b
      clear hm5 HM4
      go_wp2_with fail
      refine C5.out.mono ?_; rintro e w6 ⟨rfl, hb⟩
      go_wp2_with fail
      go_ret
      exact ⟨rfl, below_up HM5.out hb⟩
    · simp only [show ((4 : Nat) : Int) = (4 : Int) from rfl] at e3 i3
      have hm5 := HM4.out.set 4 (.int .u64 0) ⟨true, xv, xk, 0, 0⟩ rfl
      obtain ⟨w5, ew5⟩ : ∃ w5, w4.setCell ⟨h, 4, none⟩ (.int .u64 0) = w5 := ⟨_, rfl⟩
      rw [ew5] at hm5
      obtain ⟨p0, p1, p2, p3, p4⟩ := cells5 hm5.hg
      obtain ⟨q0, q1, q2, q3, q4⟩ := cells5 hm5.hh
      have fi := HM4.out.f 4
      have C5 := Lib.hid (why_any ⟨xs, xo, xv, xk, 0⟩ ⟨true, xv, xk, 0, 0⟩ 0 (by simp [why]) w5)
      have HM5 := Lib.hid hm5.b
      clear hm5 HM4
      go_wp2_with fail
      refine C5.out.mono ?_; rintro e w6 ⟨rfl, hb⟩
      go_wp2_with fail
      go_ret
      exact ⟨rfl, below_up HM5.out hb⟩
  · have hu2 : xu > 0 := by have := HO.out.2.2; unfold Bu at this; simp only at this; omega
    have hu3 : 0 < xu := hu2
    obtain ⟨n, en⟩ : ∃ n, xu - 1 = n := ⟨_, rfl⟩
    have hn : ¬ xu ≤ n := by omega
    have j1 : IntKind.u64.wrap n = n := by have := HO.out.2.2; unfold Bu at this; simp only at this; rw [IntKind.wrap_u64]; omega
    have hm3 := HM.out.set 4 (.int .u64 n) ⟨true, xv, xk, 0, n⟩ rfl
    obtain ⟨f0, f1, f2, f3, f4⟩ := cells5 HM.out.hh
    have fr := HM.out.f 4
    obtain ⟨w3, ew3⟩ : ∃ w3, w2.setCell ⟨h, 4, none⟩ (.int .u64 n) = w3 := ⟨_, rfl⟩
    rw [ew3] at hm3
    have HM3 := Lib.hid hm3
    have HN := Lib.hid hn
    clear hm3 HM hn
    go_upto_region 6 with fail
    clear f0 f1 f2 f3 f4 d0 d1 d2 d3 d4 fr ew3 en j1
    have hn := HN.out
    obtain ⟨d0, d1, d2, d3, d4⟩ := cells5 HM3.out.hg
    obtain ⟨f0, f1, f2, f3, f4⟩ := cells5 HM3.out.hh
    have C4 := Lib.hid (why_any ⟨xs, xo, xv, xk, xu⟩ ⟨true, xv, xk, 0, n⟩ 0 (by simp [why, hu, hn]) w3)
    go_wp2_with fail
    refine C4.out.mono ?_; rintro e w4 ⟨rfl, hb⟩
    have HM4 := Lib.hid (HM3.out.below hb)
    clear hb C4 f0 f1 f2 f3 f4 d0 d1 d2 d3 d4 HM3
    obtain ⟨d0, d1, d2, d3, d4⟩ := cells5 HM4.out.hg
    obtain ⟨f0, f1, f2, f3, f4⟩ := cells5 HM4.out.hh
    clear hn HN
    have r05 : r = 0 ∨ r = 1 ∨ r = 2 ∨ r = 3 ∨ r = 4 := by omega
    clear r5
    rcases r05 with rfl | rfl | rfl | rfl | rfl
    · simp only [show ((0 : Nat) : Int) = (0 : Int) from rfl] at e3 i3
      have hm5 := HM4.out.set 0 (.bool false) ⟨false, xv, xk, 0, n⟩ rfl
      obtain ⟨w5, ew5⟩ : ∃ w5, w4.setCell ⟨h, 0, none⟩ (.bool false) = w5 := ⟨_, rfl⟩
      rw [ew5] at hm5
      obtain ⟨p0, p1, p2, p3, p4⟩ := cells5 hm5.hg
      obtain ⟨q0, q1, q2, q3, q4⟩ := cells5 hm5.hh
      have fi := HM4.out.f 0
      have C5 := Lib.hid (why_any ⟨xs, xo, xv, xk, xu⟩ ⟨false, xv, xk, 0, n⟩ 1 (rfl) w5)
      have HM5 := Lib.hid hm5.b
      clear hm5 HM4
      go_wp2_with fail
      refine C5.out.mono ?_; rintro e w6 ⟨rfl, hb⟩
      go_wp2_with fail
      go_ret
      exact ⟨rfl, below_up HM5.out hb⟩
    · obtain ⟨y, ey⟩ : ∃ y, IntKind.u64.wrap (xv + 1) = y := ⟨_, rfl⟩
      have hy : ¬ y = xv := by have := HO.out.1; unfold Bu at this; rw [← ey, IntKind.wrap_u64]; simp only at this; omega
      simp only [show ((1 : Nat) : Int) = (1 : Int) from rfl] at e3 i3
      have hm5 := HM4.out.set 1 (.int .u64 y) ⟨true, y, xk, 0, n⟩ rfl
      obtain ⟨w5, ew5⟩ : ∃ w5, w4.setCell ⟨h, 1, none⟩ (.int .u64 y) = w5 := ⟨_, rfl⟩
      rw [ew5] at hm5
      obtain ⟨p0, p1, p2, p3, p4⟩ := cells5 hm5.hg
      obtain ⟨q0, q1, q2, q3, q4⟩ := cells5 hm5.hh
      have fi := HM4.out.f 1
      have C5 := Lib.hid (why_any ⟨xs, xo, xv, xk, xu⟩ ⟨true, y, xk, 0, n⟩ 1 (by simp [why, hy]) w5)
      have HM5 := Lib.hid hm5.b
      clear hm5 HM4 hy
      go_wp2_with fail
      refine C5.out.mono ?_; rintro e w6 ⟨rfl, hb⟩
      go_wp2_with fail
      go_ret
      exact ⟨rfl, below_up HM5.out hb⟩
    · obtain ⟨y, ey⟩ : ∃ y, IntKind.u64.wrap (xk - 1) = y := ⟨_, rfl⟩
      have hy : ¬ y = xk := by have := HO.out.2.1; unfold Bu at this; rw [← ey, IntKind.wrap_u64]; simp only at this; omega
      simp only [show ((2 : Nat) : Int) = (2 : Int) from rfl] at e3 i3
      have hm5 := HM4.out.set 2 (.int .u64 y) ⟨true, xv, y, 0, n⟩ rfl
      obtain ⟨w5, ew5⟩ : ∃ w5, w4.setCell ⟨h, 2, none⟩ (.int .u64 y) = w5 := ⟨_, rfl⟩
      rw [ew5] at hm5
      obtain ⟨p0, p1, p2, p3, p4⟩ := cells5 hm5.hg
      obtain ⟨q0, q1, q2, q3, q4⟩ := cells5 hm5.hh
      have fi := HM4.out.f 2
      have C5 := Lib.hid (why_any ⟨xs, xo, xv, xk, xu⟩ ⟨true, xv, y, 0, n⟩ 2 (by simp [why, hy]) w5)
      have HM5 := Lib.hid hm5.b
      clear hm5 HM4 hy
      go_wp2_with fail
      refine C5.out.mono ?_; rintro e w6 ⟨rfl, hb⟩
      go_wp2_with fail
      go_ret
      exact ⟨rfl, below_up HM5.out hb⟩
    · simp only [show ((3 : Nat) : Int) = (3 : Int) from rfl] at e3 i3
      have hm5 := HM4.out.set 3 (.int .i64 1) ⟨true, xv, xk, 1, n⟩ rfl
      obtain ⟨w5, ew5⟩ : ∃ w5, w4.setCell ⟨h, 3, none⟩ (.int .i64 1) = w5 := ⟨_, rfl⟩
      rw [ew5] at hm5
      obtain ⟨p0, p1, p2, p3, p4⟩ := cells5 hm5.hg
      obtain ⟨q0, q1, q2, q3, q4⟩ := cells5 hm5.hh
      have fi := HM4.out.f 3
      have C5 := Lib.hid (why_any ⟨xs, xo, xv, xk, xu⟩ ⟨true, xv, xk, 1, n⟩ 3 (by simp [why]) w5)
      have HM5 := Lib.hid hm5.b
      clear hm5 HM4
      go_wp2_with fail
      refine C5.out.mono ?_; rintro e w6 ⟨rfl, hb⟩
      go_wp2_with fail
      go_ret
      exact ⟨rfl, below_up HM5.out hb⟩
    · simp only [show ((4 : Nat) : Int) = (4 : Int) from rfl] at e3 i3
      have hm5 := HM4.out.set 4 (.int .u64 xu) ⟨true, xv, xk, 0, xu⟩ rfl
      obtain ⟨w5, ew5⟩ : ∃ w5, w4.setCell ⟨h, 4, none⟩ (.int .u64 xu) = w5 := ⟨_, rfl⟩
      rw [ew5] at hm5
      obtain ⟨p0, p1, p2, p3, p4⟩ := cells5 hm5.hg
      obtain ⟨q0, q1, q2, q3, q4⟩ := cells5 hm5.hh
      have fi := HM4.out.f 4
      have C5 := Lib.hid (why_any ⟨xs, xo, xv, xk, xu⟩ ⟨true, xv, xk, 0, xu⟩ 4 (by simp [why, hu]) w5)
      have HM5 := Lib.hid hm5.b
      clear hm5 HM4
      go_wp2_with fail
      refine C5.out.mono ?_; rintro e w6 ⟨rfl, hb⟩
      go_wp2_with fail
      go_ret
      exact ⟨rfl, below_up HM5.out hb⟩
end Go.Proofs.Ytdkmddljdggbpaa
