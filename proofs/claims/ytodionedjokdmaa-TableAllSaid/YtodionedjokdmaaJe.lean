/- median, choosePivot. -/
import Derived.Test.YtodionedjokdmaaJd
set_option linter.unusedVariables false
set_option linter.unusedSimpArgs false
namespace Go.Proofs.Ytodionedjokdmaa
open Go.RowKit
set_option linter.unusedVariables false
set_option linter.unusedSimpArgs false
theorem Two.lt {x y a b n : Nat} (h : Two x y a b) (ha : a < n) (hb : b < n) : x < n ∧ y < n := by
  rcases h with ⟨rfl, rfl⟩ | ⟨rfl, rfl⟩ <;> exact ⟨by assumption, by assumption⟩
set_option maxHeartbeats 1000000 in
theorem median_any {w : World} {g o n c P : Nat} {f : Nat → Int} {s : Int} (a b d : Nat) (h : AR w g o n f) (hg : g ≠ P) (hp : PC w P s) (hn : n ≤ 1000) (ha : a < n) (hb : b < n) (hd : d < n) (hs : 0 ≤ s ∧ s ≤ 50) :
    Calls Try.prog 71 #[.slice (some ⟨g, o, none⟩) n c, .int .i64 a, .int .i64 b, .int .i64 d, .pointer (some ⟨P, 0, none⟩)] w fun e w' => ∃ r : Nat, e = .returned (.int .i64 r) ∧ (r = a ∨ r = b ∨ r = d) ∧ Cnt w P s 3 w' := by
  have C1 := Lib.hid (order_any (c := c) a b h hp hn ha hb ⟨hs.1, by omega⟩)
  have H := Lib.hid h
  have HN := Lib.hid (And.intro hg (And.intro hn (And.intro ha (And.intro hb (And.intro hd hs)))))
  clear h hp hn ha hb hd hs hg
  go_enter Try.func71, Try.ntmps71
  go_wp2_with fail
  refine C1.out.mono ?_; rintro e w1 ⟨x1, y1, rfl, ht1, hc1⟩
  obtain ⟨hg, hn, ha, hb, hd, hs⟩ := HN.out
  obtain ⟨s1, p1, q1, q1'⟩ := hc1.c
  have h1 := H.out.cnt hg hc1
  have l1 := ht1.lt ha hb
  have C2 := Lib.hid (order_any (c := c) y1 d h1 p1 hn l1.2 hd ⟨by omega, by omega⟩)
  have H1 := Lib.hid (And.intro h1 (And.intro hc1 (And.intro ht1 (And.intro l1 (And.intro q1 q1')))))
  clear hg hn ha hb hd hs p1 q1 q1' h1 l1 hc1 ht1 C1
  go_wp2_with fail
  refine C2.out.mono ?_; rintro e w2 ⟨x2, y2, rfl, ht2, hc2⟩
  obtain ⟨hg, hn, ha, hb, hd, hs⟩ := HN.out
  obtain ⟨h1, hc1, ht1, l1, q1, q1'⟩ := H1.out
  obtain ⟨s2, p2, q2, q2'⟩ := hc2.c
  have h2 := h1.cnt hg hc2
  have l2 := ht2.lt l1.2 hd
  have C3 := Lib.hid (order_any (c := c) x1 x2 h2 p2 hn l1.1 l2.1 ⟨by omega, by omega⟩)
  have H2 := Lib.hid (And.intro hc2 (And.intro ht2 (And.intro q2 q2')))
  clear hg hn ha hb hd hs p2 q2 q2' h1 l1 hc1 ht1 q1 q1' C2 h2 l2 hc2 ht2
  go_wp2_with fail
  refine C3.out.mono ?_; rintro e w3 ⟨x3, y3, rfl, ht3, hc3⟩
  have H3 := Lib.hid (And.intro hc3 ht3)
  clear hc3 ht3 C3
  go_wp2_with fail
  go_ret
  obtain ⟨h1, hc1, ht1, l1, q1, q1'⟩ := H1.out
  obtain ⟨hc2, ht2, q2, q2'⟩ := H2.out
  obtain ⟨hc3, ht3⟩ := H3.out
  obtain ⟨s3, p3, q3, q3'⟩ := hc3.c
  refine ⟨y3, rfl, ?_, (hc1.t.next hc2.t).next hc3.t, s3, p3, by omega, by omega⟩
  rcases ht1 with ⟨rfl, rfl⟩ | ⟨rfl, rfl⟩ <;> rcases ht2 with ⟨rfl, rfl⟩ | ⟨rfl, rfl⟩ <;> rcases ht3 with ⟨rfl, rfl⟩ | ⟨rfl, rfl⟩ <;> simp
theorem w_id {x : Nat} (h : x ≤ 100000) : IntKind.i64.wrap (x : Int) = (x : Int) := by rw [IntKind.wrap_i64]; omega
theorem w_addN {x y z : Nat} (h : x + y = z) (hz : z ≤ 100000) : IntKind.i64.wrap ((x : Int) + (y : Int)) = (z : Int) := by rw [IntKind.wrap_i64]; omega
theorem w_subN {x y z : Nat} (h : y + z = x) (hx : x ≤ 100000) : IntKind.i64.wrap ((x : Int) - (y : Int)) = (z : Int) := by rw [IntKind.wrap_i64]; omega
theorem w_add1 {x z : Nat} (h : x + 1 = z) (hz : z ≤ 100000) : IntKind.i64.wrap ((x : Int) + 1) = (z : Int) := by rw [IntKind.wrap_i64]; omega
theorem w_sub1 {x z : Nat} (h : z + 1 = x) (hz : x ≤ 100000) : IntKind.i64.wrap ((x : Int) - 1) = (z : Int) := by rw [IntKind.wrap_i64]; omega
theorem w_mul2 {x z : Nat} (h : x * 2 = z) (hz : z ≤ 100000) : IntKind.i64.wrap ((x : Int) * 2) = (z : Int) := by rw [IntKind.wrap_i64]; omega
theorem w_mul3 {x z : Nat} (h : x * 3 = z) (hz : z ≤ 100000) : IntKind.i64.wrap ((x : Int) * 3) = (z : Int) := by rw [IntKind.wrap_i64]; omega
theorem t_quo {l q k : Nat} (h : l / k = q) : (l : Int).tdiv (k : Int) = (q : Int) := by
  rw [Int.tdiv_eq_ediv_of_nonneg (by omega), ← h, Int.natCast_ediv]
/-- A place in [a, b), and a hint that isn't 'falling'. -/
def Pivot (a b : Nat) (e : Ending) : Prop := ∃ (p : Nat) (t : Int), e = .returned (.tuple #[.int .i64 p, .int .i64 t]) ∧ a < p ∧ p < b ∧ t ≠ 2
set_option maxHeartbeats 1000000 in
theorem choose_any {w : World} {g o n c : Nat} {f : Nat → Int} (a b : Nat) (h : AR w g o n f) (hn : n ≤ 1000) (hb : b ≤ n) (h8 : a + 8 ≤ b) (h50 : b < a + 50) :
    Calls Try.prog 59 #[.slice (some ⟨g, o, none⟩) n c, .int .i64 a, .int .i64 b] w fun e w' => Pivot a b e ∧ Below w.heap.size w w' := by
  obtain ⟨l, el⟩ : ∃ l, b - a = l := ⟨_, rfl⟩
  obtain ⟨q, eq⟩ : ∃ q, l / 4 = q := ⟨_, rfl⟩
  obtain ⟨j1, ej1⟩ : ∃ j1, a + q = j1 := ⟨_, rfl⟩
  obtain ⟨q2, eq2⟩ : ∃ q2, q * 2 = q2 := ⟨_, rfl⟩
  obtain ⟨q3, eq3⟩ : ∃ q3, q * 3 = q3 := ⟨_, rfl⟩
  obtain ⟨j2, ej2⟩ : ∃ j2, a + q2 = j2 := ⟨_, rfl⟩
  obtain ⟨j3, ej3⟩ : ∃ j3, a + q3 = j3 := ⟨_, rfl⟩
  have b1 := below_alloc1 w (Obj.cells #[.int .i64 0] 3)
  have hP : PC (w.alloc (Obj.cells #[.int .i64 0] 3)) w.heap.size 0 := heap_alloc_new w _
  have hj : a < j1 ∧ j1 < b ∧ a < j2 ∧ j2 < b ∧ a < j3 ∧ j3 < b := ⟨by omega, by omega, by omega, by omega, by omega, by omega⟩
  have CM := Lib.hid (median_any (c := c) j1 j2 j3 (h.below b1) (Nat.ne_of_lt h.lt) hP hn (by omega) (by omega) (by omega) ⟨by omega, by omega⟩)
  have HJ := Lib.hid hj
  have B1 := Lib.hid b1
  have u0 : a + l = b := by omega
  have u1 : b ≤ 100000 := by omega
  have u2 : q ≤ 100000 := by omega
  have u3 : q2 ≤ 100000 := by omega
  have u4 : q3 ≤ 100000 := by omega
  have u5 : j1 ≤ 100000 := by omega
  have u6 : j2 ≤ 100000 := by omega
  have u7 : j3 ≤ 100000 := by omega
  have g1 : (l : Int) ≥ 8 := by omega
  have g1' : (8 : Int) ≤ l := g1
  have g2 : ¬ (l : Int) ≥ 50 := by omega
  have g2' : ¬ (50 : Int) ≤ l := g2
  have w0 := w_subN u0 u1
  have w1 : (l : Int).tdiv 4 = (q : Int) := t_quo (k := 4) eq
  have w2 := w_id u2
  have w3 := w_mul2 eq2 u3
  have w4 := w_mul3 eq3 u4
  have w5 := w_addN ej1 u5
  have w6 := w_addN ej2 u6
  have w7 := w_addN ej3 u7
  clear h hn hb h8 h50 el eq ej1 ej2 ej3 hP b1 u0 u1 u2 u3 u4 u5 u6 u7 eq2 eq3 hj
  go_enter Try.func59, Try.ntmps59
  go_wp2_with fail
  refine CM.out.mono ?_; rintro e w9 ⟨r, rfl, hr, hc⟩
  obtain ⟨s1, p1, k1, k2⟩ := hc.c
  have c0 := p1.cell
  have HB := Lib.hid (B1.out.trans (hc.t.below B1.out.size (by simp)))
  have HR := Lib.hid (show a < r ∧ r < b from by
    have := HJ.out
    rcases hr with rfl | rfl | rfl <;> omega)
  have e12 : (s1 == 12) = false := by rw [beq_eq_false_iff_ne]; omega
  by_cases h0 : s1 = 0
  · have e0 : (s1 == 0) = true := by rw [h0]; rfl
    clear hr hc p1 k1 k2 CM w0 w1 w2 w3 w4 w5 w6 w7 h0
    go_wp2_with fail
    go_ret2
    exact ⟨⟨r, 1, rfl, HR.out.1, HR.out.2, by decide⟩, HB.out⟩
  · have e0 : (s1 == 0) = false := by rw [beq_eq_false_iff_ne]; exact h0
    clear hr hc p1 k1 k2 CM w0 w1 w2 w3 w4 w5 w6 w7 h0
    go_wp2_with fail
    go_ret2
    exact ⟨⟨r, 0, rfl, HR.out.1, HR.out.2, by decide⟩, HB.out⟩
end Go.Proofs.Ytodionedjokdmaa
