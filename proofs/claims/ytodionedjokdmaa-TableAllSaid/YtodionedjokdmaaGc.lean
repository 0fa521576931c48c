/- choosePivot. -/
import Derived.Test.YtodionedjokdmaaJe
set_option linter.unusedVariables false
set_option linter.unusedSimpArgs false
namespace Go.Proofs.Ytodionedjokdmaa
open Go.RowKit
set_option linter.unusedVariables false
set_option linter.unusedSimpArgs false
theorem Cnt.trans {w w' w'' : World} {P k k' : Nat} {s : Int} (h : Cnt w P s k w') (h' : ∀ s', PC w' P s' → s ≤ s' → s' ≤ s + k → Cnt w' P s' k' w'') : Cnt w P s (k + k') w'' := by
  obtain ⟨s', p, h1, h2⟩ := h.c
  have h3 := h' s' p h1 h2
  obtain ⟨s'', p', h4, h5⟩ := h3.c
  exact ⟨h.t.next h3.t, s'', p', by omega, by omega⟩
theorem medadj_any {w : World} {g o n c P : Nat} {f : Nat → Int} {s : Int} (a : Nat) (h : AR w g o n f) (hg : g ≠ P) (hp : PC w P s) (hn : n ≤ 1000) (h0 : 0 < a) (ha : a + 1 < n) (hs : 0 ≤ s ∧ s ≤ 50) :
    Calls Try.prog 70 #[.slice (some ⟨g, o, none⟩) n c, .int .i64 a, .pointer (some ⟨P, 0, none⟩)] w fun e w' => ∃ r : Nat, e = .returned (.int .i64 r) ∧ (r + 1 = a ∨ r = a ∨ r = a + 1) ∧ Cnt w P s 3 w' := by
  obtain ⟨y, ey⟩ : ∃ y, y + 1 = a := ⟨a - 1, by omega⟩
  obtain ⟨z, ez⟩ : ∃ z, a + 1 = z := ⟨_, rfl⟩
  have C := Lib.hid (median_any (c := c) y a z h hg hp hn (by omega) (by omega) (by omega) hs)
  have w1 := w_sub1 ey (by omega)
  have w2 := w_add1 ez (by omega)
  have HA := Lib.hid (And.intro ey ez)
  clear h hg hp hn h0 ha hs ey ez
  go_enter Try.func70, Try.ntmps70
  go_wp2_with fail
  refine C.out.mono ?_; rintro e w9 ⟨r, rfl, hr, hc⟩
  have H := Lib.hid (show (r + 1 = a ∨ r = a ∨ r = a + 1) ∧ Cnt w P s 3 w9 from ⟨by have := HA.out; omega, hc⟩)
  clear hr hc C w1 w2
  go_wp2_with fail
  go_ret
  exact ⟨r, rfl, H.out⟩
/-- A place in [a, b), and a hint; one that is 'falling' stands ahead of the last. -/
def Pivot2 (a b : Nat) (e : Ending) : Prop := ∃ (p : Nat) (t : Int), e = .returned (.tuple #[.int .i64 p, .int .i64 t]) ∧ a < p ∧ p < b ∧ (t = 2 → p + 1 < b)
set_option maxHeartbeats 2000000 in
theorem choose50_any {w : World} {g o n c : Nat} {f : Nat → Int} (a b : Nat) (h : AR w g o n f) (hn : n ≤ 1000) (hb : b ≤ n) (h50 : a + 50 ≤ b) :
    Calls Try.prog 59 #[.slice (some ⟨g, o, none⟩) n c, .int .i64 a, .int .i64 b] w fun e w' => Pivot2 a b e ∧ Below w.heap.size w w' := by
  obtain ⟨l, el⟩ : ∃ l, b - a = l := ⟨_, rfl⟩
  obtain ⟨q, eq⟩ : ∃ q, l / 4 = q := ⟨_, rfl⟩
  obtain ⟨j1, ej1⟩ : ∃ j1, a + q = j1 := ⟨_, rfl⟩
  obtain ⟨q2, eq2⟩ : ∃ q2, q * 2 = q2 := ⟨_, rfl⟩
  obtain ⟨q3, eq3⟩ : ∃ q3, q * 3 = q3 := ⟨_, rfl⟩
  obtain ⟨j2, ej2⟩ : ∃ j2, a + q2 = j2 := ⟨_, rfl⟩
  obtain ⟨j3, ej3⟩ : ∃ j3, a + q3 = j3 := ⟨_, rfl⟩
  have b1 := below_alloc1 w (Obj.cells #[.int .i64 0] 3)
  have hP : PC (w.alloc (Obj.cells #[.int .i64 0] 3)) w.heap.size 0 := heap_alloc_new w _
  have hgP : g ≠ w.heap.size := Nat.ne_of_lt h.lt
  have hj : a + 1 < j1 ∧ j1 + 2 < b ∧ a + 1 < j2 ∧ j2 + 2 < b ∧ a + 1 < j3 ∧ j3 + 2 < b := ⟨by omega, by omega, by omega, by omega, by omega, by omega⟩
  have C1 := Lib.hid (medadj_any (c := c) j1 (h.below b1) hgP hP hn (by omega) (by omega) ⟨by omega, by omega⟩)
  have H := Lib.hid (show AR (w.alloc (Obj.cells #[.int .i64 0] 3)) g o n f from h.below b1)
  have HJ := Lib.hid (show (a + 1 < j1 ∧ j1 + 2 < b ∧ a + 1 < j2 ∧ j2 + 2 < b ∧ a + 1 < j3 ∧ j3 + 2 < b) ∧ n ≤ 1000 ∧ b ≤ n ∧ g ≠ w.heap.size from ⟨hj, hn, hb, hgP⟩)
  have B1 := Lib.hid b1
  have u0 : a + l = b := by omega
  have u1 : b ≤ 100000 := by omega
  have u2 : q ≤ 100000 := by omega
  have u3 : q2 ≤ 100000 := by omega
  have u4 : q3 ≤ 100000 := by omega
  have u5 : j1 ≤ 100000 := by omega
  have u6 : j2 ≤ 100000 := by omega
  have u7 : j3 ≤ 100000 := by omega
  have g1 : (l : Int) ≥ 8 := by omega
  have g1' : (8 : Int) ≤ l := g1
  have g2 : (l : Int) ≥ 50 := by omega
  have g2' : (50 : Int) ≤ l := g2
  have w0 := w_subN u0 u1
  have w1 : (l : Int).tdiv 4 = (q : Int) := t_quo (k := 4) eq
  have w2 := w_id u2
  have w3 := w_mul2 eq2 u3
  have w4 := w_mul3 eq3 u4
  have w5 := w_addN ej1 u5
  have w6 := w_addN ej2 u6
  have w7 := w_addN ej3 u7
  clear h hn hb h50 el eq ej1 ej2 ej3 hP b1 u0 u1 u2 u3 u4 u5 u6 u7 eq2 eq3 hj hgP
  obtain ⟨P, eP⟩ : ∃ P, w.heap.size = P := ⟨_, rfl⟩
  go_enter Try.func59, Try.ntmps59
  go_wp2_with fail
  rw [eP] at C1 HJ
  try rw [eP]
  refine C1.out.mono ?_; rintro e x1 ⟨r1, rfl, hr1, hc1⟩
  obtain ⟨s1, p1, k1, k1'⟩ := hc1.c
  have h1 := H.out.cnt HJ.out.2.2.2 hc1
  have C2 := Lib.hid (medadj_any (c := c) j2 h1 HJ.out.2.2.2 p1 HJ.out.2.1 (by have := HJ.out; omega) (by have := HJ.out; omega) ⟨by omega, by omega⟩)
  have H1 := Lib.hid (And.intro hr1 (And.intro hc1 (And.intro h1 (And.intro k1 k1'))))
  clear hr1 hc1 p1 k1 k1' h1 C1 w0 w1 w2 w3 w4 w5 w6 w7
  go_wp2_with fail
  refine C2.out.mono ?_; rintro e x2 ⟨r2, rfl, hr2, hc2⟩
  obtain ⟨s2, p2, k2, k2'⟩ := hc2.c
  have h2 := H1.out.2.2.1.cnt HJ.out.2.2.2 hc2
  have hk := H1.out.2.2.2
  have C3 := Lib.hid (medadj_any (c := c) j3 h2 HJ.out.2.2.2 p2 HJ.out.2.1 (by have := HJ.out; omega) (by have := HJ.out; omega) ⟨by omega, by omega⟩)
  have H2 := Lib.hid (show _ ∧ _ ∧ _ ∧ 0 ≤ s2 ∧ s2 ≤ 6 from And.intro hr2 (And.intro hc2 (And.intro h2 ⟨by omega, by omega⟩)))
  clear hr2 hc2 p2 k2 k2' h2 C2 hk
  go_wp2_with fail
  refine C3.out.mono ?_; rintro e x3 ⟨r3, rfl, hr3, hc3⟩
  obtain ⟨s3, p3, k3, k3'⟩ := hc3.c
  have h3 := H2.out.2.2.1.cnt HJ.out.2.2.2 hc3
  have hk := H2.out.2.2.2
  have hR : (a < r1 ∧ r1 + 1 < b) ∧ (a < r2 ∧ r2 + 1 < b) ∧ (a < r3 ∧ r3 + 1 < b) := by
    have := HJ.out
    have := H1.out.1
    have := H2.out.1
    omega
  have CM := Lib.hid (median_any (c := c) r1 r2 r3 h3 HJ.out.2.2.2 p3 HJ.out.2.1 (by have := HJ.out; omega) (by have := HJ.out; omega) (by have := HJ.out; omega) ⟨by omega, by omega⟩)
  have HT := Lib.hid (show Turn [P] x2 x3 from hc3.t)
  have HR := Lib.hid hR
  have HK := Lib.hid (show 0 ≤ s3 from by omega)
  clear hr3 hc3 p3 k3 k3' h3 C3 hk hR
  go_wp2_with fail
  refine CM.out.mono ?_; rintro e w9 ⟨r, rfl, hr, hc⟩
  obtain ⟨s4, p1, k1, k2⟩ := hc.c
  have c0 := p1.cell
  have HB := Lib.hid (show Below w.heap.size w w9 from by
    have t := ((H1.out.2.1.t.next H2.out.2.1.t).next HT.out).next hc.t
    rw [← eP] at t
    exact B1.out.trans (t.below B1.out.size (by simp)))
  have HR2 := Lib.hid (show a < r ∧ r + 1 < b from by
    have := HR.out
    rcases hr with rfl | rfl | rfl <;> omega)
  by_cases h0 : s4 = 0
  · have e0 : (s4 == 0) = true := by rw [h0]; rfl
    clear hr hc p1 k1 k2 CM h0
    go_wp2_with fail
    go_ret2
    exact ⟨⟨r, 1, rfl, HR2.out.1, by have := HR2.out; omega, fun h => absurd h (by decide)⟩, HB.out⟩
  · have e0 : (s4 == 0) = false := by rw [beq_eq_false_iff_ne]; exact h0
    by_cases h12 : s4 = 12
    · have e12 : (s4 == 12) = true := by rw [h12]; rfl
      clear hr hc p1 k1 k2 CM h0 h12
      go_wp2_with fail
      go_ret2
      exact ⟨⟨r, 2, rfl, HR2.out.1, by have := HR2.out; omega, fun _ => HR2.out.2⟩, HB.out⟩
    · have e12 : (s4 == 12) = false := by rw [beq_eq_false_iff_ne]; exact h12
      clear hr hc p1 k1 k2 CM h0 h12
      go_wp2_with fail
      go_ret2
      exact ⟨⟨r, 0, rfl, HR2.out.1, by have := HR2.out; omega, fun h => absurd h (by decide)⟩, HB.out⟩
theorem choose2_any {w : World} {g o n c : Nat} {f : Nat → Int} (a b : Nat) (h : AR w g o n f) (hn : n ≤ 1000) (hb : b ≤ n) (h8 : a + 8 ≤ b) :
    Calls Try.prog 59 #[.slice (some ⟨g, o, none⟩) n c, .int .i64 a, .int .i64 b] w fun e w' => Pivot2 a b e ∧ Below w.heap.size w w' := by
  by_cases h50 : b < a + 50
  · refine (choose_any (c := c) a b h hn hb h8 h50).mono ?_
    rintro e w' ⟨⟨p, t, rfl, h1, h2, h3⟩, hbl⟩
    exact ⟨⟨p, t, rfl, h1, h2, fun h => absurd h h3⟩, hbl⟩
  · exact choose50_any a b h hn hb (by omega)
end Go.Proofs.Ytodionedjokdmaa
