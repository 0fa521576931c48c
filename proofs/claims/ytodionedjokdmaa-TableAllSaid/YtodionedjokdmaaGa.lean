/- reverseRange. -/
import Derived.Test.YtodionedjokdmaaJe
set_option linter.unusedVariables false
set_option linter.unusedSimpArgs false
namespace Go.Proofs.Ytodionedjokdmaa
open Go.RowKit
set_option linter.unusedVariables false
set_option linter.unusedSimpArgs false
/-- What has been sorted so far. -/
structure Q3 (w : World) (g o n a b : Nat) (f fr : Nat → Int) (wr : World) : Prop where
  t : Turn [g] w wr
  r : AR wr g o n fr
  l : Rl a b f fr
section
variable {w wr w' : World} {g o n a b i j : Nat} {f fr fs : Nat → Int}
theorem Q3.start (h : AR w g o n f) : Q3 w g o n a b f f w := ⟨Turn.refl _ _, h, Rl.refl _ _ _⟩
theorem Q3.drewN (h : Q3 w g o n a b f fr wr) (q : Nat) : Q3 w g o n a b f fr (wr.drewN q) := ⟨h.t.drewN q, h.r.drewN q, h.l⟩
theorem Q3.drew (h : Q3 w g o n a b f fr wr) : Q3 w g o n a b f fr wr.drew := ⟨h.t.drew, h.r.drew, h.l⟩
theorem Q3.swap (h : Q3 w g o n a b f fr wr) (hb : b ≤ n) (hi : a ≤ i ∧ i < b) (hj : a ≤ j ∧ j < b) : Q3 w g o n a b f (swp fr i j) ((wr.setCell ⟨g, o + i, none⟩ (.int .u64 (fr j))).setCell ⟨g, o + j, none⟩ (.int .u64 (fr i))) :=
  ⟨h.t.next (turn_swap _ _ _ _ _ _), h.r.swap (by omega) (by omega), h.l.trans (Rl.swap fr hi hj)⟩
theorem Q3.next (h : Q3 w g o n a b f fr wr) (ht : Turn [g] wr w') (ha : AR w' g o n fs) (hl : Rl a b fr fs) : Q3 w g o n a b f fs w' := ⟨h.t.next ht, ha, h.l.trans hl⟩
end
set_option maxHeartbeats 2000000 in
set_option maxRecDepth 100000 in
theorem reverse_any {w : World} {g o n c : Nat} {f : Nat → Int} (a b : Nat) (h : AR w g o n f) (hb : b ≤ n) (hn : n ≤ 1000) (hab : a < b) :
    Calls Try.prog 60 #[.slice (some ⟨g, o, none⟩) n c, .int .i64 a, .int .i64 b] w fun e w' => e = .returned (.tuple #[]) ∧ ∃ f', Q3 w g o n a b f f' w' := by
  have HN := Lib.hid (And.intro hb (And.intro hn hab))
  obtain ⟨b1, eb⟩ : ∃ b1, b1 + 1 = b := ⟨b - 1, by omega⟩
  have i1 := w_sub1 eb (by omega)
  have H0 := Lib.hid (Q3.start (a := a) (b := b) h)
  have HB := Lib.hid eb
  clear h hb hn hab eb
  go_enter Try.func60, Try.ntmps60
  go_wp2_with fail
  clear i1
  go_loopg [6, 7] (n + 2) (fun gh v6 v7 wr => ∃ i j : Nat, n + 2 - i ≤ gh ∧ v6 = .int .i64 i ∧ v7 = .int .i64 j ∧ a ≤ i ∧ j < b ∧ ∃ fr, Hid (Q3 w g o n a b f fr wr))
  case atStart => exact ⟨a, b1, by omega, rfl, rfl, Nat.le_refl _, by have := HB.out; omega, f, H0⟩
  case round =>
    clear H0
    obtain ⟨i, j, hg, rfl, rfl, h1, h2, fr, hI⟩ := hrel
    by_cases hlt : i < j
    · have l1 : (i : Int) < j := by omega
      obtain ⟨j1, ej⟩ : ∃ j1, j1 + 1 = j := ⟨j - 1, by omega⟩
      have hn := HN.out
      have q4 : (i : Int) < n := by omega
      have q5 : (j : Int) < n := by omega
      have c0 := hI.out.r.cell (k := i) (by omega)
      have c1 := hI.out.r.cell (k := j) (by omega)
      have f0 := hI.out.r.frozen (o + i)
      have f1 := hI.out.r.frozen (o + j)
      have HS := Lib.hid (fun q => (hI.out.drewN q).swap hn.1 ⟨h1, by omega⟩ ⟨by omega, h2⟩)
      obtain ⟨X, eX⟩ : ∃ X, fr i = X := ⟨_, rfl⟩
      obtain ⟨Y, eY⟩ : ∃ Y, fr j = Y := ⟨_, rfl⟩
      rw [eX] at c0 HS
      rw [eY] at c1 HS
      have HG := Lib.hid (show a ≤ i + 1 ∧ j1 < b ∧ i < n from ⟨by omega, by omega, by omega⟩)
      have i2 := w_sub1 ej (by omega)
      have i3 := w_add1 (x := i) rfl (by omega)
      have cS := set_other (g := g) (show o + i ≠ o + j by omega)
      clear eX eY hn ej hlt h1 h2
      go_upto_region 3 with fail
      go_region
      have HS2 := Lib.hid (HS.out 1)
      clear c0 c1 f0 f1 cS HS
      go_wp2_with fail
      go_roundg (n + 2 - (i + 1))
      case rel => exact ⟨i + 1, j1, Nat.le_refl _, by first | rfl | simp, rfl, HG.out.1, HG.out.2.1, _, HS2⟩
      case measure => have := HG.out; omega
    · have l1 : ¬ (i : Int) < j := by omega
      clear hlt h1 h2 hg
      go_wp2_with fail
      exact bodyPost_end (results_none rfl _ _ _) rfl ⟨rfl, fr, hI.out⟩
end Go.Proofs.Ytodionedjokdmaa
