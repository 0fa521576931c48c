/- breakPatterns. -/
import Derived.Test.YtodionedjokdmaaJi
set_option linter.unusedVariables false
set_option linter.unusedSimpArgs false
namespace Go.Proofs.Ytodionedjokdmaa
open Go.RowKit
set_option linter.unusedVariables false
set_option linter.unusedSimpArgs false
/-- A mask. -/
def Mk (M M1 : Nat) : Prop := (M = 16 ∧ M1 = 15) ∨ (M = 32 ∧ M1 = 31)
theorem mask_any {M M1 : Nat} (h : Mk M M1) (x : Int) : ∃ m : Nat, bits .and .u64 x (M1 : Int) = (m : Int) ∧ m < M := by
  rcases h with ⟨rfl, rfl⟩ | ⟨rfl, rfl⟩
  · exact mask15 x
  · exact mask31 x
theorem XC.other {w : World} {R g i : Nat} {r : Int} {v : Value} (h : XC w R r) (hne : g ≠ R) : XC (w.setCell ⟨g, i, none⟩ v) R r := (heap_setCell_other _ _ _ _ (fun e => hne e.symm)).trans h
/-- What stands while patterns are broken. -/
structure BP (w : World) (g o n a b : Nat) (f : Nat → Int) (R : Nat) (fr : Nat → Int) (r : Int) (wr : World) : Prop where
  t : Turn [g] w wr
  ar : AR wr g o n fr
  l : Rl a b f fr
  x : XC wr R r
set_option maxHeartbeats 4000000 in
set_option maxRecDepth 100000 in
theorem break_any {w : World} {g o n c : Nat} {f : Nat → Int} (a b : Nat) (h : AR w g o n f) (hn : n ≤ 1000) (hb : b ≤ n) (h13 : a + 13 ≤ b) (h16 : b ≤ a + 16) :
    Calls Try.prog 58 #[.slice (some ⟨g, o, none⟩) n c, .int .i64 a, .int .i64 b] w fun e w' => e = .returned (.tuple #[]) ∧ Turn [g] w w' ∧ ∃ f', AR w' g o n f' ∧ Rl a b f f' := by
  obtain ⟨l, el⟩ : ∃ l, b - a = l := ⟨_, rfl⟩
  obtain ⟨q, eq⟩ : ∃ q, l / 4 = q := ⟨_, rfl⟩
  obtain ⟨q2, eq2⟩ : ∃ q2, q * 2 = q2 := ⟨_, rfl⟩
  obtain ⟨s, es⟩ : ∃ s, a + q2 = s := ⟨_, rfl⟩
  obtain ⟨s0, es0⟩ : ∃ s0, s0 + 1 = s := ⟨s - 1, by omega⟩
  obtain ⟨s1, es1⟩ : ∃ s1, s + 1 = s1 := ⟨_, rfl⟩
  obtain ⟨M, M1, hM, hMl, hpow⟩ : ∃ M M1, Mk M M1 ∧ M ≤ 2 * l ∧ ((8 ≤ l ∧ l ≤ 15 ∧ M = 16) ∨ (l = 16 ∧ M = 32)) := by
    by_cases h16 : l = 16
    · exact ⟨32, 31, .inr ⟨rfl, rfl⟩, by omega, .inr ⟨h16, rfl⟩⟩
    · exact ⟨16, 15, .inl ⟨rfl, rfl⟩, by omega, .inl ⟨by omega, by omega, rfl⟩⟩
  have CP := Lib.hid (fun W => pow_any l M hpow W)
  have HM := Lib.hid hM
  have hM1 : M ≤ 32 ∧ M1 + 1 = M := by rcases hM with ⟨rfl, rfl⟩ | ⟨rfl, rfl⟩ <;> omega
  have HB := Lib.hid (show a ≤ s0 ∧ s1 < b ∧ b ≤ n ∧ n ≤ 1000 ∧ a + l = b ∧ M ≤ 2 * l ∧ M ≤ 32 ∧ M1 + 1 = M ∧ s0 < s1 from ⟨by omega, by omega, hb, hn, by omega, hMl, hM1.1, hM1.2, by omega⟩)
  have b1 := below_alloc1 w (Obj.cells #[.int .u64 (l : Int)] 141)
  have hgl := h.lt
  have HS0 := Lib.hid (show BP w g o n a b f w.heap.size f l (w.alloc (Obj.cells #[.int .u64 (l : Int)] 141)) from ⟨Turn.of_below b1, h.below b1, Rl.refl _ _ _, heap_alloc_new w _⟩)
  have HG := Lib.hid hgl
  have u0 : a + l = b := by omega
  have u1 : b ≤ 100000 := by omega
  have u2' : q ≤ 100000 := by omega
  have u3 : q2 ≤ 100000 := by omega
  have u5 : s ≤ 100000 := by omega
  have u6 : s1 ≤ 100000 := by omega
  have g1 : (l : Int) ≥ 8 := by omega
  have g1' : (8 : Int) ≤ l := g1
  have e1 : IntKind.u64.wrap (l : Int) = (l : Int) := by rw [IntKind.wrap_u64]; omega
  have e2 : IntKind.u64.wrap ((M : Int) - 1) = (M1 : Int) := by rw [IntKind.wrap_u64]; omega
  have w0 := w_subN u0 u1
  have w1 : (l : Int).tdiv 4 = (q : Int) := t_quo (k := 4) eq
  have w2 := w_id u2'
  have w3 := w_mul2 eq2 u3
  have w5 := w_addN es u5
  have w6 := w_sub1 es0 u5
  have w7 := w_add1 es1 u6
  have WH := Lib.hid (And.intro w1 (And.intro w2 (And.intro w3 (And.intro w5 (And.intro w7 e2)))))
  clear h hn hb h13 h16 el eq eq2 es es0 es1 hM hMl hpow hM1 b1 hgl u0 u1 u2' u3 u5 u6
  go_enter Try.func58, Try.ntmps58
  go_wp2_with fail
  refine (CP.out _).mono ?_; rintro e wz ⟨rfl, rfl⟩
  go_wp2_with fail
  clear w0 w1 w2 w3 w5 w6 w7 e1 e2 CP
  go_loopg [9] (n + 2) (fun gh v9 wr => ∃ x : Nat, n + 2 - x ≤ gh ∧ v9 = .int .i64 x ∧ s0 ≤ x ∧ x ≤ s1 + 1 ∧ ∃ fr r, Hid (BP w g o n a b f w.heap.size fr r wr))
  case atStart => exact ⟨s0, by omega, rfl, Nat.le_refl _, by have := HB.out; omega, _, _, HS0⟩
  case round =>
    clear HS0
    obtain ⟨x, hgx, rfl, hx0, hx1, fr, r, hI⟩ := hrel
    obtain ⟨w1, w2, w3, w5, w7, e2⟩ := WH.out
    by_cases hlt : x ≤ s1
    · have l1 : (x : Int) ≤ s1 := by omega
      have HX := Lib.hid (And.intro hlt (And.intro hx0 hgx))
      have C := Lib.hid (next_any hI.out.x)
      clear hlt hx0 hx1 hgx
      go_wp2_with fail
      refine C.out.mono ?_; rintro e w4 ⟨y, rfl, ht, hx⟩
      have hne : g ≠ w.heap.size := Nat.ne_of_lt HG.out
      have h4 : BP w g o n a b f w.heap.size fr y w4 := ⟨hI.out.t.trans ht fun z hz => .inr (by rw [List.mem_singleton.1 hz]; exact Nat.le_refl _), hI.out.ar.same (ht.block g hI.out.ar.lt (by simpa using hne)), hI.out.l, hx⟩
      have H4 := Lib.hid h4
      obtain ⟨m, em, hm⟩ := mask_any HM.out y
      have hm1 : m ≤ 100000 := by have := HB.out; omega
      have i1 := w_id hm1
      have HMm := Lib.hid hm
      clear w1 w2 w3 w5 w7 ht hx h4 C hm hm1 hI
      by_cases hml : m ≥ l
      · have k1 : (m : Int) ≥ l := by omega
        have k1' : (l : Int) ≤ m := k1
        obtain ⟨y', ey'⟩ : ∃ y', l + y' = m := ⟨m - l, by omega⟩
        have HY := Lib.hid (show y' < l from by have := HB.out; have := HMm.out; omega)
        have um : m ≤ 100000 := by have := HB.out; have := HMm.out; omega
        have i3 := w_subN ey' um
        clear hml ey' um
        obtain ⟨z, ez⟩ : ∃ z, a + y' = z := ⟨_, rfl⟩
        have HZ := Lib.hid (show a ≤ z ∧ z < b from by have := HB.out; have := HY.out; omega)
        have uz : z ≤ 100000 := by have := HB.out; have := HZ.out; omega
        have i5 := w_addN ez uz
        have hbb := HB.out
        have hzz := HZ.out
        have hxx := HX.out
        have c0 := H4.out.ar.cell (k := x) (by omega)
        have c1 := H4.out.ar.cell (k := z) (by omega)
        have f0 := H4.out.ar.frozen (o + x)
        have f1 := H4.out.ar.frozen (o + z)
        have q1 : (x : Int) < n := by omega
        have q2 : (z : Int) < n := by omega
        have u2 : x + 1 ≤ 100000 := by omega
        have HS := Lib.hid (fun q => show BP w g o n a b f w.heap.size (swp fr x z) y (((w4.drewN q).setCell ⟨g, o + x, none⟩ (.int .u64 (fr z))).setCell ⟨g, o + z, none⟩ (.int .u64 (fr x))) from
          ⟨(H4.out.t.drewN q).next (turn_swap _ _ _ _ _ _), (H4.out.ar.drewN q).swap (by omega) (by omega), H4.out.l.trans (Rl.swap fr ⟨by omega, by omega⟩ ⟨by omega, by omega⟩), ((show XC (w4.drewN q) _ _ from H4.out.x).other hne).other hne⟩)
        have HG2 := Lib.hid (show s0 ≤ x + 1 ∧ x + 1 ≤ s1 + 1 ∧ x < n from by omega)
        obtain ⟨X, eX⟩ : ∃ X, fr x = X := ⟨_, rfl⟩
        obtain ⟨Y, eY⟩ : ∃ Y, fr z = Y := ⟨_, rfl⟩
        rw [eX] at c0 HS
        rw [eY] at c1 HS
        have i6 := w_add1 rfl u2
        by_cases hxz : x = z
        · have hXY : X = Y := by rw [← eX, ← eY, hxz]
          subst hxz hXY
          have cT : ∀ q, ((w4.drewN q).setCell ⟨g, o + x, none⟩ (.int .u64 X)).cell? ⟨g, o + x, none⟩ = some (.int .u64 X) := fun q => World.cell?_setCell_same _ _ _ (show (w4.drewN q).cell? ⟨g, o + x, none⟩ = some (.int .u64 X) from c0)
          have cT2 : (w4.setCell ⟨g, o + x, none⟩ (.int .u64 X)).cell? ⟨g, o + x, none⟩ = some (.int .u64 X) := World.cell?_setCell_same _ _ _ c0
          clear ez uz eX eY hbb hzz hxx u2
          go_upto_region 10 with fail
          go_region
          have HS2 := Lib.hid (HS.out 1)
          clear c0 c1 f0 f1 cT cT2 HS
          go_wp2_with fail
          go_roundg (n + 2 - (x + 1))
          case rel => exact ⟨x + 1, Nat.le_refl _, by first | rfl | simp, HG2.out.1, HG2.out.2.1, _, _, HS2⟩
          case measure => have := HG2.out; have := HX.out; omega
        · have cS := set_other (g := g) (show o + x ≠ o + z by omega)
          clear ez uz eX eY hbb hzz hxx u2 hxz
          go_upto_region 10 with fail
          go_region
          have HS2 := Lib.hid (HS.out 1)
          clear c0 c1 f0 f1 cS HS
          go_wp2_with fail
          go_roundg (n + 2 - (x + 1))
          case rel => exact ⟨x + 1, Nat.le_refl _, by first | rfl | simp, HG2.out.1, HG2.out.2.1, _, _, HS2⟩
          case measure => have := HG2.out; have := HX.out; omega
      · have k1 : ¬ (m : Int) ≥ l := by omega
        have k1' : ¬ (l : Int) ≤ m := k1
        obtain ⟨y', ey'⟩ : ∃ y', m = y' := ⟨_, rfl⟩
        have HY := Lib.hid (show y' < l from by omega)
        subst ey'
        clear hml
        obtain ⟨z, ez⟩ : ∃ z, a + m = z := ⟨_, rfl⟩
        have HZ := Lib.hid (show a ≤ z ∧ z < b from by have := HB.out; have := HY.out; omega)
        have uz : z ≤ 100000 := by have := HB.out; have := HZ.out; omega
        have i5 := w_addN ez uz
        have hbb := HB.out
        have hzz := HZ.out
        have hxx := HX.out
        have c0 := H4.out.ar.cell (k := x) (by omega)
        have c1 := H4.out.ar.cell (k := z) (by omega)
        have f0 := H4.out.ar.frozen (o + x)
        have f1 := H4.out.ar.frozen (o + z)
        have q1 : (x : Int) < n := by omega
        have q2 : (z : Int) < n := by omega
        have u2 : x + 1 ≤ 100000 := by omega
        have HS := Lib.hid (fun q => show BP w g o n a b f w.heap.size (swp fr x z) y (((w4.drewN q).setCell ⟨g, o + x, none⟩ (.int .u64 (fr z))).setCell ⟨g, o + z, none⟩ (.int .u64 (fr x))) from
          ⟨(H4.out.t.drewN q).next (turn_swap _ _ _ _ _ _), (H4.out.ar.drewN q).swap (by omega) (by omega), H4.out.l.trans (Rl.swap fr ⟨by omega, by omega⟩ ⟨by omega, by omega⟩), ((show XC (w4.drewN q) _ _ from H4.out.x).other hne).other hne⟩)
        have HG2 := Lib.hid (show s0 ≤ x + 1 ∧ x + 1 ≤ s1 + 1 ∧ x < n from by omega)
        obtain ⟨X, eX⟩ : ∃ X, fr x = X := ⟨_, rfl⟩
        obtain ⟨Y, eY⟩ : ∃ Y, fr z = Y := ⟨_, rfl⟩
        rw [eX] at c0 HS
        rw [eY] at c1 HS
        have i6 := w_add1 rfl u2
        by_cases hxz : x = z
        · have hXY : X = Y := by rw [← eX, ← eY, hxz]
          subst hxz hXY
          have cT : ∀ q, ((w4.drewN q).setCell ⟨g, o + x, none⟩ (.int .u64 X)).cell? ⟨g, o + x, none⟩ = some (.int .u64 X) := fun q => World.cell?_setCell_same _ _ _ (show (w4.drewN q).cell? ⟨g, o + x, none⟩ = some (.int .u64 X) from c0)
          have cT2 : (w4.setCell ⟨g, o + x, none⟩ (.int .u64 X)).cell? ⟨g, o + x, none⟩ = some (.int .u64 X) := World.cell?_setCell_same _ _ _ c0
          clear ez uz eX eY hbb hzz hxx u2
          go_upto_region 10 with fail
          go_region
          have HS2 := Lib.hid (HS.out 1)
          clear c0 c1 f0 f1 cT cT2 HS
          go_wp2_with fail
          go_roundg (n + 2 - (x + 1))
          case rel => exact ⟨x + 1, Nat.le_refl _, by first | rfl | simp, HG2.out.1, HG2.out.2.1, _, _, HS2⟩
          case measure => have := HG2.out; have := HX.out; omega
        · have cS := set_other (g := g) (show o + x ≠ o + z by omega)
          clear ez uz eX eY hbb hzz hxx u2 hxz
          go_upto_region 10 with fail
          go_region
          have HS2 := Lib.hid (HS.out 1)
          clear c0 c1 f0 f1 cS HS
          go_wp2_with fail
          go_roundg (n + 2 - (x + 1))
          case rel => exact ⟨x + 1, Nat.le_refl _, by first | rfl | simp, HG2.out.1, HG2.out.2.1, _, _, HS2⟩
          case measure => have := HG2.out; have := HX.out; omega
    · have l1 : ¬ (x : Int) ≤ s1 := by omega
      clear hlt hgx hx0 hx1
      go_wp2_with fail
      exact bodyPost_end (results_none rfl _ _ _) rfl ⟨rfl, hI.out.t, fr, hI.out.ar, hI.out.l⟩
end Go.Proofs.Ytodionedjokdmaa
