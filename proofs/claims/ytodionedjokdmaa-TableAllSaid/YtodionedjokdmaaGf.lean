/- heapSort. -/
import Derived.Test.YtodionedjokdmaaGe
set_option linter.unusedVariables false
set_option linter.unusedSimpArgs false
namespace Go.Proofs.Ytodionedjokdmaa
open Go.RowKit
set_option linter.unusedVariables false
set_option linter.unusedSimpArgs false
section
variable {lo hi a r d m i : Nat} {f f2 : Nat → Int}
theorem Hp.none (h : hi ≤ 2 * lo + 1) : Hp lo hi a f := fun p d h1 h2 h3 => by rcases h2 with h2 | h2 <;> omega
theorem Hp.top (h : Hp 0 m a f) : ∀ k, k < m → f (a + k) ≤ f a := by
  intro k
  induction k using Nat.strongRecOn with
  | _ k ih =>
    intro hk
    by_cases h0 : k = 0
    · subst h0; exact Int.le_refl _
    · have h1 := h ((k - 1) / 2) k (Nat.zero_le _) (by unfold Ch; omega) hk
      have h2 := ih ((k - 1) / 2) (by omega) (by omega)
      omega
/-- The first m are a heap, the others stand in their order. -/
structure HSt (a hi m : Nat) (f : Nat → Int) : Prop where
  hp : Hp 0 m a f
  s : Srt (a + m) (a + hi) f
  u : ∀ p q, p < m → m ≤ q → q < hi → f (a + p) ≤ f (a + q)
  b : m ≤ hi
theorem HSt.swap (h : HSt a hi (i + 1) f) : Hp 1 i a (swp f a (a + i)) := fun p d h1 h2 h3 => by
  have : p < d := by rcases h2 with h2 | h2 <;> omega
  rw [swp_o f (by omega) (by omega), swp_o f (by omega) (by omega)]
  exact h.hp p d (Nat.zero_le _) h2 (by omega)
theorem HSt.step (h : HSt a hi (i + 1) f) (hl : Rl a (a + i) (swp f a (a + i)) f2) (hp : Hp 0 i a f2) : HSt a hi i f2 := by
  have hb := h.b
  have ei : f2 (a + i) = f a := by rw [hl.out _ (by omega), swp_j]
  have eq : ∀ q, i < q → f2 (a + q) = f (a + q) := fun q hq => by rw [hl.out _ (by omega), swp_o f (by omega) (by omega)]
  have up : ∀ q, i ≤ q → q < hi → f a ≤ f2 (a + q) := fun q h1 h2 => by
    by_cases e : q = i
    · rw [e, ei]; exact Int.le_refl _
    · rw [eq q (by omega)]
      have := h.u 0 q (by omega) (by omega) h2
      exact this
  have lo : ∀ p, p < i → f2 (a + p) ≤ f a := fun p h1 => by
    obtain ⟨j, j1, j2, e⟩ := hl.new (a + p) (by omega) (by omega)
    rw [e]
    by_cases e0 : j = a
    · rw [e0, swp_i]; exact h.hp.top i (by omega)
    · rw [swp_o f e0 (by omega)]
      have := h.hp.top (j - a) (by omega)
      rw [show a + (j - a) = j by omega] at this
      exact this
  refine ⟨hp, fun p q h1 h2 h3 => ?_, fun p q h1 h2 h3 => ?_, by omega⟩
  · by_cases e : p = a + i
    · rw [e, ei]
      have := up (q - a) (by omega) (by omega)
      rw [show a + (q - a) = q by omega] at this
      exact this
    · have e1 := eq (p - a) (by omega)
      have e2 := eq (q - a) (by omega)
      rw [show a + (p - a) = p by omega] at e1
      rw [show a + (q - a) = q by omega] at e2
      rw [e1, e2]
      exact h.s p q (by omega) h2 h3
  · have := lo p h1
    have := up q h2 h3
    omega
end
set_option maxHeartbeats 8000000 in
set_option maxRecDepth 100000 in
theorem heap_any {w : World} {g o n c : Nat} {f : Nat → Int} (a b : Nat) (h : AR w g o n f) (hb : b ≤ n) (hn : n ≤ 1000) (hab : a < b) :
    Calls Try.prog 57 #[.slice (some ⟨g, o, none⟩) n c, .int .i64 a, .int .i64 b] w fun e w' => e = .returned (.tuple #[]) ∧ ∃ f', Q3 w g o n a b f f' w' ∧ Srt a b f' := by
  obtain ⟨hi, ehi⟩ : ∃ hi, a + hi = b := ⟨b - a, by omega⟩
  obtain ⟨h1, eh1⟩ : ∃ h1, h1 + 1 = hi := ⟨hi - 1, by omega⟩
  obtain ⟨m0, em0⟩ : ∃ m0, h1 / 2 = m0 := ⟨_, rfl⟩
  have w1 := w_subN ehi (by omega)
  have w2 := w_sub1 eh1 (by omega)
  have w3 : (h1 : Int).tdiv 2 = (m0 : Int) := t_quo (k := 2) em0
  have w4 := w_id (x := m0) (by omega)
  have HN := Lib.hid (show n ≤ 1000 ∧ b ≤ n ∧ a + hi = b ∧ h1 + 1 = hi ∧ m0 ≤ h1 from ⟨hn, hb, ehi, eh1, by omega⟩)
  have HW := Lib.hid w2
  have H0 := Lib.hid (show Q3 w g o n a b f f w ∧ Hp (m0 + 1) hi a f from ⟨Q3.start h, Hp.none (by omega)⟩)
  clear h hb hn hab ehi eh1 em0
  go_enter Try.func57, Try.ntmps57
  go_wp2_with fail
  clear w1 w2 w3 w4
  go_loopg [9] (n + 2) (fun gh v9 wr => ∃ (m : Nat) (x : Int), m ≤ gh ∧ v9 = .int .i64 x ∧ x + 1 = m ∧ m ≤ hi ∧ ∃ fr, Hid (Q3 w g o n a b f fr wr ∧ Hp m hi a fr))
  case atStart => exact ⟨m0 + 1, m0, by have := HN.out; omega, rfl, by omega, by have := HN.out; omega, f, H0⟩
  case round =>
    clear H0
    obtain ⟨m, x, hg, rfl, hx, hm, fr, hI⟩ := hrel
    have hn := HN.out
    have HM := Lib.hid hg
    by_cases h0 : 0 < m
    · obtain ⟨i, ei⟩ : ∃ i, m = i + 1 := ⟨m - 1, by omega⟩
      obtain rfl : x = (i : Int) := by omega
      have q1 : (i : Int) ≥ 0 := by omega
      have q1' : (0 : Int) ≤ i := q1
      have C := Lib.hid (sift_any (c := c) i hi a hI.out.1.r hn.1 (by omega) (by omega) (by rw [← ei]; exact hI.out.2))
      have HG := Lib.hid (show i < m ∧ i ≤ hi from by omega)
      have w5 : IntKind.i64.wrap ((i : Int) - 1) = (i : Int) - 1 := by rw [IntKind.wrap_i64]; omega
      clear hn hg hx hm h0 ei
      go_wp2_with fail
      refine C.out.mono ?_; rintro e w2 ⟨rfl, f2, hq, hp⟩
      have HD := Lib.hid (show Q3 w g o n a b f f2 w2 ∧ Hp i hi a f2 from ⟨hI.out.1.next hq.t hq.r (by rw [← HN.out.2.2.1]; exact hq.l), hp⟩)
      clear hq hp C
      go_wp2_with fail
      go_roundg i
      case rel => exact ⟨i, (i : Int) - 1, Nat.le_refl _, by first | rfl | simp, by omega, HG.out.2, _, HD⟩
      case measure => have := HG.out; have := HM.out; omega
    · have q1 : ¬ x ≥ 0 := by omega
      have q1' : ¬ (0 : Int) ≤ x := q1
      have w2 := HW.out
      have H1 := Lib.hid (show Q3 w g o n a b f fr _ ∧ HSt a hi hi fr from ⟨hI.out.1, ⟨by have := hI.out.2; rw [show m = 0 by omega] at this; exact this, fun p q k1 k2 k3 => by omega, fun p q k1 k2 k3 => by omega, Nat.le_refl _⟩⟩)
      clear hn hg hx hm h0 hI
      go_wp2_with fail
      clear w2
      go_loopg [10] (n + 2) (fun gh v9 wr => ∃ (m : Nat) (x : Int), m ≤ gh ∧ v9 = .int .i64 x ∧ x + 1 = m ∧ m ≤ hi ∧ ∃ fr, Hid (Q3 w g o n a b f fr wr ∧ HSt a hi m fr))
      case atStart => exact ⟨hi, h1, by have := HN.out; omega, rfl, by have := HN.out; omega, Nat.le_refl _, _, H1⟩
      case round =>
        clear H1
        obtain ⟨m, y, hg, rfl, hx, hm, fs, hI⟩ := hrel
        have hn := HN.out
        have HM := Lib.hid hg
        by_cases h0 : 0 < m
        · obtain ⟨i, ei⟩ : ∃ i, m = i + 1 := ⟨m - 1, by omega⟩
          obtain rfl : y = (i : Int) := by omega
          have p1 : (i : Int) ≥ 0 := by omega
          have p1' : (0 : Int) ≤ i := p1
          obtain ⟨z, ez⟩ : ∃ z, a + i = z := ⟨_, rfl⟩
          have w6 := w_addN ez (by omega)
          have w5 : IntKind.i64.wrap ((i : Int) - 1) = (i : Int) - 1 := by rw [IntKind.wrap_i64]; omega
          have q4 : (a : Int) < n := by omega
          have q5 : (z : Int) < n := by omega
          have hr := hI.out.1.r
          have c0 := hr.cell (k := a) (by omega)
          have c1 := hr.cell (k := z) (by omega)
          have f0 := hr.frozen (o + a)
          have f1 := hr.frozen (o + z)
          obtain ⟨f3, ef3⟩ : ∃ f3, swp fs a z = f3 := ⟨_, rfl⟩
          have hS := fun q => (hI.out.1.drewN q).swap hn.2.1 (i := a) (j := z) ⟨by omega, by omega⟩ ⟨by omega, by omega⟩
          have CS := Lib.hid (fun (q : Nat) => sift_any (c := c) 0 i a (hS q).r hn.1 (by omega) (by omega) (by have h4 := hI.out.2; rw [ei] at h4; rw [← ez]; exact h4.swap))
          have HG := Lib.hid (show i < m ∧ i ≤ hi ∧ a + i = z ∧ HSt a hi (i + 1) fs from ⟨by omega, by omega, ez, by rw [← ei]; exact hI.out.2⟩)
          have HS := Lib.hid hS
          obtain ⟨X, eX⟩ : ∃ X, fs a = X := ⟨_, rfl⟩
          obtain ⟨Y, eY⟩ : ∃ Y, fs z = Y := ⟨_, rfl⟩
          rw [eX] at c0
          rw [eY] at c1
          rw [eX, eY, ef3] at HS CS
          have HF := Lib.hid ef3
          by_cases hz : i = 0
          · have haz : z = a := by omega
            have hXY : X = Y := by rw [← eX, ← eY, haz]
            subst haz hXY
            have cT : ∀ q, ((World.drewN _ q).setCell ⟨g, o + z, none⟩ (.int .u64 X)).cell? ⟨g, o + z, none⟩ = some (.int .u64 X) := fun q => World.cell?_setCell_same _ _ _ (show (World.drewN _ q).cell? ⟨g, o + z, none⟩ = some (.int .u64 X) from c0)
            have cT2 : (World.setCell _ ⟨g, o + z, none⟩ (.int .u64 X)).cell? ⟨g, o + z, none⟩ = some (.int .u64 X) := World.cell?_setCell_same _ _ _ c0
            clear hr hn hg hx hm h0 ei ez eX eY hS hz ef3 hI
            go_upto_region 10 with fail
            go_region
            have HS2 := Lib.hid (HS.out 1)
            have CS2 := Lib.hid (CS.out 1)
            clear c0 c1 f0 f1 cT cT2 HS CS
            go_wp2_with fail
            refine CS2.out.mono ?_; rintro e w2 ⟨rfl, f2, hq, hp⟩
            have HD := Lib.hid (show Q3 w g o n z b f f2 w2 ∧ HSt z hi i f2 from ⟨HS2.out.next hq.t hq.r (hq.l.mono (Nat.le_refl _) (by have := HG.out; have := HN.out; omega)), HG.out.2.2.2.step (by rw [HG.out.2.2.1, HF.out]; have := hq.l; rw [HG.out.2.2.1] at this; exact this) hp⟩)
            clear hq hp CS2 HS2
            go_wp2_with fail
            go_roundg i
            case rel => exact ⟨i, (i : Int) - 1, Nat.le_refl _, by first | rfl | simp, by omega, HG.out.2.1, _, HD⟩
            case measure => have := HG.out; have := HM.out; omega
          · have cS := set_other (g := g) (show o + a ≠ o + z by omega)
            clear hr hn hg hx hm h0 ei ez eX eY hS hz ef3 hI
            go_upto_region 10 with fail
            go_region
            have HS2 := Lib.hid (HS.out 1)
            have CS2 := Lib.hid (CS.out 1)
            clear c0 c1 f0 f1 cS HS CS
            go_wp2_with fail
            refine CS2.out.mono ?_; rintro e w2 ⟨rfl, f2, hq, hp⟩
            have HD := Lib.hid (show Q3 w g o n a b f f2 w2 ∧ HSt a hi i f2 from ⟨HS2.out.next hq.t hq.r (hq.l.mono (Nat.le_refl _) (by have := HG.out; have := HN.out; omega)), HG.out.2.2.2.step (by rw [HG.out.2.2.1, HF.out]; have := hq.l; rw [HG.out.2.2.1] at this; exact this) hp⟩)
            clear hq hp CS2 HS2
            go_wp2_with fail
            go_roundg i
            case rel => exact ⟨i, (i : Int) - 1, Nat.le_refl _, by first | rfl | simp, by omega, HG.out.2.1, _, HD⟩
            case measure => have := HG.out; have := HM.out; omega
        · have p1 : ¬ y ≥ 0 := by omega
          have p1' : ¬ (0 : Int) ≤ y := p1
          have HD := Lib.hid (show Q3 w g o n a b f fs _ ∧ Srt a b fs from ⟨hI.out.1, by have := hI.out.2.s; rw [hn.2.2.1, show m = 0 by omega] at this; exact this⟩)
          clear hn hg hx hm h0 hI
          go_wp2_with fail
          exact bodyPost_end (results_none rfl _ _ _) rfl ⟨rfl, fs, HD.out⟩
end Go.Proofs.Ytodionedjokdmaa
