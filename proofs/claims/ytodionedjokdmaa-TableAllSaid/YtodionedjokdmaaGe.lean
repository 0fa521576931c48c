/- siftDown. -/
import Derived.Test.YtodionedjokdmaaGa
set_option linter.unusedVariables false
set_option linter.unusedSimpArgs false
namespace Go.Proofs.Ytodionedjokdmaa
open Go.RowKit
set_option linter.unusedVariables false
set_option linter.unusedSimpArgs false
/-- d is a child of p. -/
def Ch (p d : Nat) : Prop := d = 2 * p + 1 ∨ d = 2 * p + 2
/-- From lo on none is below its children; all from a on, hi of them. -/
def Hp (lo hi a : Nat) (f : Nat → Int) : Prop := ∀ p d, lo ≤ p → Ch p d → d < hi → f (a + d) ≤ f (a + p)
/-- The same but for the one at r. -/
structure HpX (lo hi a r : Nat) (f : Nat → Int) : Prop where
  h : ∀ p d, lo ≤ p → p ≠ r → Ch p d → d < hi → f (a + d) ≤ f (a + p)
  g : ∀ p d, lo ≤ p → Ch p r → Ch r d → d < hi → f (a + d) ≤ f (a + p)
section
variable {lo hi a r d : Nat} {f : Nat → Int}
theorem HpX.start (h : Hp (lo + 1) hi a f) : HpX lo hi a lo f :=
  ⟨fun p d h1 h2 h3 h4 => h p d (by omega) h3 h4, fun p d h1 h2 h3 h4 => by rcases h2 with h2 | h2 <;> omega⟩
theorem HpX.stop (h : HpX lo hi a r f) (hs : ∀ e, Ch r e → e < hi → f (a + e) ≤ f (a + r)) : Hp lo hi a f := fun p d h1 h2 h3 => by
  by_cases e : p = r
  · subst e; exact hs d h2 h3
  · exact h.h p d h1 e h2 h3
theorem HpX.step (h : HpX lo hi a r f) (hr : lo ≤ r) (hd : Ch r d) (hdh : d < hi) (hmax : ∀ e, Ch r e → e < hi → f (a + e) ≤ f (a + d)) (hlt : f (a + r) < f (a + d)) : HpX lo hi a d (swp f (a + r) (a + d)) := by
  have hrd : r < d := by rcases hd with h | h <;> omega
  have up : ∀ p, Ch p d → p = r := fun p hp => by rcases hd with h1 | h1 <;> rcases hp with h2 | h2 <;> omega
  refine ⟨fun p e h1 h2 h3 h4 => ?_, fun p e h1 h2 h3 h4 => ?_⟩
  · have hpe : p < e := by rcases h3 with h | h <;> omega
    by_cases e1 : p = r
    · subst e1
      rw [swp_i]
      by_cases e2 : e = d
      · subst e2; rw [swp_j]; omega
      · rw [swp_o f (by omega) (by omega)]; exact hmax e h3 h4
    · rw [swp_o f (i := a + r) (j := a + d) (k := a + p) (by omega) (by omega)]
      by_cases e2 : e = r
      · subst e2; rw [swp_i]; exact h.g p d h1 h3 hd hdh
      · by_cases e3 : e = d
        · subst e3; exact absurd (up p h3) e1
        · rw [swp_o f (by omega) (by omega)]; exact h.h p e h1 e1 h3 h4
  · have := up p h2
    subst this
    have hde : d < e := by rcases h3 with h | h <;> omega
    rw [swp_i, swp_o f (by omega) (by omega)]
    exact h.h d e (by omega) (by omega) h3 h4
end
def KQ (q : Bool) (p : Prop) (x y : Int) : Prop := (q = true → p ∧ x ≤ y) ∧ (q = false → p → y ≤ x)
set_option maxHeartbeats 8000000 in
set_option maxRecDepth 100000 in
theorem sift_any {w : World} {g o n c : Nat} {f : Nat → Int} (lo hi a : Nat) (h : AR w g o n f) (hn : n ≤ 1000) (hb : a + hi ≤ n) (hlo : lo ≤ hi) (hh : Hp (lo + 1) hi a f) :
    Calls Try.prog 67 #[.slice (some ⟨g, o, none⟩) n c, .int .i64 lo, .int .i64 hi, .int .i64 a] w fun e w' => e = .returned (.tuple #[]) ∧ ∃ f', Q3 w g o n a (a + hi) f f' w' ∧ Hp lo hi a f' := by
  have HN := Lib.hid (And.intro hn (And.intro hb hlo))
  have H0 := Lib.hid (show Q3 w g o n a (a + hi) f f w ∧ HpX lo hi a lo f from ⟨Q3.start h, HpX.start hh⟩)
  clear h hb hn hlo hh
  go_enter Try.func67, Try.ntmps67
  go_wp2_with fail
  go_loopg [8] (n + 2) (fun gh v8 wr => ∃ r : Nat, n + 2 - r ≤ gh ∧ v8 = .int .i64 r ∧ lo ≤ r ∧ r ≤ hi ∧ ∃ fr, Hid (Q3 w g o n a (a + hi) f fr wr ∧ HpX lo hi a r fr))
  case atStart => exact ⟨lo, by omega, rfl, Nat.le_refl _, HN.out.2.2, f, H0⟩
  case round =>
    clear H0
    obtain ⟨r, hg, rfl, h1, h2, fr, hI⟩ := hrel
    have hn := HN.out
    obtain ⟨r2, er2⟩ : ∃ r2, 2 * r = r2 := ⟨_, rfl⟩
    obtain ⟨k, ek⟩ : ∃ k, r2 + 1 = k := ⟨_, rfl⟩
    have m1 : IntKind.i64.wrap ((2 : Int) * (r : Int)) = (r2 : Int) := by rw [IntKind.wrap_i64]; omega
    have m2 := w_add1 ek (by omega)
    have HR := Lib.hid (show n + 2 - r ≤ _ from hg)
    by_cases hc : hi ≤ k
    · have l1 : (k : Int) ≥ hi := by omega
      have l1' : (hi : Int) ≤ k := l1
      have HD := Lib.hid (show Hp lo hi a fr from hI.out.2.stop fun e he hlt => by rcases he with he | he <;> omega)
      clear hn er2 ek hc hg h1 h2
      go_wp2_with fail
      exact bodyPost_end (results_none rfl _ _ _) rfl ⟨rfl, fr, hI.out.1, HD.out⟩
    · have l1 : ¬ (k : Int) ≥ hi := by omega
      have l1' : ¬ (hi : Int) ≤ k := l1
      obtain ⟨k1, ek1⟩ : ∃ k1, k + 1 = k1 := ⟨_, rfl⟩
      obtain ⟨z, ez⟩ : ∃ z, a + k = z := ⟨_, rfl⟩
      obtain ⟨z1, ez1⟩ : ∃ z1, z + 1 = z1 := ⟨_, rfl⟩
      have m3 := w_add1 ek1 (by omega)
      have m4 := w_addN ez (by omega)
      have m5 := w_add1 ez1 (by omega)
      have HK := Lib.hid (show Ch r k ∧ Ch r k1 ∧ k < hi ∧ k1 = k + 1 ∧ lo ≤ r ∧ r < n ∧ r < k from ⟨.inl (by omega), .inr (by omega), by omega, ek1.symm, h1, by omega, by omega⟩)
      have HC : Hid (∀ e, Ch r e → e = k ∨ e = k1) := Lib.hid fun e he => by rcases he with he | he <;> omega
      have HZ := Lib.hid (show a + k = z ∧ a + k1 = z1 ∧ z < n from ⟨ez, by omega, by omega⟩)
      clear hc hg h1 h2 er2 ek
      go_upto_region 3 with fail
      have HX := Lib.hid hI.out.2
      go_cut [36] from 11 to 75 (fun v wx => ∃ q : Bool, v = .bool q ∧ Hid (Q3 w g o n a (a + hi) f fr wx ∧ KQ q (k1 < hi) (fr z) (fr z1)))
      case first =>
        by_cases hk1 : k1 < hi
        · have l2 : (k1 : Int) < hi := by omega
          have q4 : (z : Int) < n := by omega
          have q5 : (z1 : Int) < n := by omega
          have hr := hI.out.1.r
          have c0 := hr.cell (k := z) (by omega)
          have c1 := hr.cell (k := z1) (by omega)
          have CX := fun W => less_any (fr z) (fr z1) W
          obtain ⟨X, eX⟩ : ∃ X, fr z = X := ⟨_, rfl⟩
          obtain ⟨Y, eY⟩ : ∃ Y, fr z1 = Y := ⟨_, rfl⟩
          rw [eX] at c0
          rw [eY] at c1
          rw [eX, eY] at CX
          by_cases hxy : X < Y
          · simp only [decide_eq_true hxy] at CX
            have CX := Lib.hid CX
            have HS := Lib.hid (fun q => show Q3 w g o n a (a + hi) f fr (World.drewN _ q) ∧ KQ true (k1 < hi) (fr z) (fr z1) from ⟨hI.out.1.drewN q, fun _ => ⟨hk1, by rw [eX, eY]; omega⟩, fun h => (by cases h)⟩)
            clear hr eX eY hxy hn hk1 ek1 ez ez1 hI
            go_quiet (first | (go_at_call 62; with_reducible exact Calls.quiet_of_same (CX.out _)))
            rename_i nq
            have HS3 := Lib.hid (HS.out nq)
            clear c0 c1 HS
            go_wp2_with fail
            go_meet
            exact ⟨true, rfl, HS3⟩
          · simp only [decide_eq_false hxy] at CX
            have CX := Lib.hid CX
            have HS := Lib.hid (fun q => show Q3 w g o n a (a + hi) f fr (World.drewN _ q) ∧ KQ false (k1 < hi) (fr z) (fr z1) from ⟨hI.out.1.drewN q, fun h => (by cases h), fun _ _ => by rw [eX, eY]; omega⟩)
            clear hr eX eY hxy hn hk1 ek1 ez ez1 hI
            go_quiet (first | (go_at_call 62; with_reducible exact Calls.quiet_of_same (CX.out _)))
            rename_i nq
            have HS3 := Lib.hid (HS.out nq)
            clear c0 c1 HS
            go_wp2_with fail
            go_meet
            exact ⟨false, rfl, HS3⟩
        · have l2 : ¬ (k1 : Int) < hi := by omega
          have HS := Lib.hid (show Q3 w g o n a (a + hi) f fr (World.drew _) ∧ KQ false (k1 < hi) (fr z) (fr z1) from ⟨hI.out.1.drew, fun h => (by cases h), fun _ h => absurd h hk1⟩)
          clear hn hk1 ek1 ez ez1 hI
          refine region_AU (Z := fun j => false) (S := fun _ => True) (by kernel_rfl) trivial (fun hHeld => ?_)
          refine AUS_take (by kernel_rfl) rfl (i := 0) (oi := _) (v := ?vwa0) rfl (by kernel_rfl) (by kernel_rfl) (by kernel_rfl) (fun _ _ _ h => h) (Or.inl ⟨by rfl, ?hza0⟩) hHeld ?rsta0
          case hza0 => (intro wS hSw; clear hSw; go_simp; try with_reducible rfl)
          try simp only [Act.put, List.getElem_toArray, List.getElem_cons_zero, List.getElem_cons_succ, List.setIfInBounds_toArray, List.set_cons_zero, List.set_cons_succ]
          refine AUS_take (by kernel_rfl) rfl (i := 1) (oi := _) (v := ?vwa1) rfl (by kernel_rfl) (by kernel_rfl) (by kernel_rfl) (fun _ _ _ h => h) (Or.inl ⟨by rfl, ?hza1⟩) hHeld ?rsta1
          case hza1 => (intro wS hSw; clear hSw; go_simp; try with_reducible rfl)
          try simp only [Act.put, List.getElem_toArray, List.getElem_cons_zero, List.getElem_cons_succ, List.setIfInBounds_toArray, List.set_cons_zero, List.set_cons_succ]
          refine AUS_take (by kernel_rfl) rfl (i := 2) (oi := _) (v := ?vwa2) rfl (by kernel_rfl) (by kernel_rfl) (by kernel_rfl) (fun _ _ _ h => h) (Or.inl ⟨by rfl, ?hza2⟩) hHeld ?rsta2
          case hza2 => (intro wS hSw; clear hSw; go_simp; try with_reducible rfl)
          try simp only [Act.put, List.getElem_toArray, List.getElem_cons_zero, List.getElem_cons_succ, List.setIfInBounds_toArray, List.set_cons_zero, List.set_cons_succ]
          refine AUS_take (by kernel_rfl) rfl (i := 3) (oi := _) (v := ?vwa3) rfl (by kernel_rfl) (by kernel_rfl) (by kernel_rfl) (fun _ _ _ h => h) (Or.inl ⟨by rfl, ?hza3⟩) hHeld ?rsta3
          case hza3 => (intro wS hSw; clear hSw; go_simp; try with_reducible rfl)
          try simp only [Act.put, List.getElem_toArray, List.getElem_cons_zero, List.getElem_cons_succ, List.setIfInBounds_toArray, List.set_cons_zero, List.set_cons_succ]
          refine AUS_take (by kernel_rfl) rfl (i := 4) (oi := _) (v := ?vwa4) rfl (by kernel_rfl) (by kernel_rfl) (by kernel_rfl) (fun _ _ _ h => h) (Or.inl ⟨by rfl, ?hza4⟩) hHeld ?rsta4
          case hza4 => (intro wS hSw; clear hSw; go_simp; try with_reducible rfl)
          try simp only [Act.put, List.getElem_toArray, List.getElem_cons_zero, List.getElem_cons_succ, List.setIfInBounds_toArray, List.set_cons_zero, List.set_cons_succ]
          refine AUS_take (by kernel_rfl) rfl (i := 5) (oi := _) (v := undef) rfl (by kernel_rfl) (by kernel_rfl) (by kernel_rfl) (fun _ _ _ h => h) (Or.inr ⟨by rfl, rfl⟩) hHeld ?rsta5
          try simp only [Act.put, List.getElem_toArray, List.getElem_cons_zero, List.getElem_cons_succ, List.setIfInBounds_toArray, List.set_cons_zero, List.set_cons_succ]
          refine AUS_take (by kernel_rfl) rfl (i := 6) (oi := _) (v := undef) rfl (by kernel_rfl) (by kernel_rfl) (by kernel_rfl) (fun _ _ _ h => h) (Or.inr ⟨by rfl, rfl⟩) hHeld ?rsta6
          try simp only [Act.put, List.getElem_toArray, List.getElem_cons_zero, List.getElem_cons_succ, List.setIfInBounds_toArray, List.set_cons_zero, List.set_cons_succ]
          refine AUS_take (by kernel_rfl) rfl (i := 7) (oi := _) (v := undef) rfl (by kernel_rfl) (by kernel_rfl) (by kernel_rfl) (fun _ _ _ h => h) (Or.inr ⟨by rfl, rfl⟩) hHeld ?rsta7
          try simp only [Act.put, List.getElem_toArray, List.getElem_cons_zero, List.getElem_cons_succ, List.setIfInBounds_toArray, List.set_cons_zero, List.set_cons_succ]
          refine AUS_take (by kernel_rfl) rfl (i := 8) (oi := _) (v := undef) rfl (by kernel_rfl) (by kernel_rfl) (by kernel_rfl) (fun _ _ _ h => h) (Or.inr ⟨by rfl, rfl⟩) hHeld ?rsta8
          try simp only [Act.put, List.getElem_toArray, List.getElem_cons_zero, List.getElem_cons_succ, List.setIfInBounds_toArray, List.set_cons_zero, List.set_cons_succ]
          refine AUS_take (by kernel_rfl) rfl (i := 9) (oi := _) (v := undef) rfl (by kernel_rfl) (by kernel_rfl) (by kernel_rfl) (fun _ _ _ h => h) (Or.inr ⟨by rfl, rfl⟩) hHeld ?rsta9
          try simp only [Act.put, List.getElem_toArray, List.getElem_cons_zero, List.getElem_cons_succ, List.setIfInBounds_toArray, List.set_cons_zero, List.set_cons_succ]
          refine AUS_take (by kernel_rfl) rfl (i := 10) (oi := _) (v := undef) rfl (by kernel_rfl) (by kernel_rfl) (by kernel_rfl) (fun _ _ _ h => h) (Or.inr ⟨by rfl, rfl⟩) hHeld ?rsta10
          try simp only [Act.put, List.getElem_toArray, List.getElem_cons_zero, List.getElem_cons_succ, List.setIfInBounds_toArray, List.set_cons_zero, List.set_cons_succ]
          refine AUS_take (by kernel_rfl) rfl (i := 11) (oi := _) (v := undef) rfl (by kernel_rfl) (by kernel_rfl) (by kernel_rfl) (fun _ _ _ h => h) (Or.inr ⟨by rfl, rfl⟩) hHeld ?rsta11
          try simp only [Act.put, List.getElem_toArray, List.getElem_cons_zero, List.getElem_cons_succ, List.setIfInBounds_toArray, List.set_cons_zero, List.set_cons_succ]
          refine AUS_take (by kernel_rfl) rfl (i := 12) (oi := _) (v := undef) rfl (by kernel_rfl) (by kernel_rfl) (by kernel_rfl) (fun _ _ _ h => h) (Or.inr ⟨by rfl, rfl⟩) hHeld ?rsta12
          try simp only [Act.put, List.getElem_toArray, List.getElem_cons_zero, List.getElem_cons_succ, List.setIfInBounds_toArray, List.set_cons_zero, List.set_cons_succ]
          refine AUS_take (by kernel_rfl) rfl (i := 13) (oi := _) (v := undef) rfl (by kernel_rfl) (by kernel_rfl) (by kernel_rfl) (fun _ _ _ h => h) (Or.inr ⟨by rfl, rfl⟩) hHeld ?rsta13
          try simp only [Act.put, List.getElem_toArray, List.getElem_cons_zero, List.getElem_cons_succ, List.setIfInBounds_toArray, List.set_cons_zero, List.set_cons_succ]
          refine AUS_take (by kernel_rfl) rfl (i := 14) (oi := _) (v := undef) rfl (by kernel_rfl) (by kernel_rfl) (by kernel_rfl) (fun _ _ _ h => h) (Or.inr ⟨by rfl, rfl⟩) hHeld ?rsta14
          try simp only [Act.put, List.getElem_toArray, List.getElem_cons_zero, List.getElem_cons_succ, List.setIfInBounds_toArray, List.set_cons_zero, List.set_cons_succ]
          refine AUS_take (by kernel_rfl) rfl (i := 15) (oi := _) (v := undef) rfl (by kernel_rfl) (by kernel_rfl) (by kernel_rfl) (fun _ _ _ h => h) (Or.inr ⟨by rfl, rfl⟩) hHeld ?rsta15
          try simp only [Act.put, List.getElem_toArray, List.getElem_cons_zero, List.getElem_cons_succ, List.setIfInBounds_toArray, List.set_cons_zero, List.set_cons_succ]
          refine AUS_take (by kernel_rfl) rfl (i := 16) (oi := _) (v := undef) rfl (by kernel_rfl) (by kernel_rfl) (by kernel_rfl) (fun _ _ _ h => h) (Or.inr ⟨by rfl, rfl⟩) hHeld ?rsta16
          try simp only [Act.put, List.getElem_toArray, List.getElem_cons_zero, List.getElem_cons_succ, List.setIfInBounds_toArray, List.set_cons_zero, List.set_cons_succ]
          refine AUS_take (by kernel_rfl) rfl (i := 17) (oi := _) (v := undef) rfl (by kernel_rfl) (by kernel_rfl) (by kernel_rfl) (fun _ _ _ h => h) (Or.inr ⟨by rfl, rfl⟩) hHeld ?rsta17
          try simp only [Act.put, List.getElem_toArray, List.getElem_cons_zero, List.getElem_cons_succ, List.setIfInBounds_toArray, List.set_cons_zero, List.set_cons_succ]
          refine AUS_take (by kernel_rfl) rfl (i := 18) (oi := _) (v := undef) rfl (by kernel_rfl) (by kernel_rfl) (by kernel_rfl) (fun _ _ _ h => h) (Or.inr ⟨by rfl, rfl⟩) hHeld ?rsta18
          try simp only [Act.put, List.getElem_toArray, List.getElem_cons_zero, List.getElem_cons_succ, List.setIfInBounds_toArray, List.set_cons_zero, List.set_cons_succ]
          refine AUS_take (by kernel_rfl) rfl (i := 19) (oi := _) (v := ?vwa19) rfl (by kernel_rfl) (by kernel_rfl) (by kernel_rfl) (fun _ _ _ h => h) (Or.inl ⟨by rfl, ?hza19⟩) hHeld ?rsta19
          case hza19 => (intro wS hSw; clear hSw; go_simp; try with_reducible rfl)
          try simp only [Act.put, List.getElem_toArray, List.getElem_cons_zero, List.getElem_cons_succ, List.setIfInBounds_toArray, List.set_cons_zero, List.set_cons_succ]
          refine AU_done (by kernel_rfl) ?_ _
          simp only [OnlyN]
          go_wp2_with fail
          go_meet
          exact ⟨false, rfl, HS⟩
      case rest =>
        clear hI
        obtain ⟨q, rfl, hI⟩ := hcut
        go_upto_if 36 with fail
        go_cut [9] from 11 to 75 (fun v wx => ∃ d : Nat, v = .int .i64 d ∧ Hid (Q3 w g o n a (a + hi) f fr wx ∧ Ch r d ∧ d < hi ∧ ∀ e, Ch r e → e < hi → fr (a + e) ≤ fr (a + d)))
        case first =>
          cases q with
          | true =>
            have HS3 := Lib.hid (show Q3 w g o n a (a + hi) f fr _ ∧ Ch r k1 ∧ k1 < hi ∧ ∀ e, Ch r e → e < hi → fr (a + e) ≤ fr (a + k1) from ⟨hI.out.1, HK.out.2.1, (hI.out.2.1 rfl).1, fun e he _ => by
              have := (hI.out.2.1 rfl).2
              rw [HZ.out.2.1]
              rcases HC.out e he with rfl | rfl
              · rw [HZ.out.1]; exact this
              · rw [HZ.out.2.1]; exact Int.le_refl _⟩)
            clear hI hn ek1 ez ez1
            go_wp2_with fail
            go_meet
            exact ⟨k1, rfl, HS3⟩
          | false =>
            have HS3 := Lib.hid (show Q3 w g o n a (a + hi) f fr _ ∧ Ch r k ∧ k < hi ∧ ∀ e, Ch r e → e < hi → fr (a + e) ≤ fr (a + k) from ⟨hI.out.1, HK.out.1, HK.out.2.2.1, fun e he hlt => by
              rw [HZ.out.1]
              rcases HC.out e he with rfl | rfl
              · rw [HZ.out.1]; exact Int.le_refl _
              · rw [HZ.out.2.1]; exact hI.out.2.2 rfl hlt⟩)
            clear hI hn ek1 ez ez1
            go_wp2_with fail
            go_meet
            exact ⟨k, rfl, HS3⟩
        case rest =>
          clear hI m1 m2 m3 m4 m5 l1 l1' ek1 ez ez1 hn
          obtain ⟨d, rfl, hI⟩ := hcut
          have hn := HN.out
          have hk := HK.out
          obtain ⟨y, ey⟩ : ∃ y, a + d = y := ⟨_, rfl⟩
          obtain ⟨x, ex⟩ : ∃ x, a + r = x := ⟨_, rfl⟩
          have hd := hI.out.2.2.1
          have m1 := w_addN ex (by omega)
          have m2 := w_addN ey (by omega)
          have q4 : (x : Int) < n := by omega
          have q5 : (y : Int) < n := by omega
          have hrd : r < d := by rcases hI.out.2.1 with h | h <;> omega
          have hr := hI.out.1.r
          have c0 := hr.cell (k := x) (by omega)
          have c1 := hr.cell (k := y) (by omega)
          have CX := fun W => less_any (fr x) (fr y) W
          obtain ⟨X, eX⟩ : ∃ X, fr x = X := ⟨_, rfl⟩
          obtain ⟨Y, eY⟩ : ∃ Y, fr y = Y := ⟨_, rfl⟩
          rw [eX] at c0
          rw [eY] at c1
          rw [eX, eY] at CX
          by_cases hxy : X < Y
          · simp only [decide_eq_true hxy] at CX
            have CX := Lib.hid CX
            have f0 := hr.frozen (o + x)
            have f1 := hr.frozen (o + y)
            have HS := Lib.hid (fun q => show Q3 w g o n a (a + hi) f (swp fr x y) (((World.drewN _ q).setCell ⟨g, o + x, none⟩ (.int .u64 Y)).setCell ⟨g, o + y, none⟩ (.int .u64 X)) ∧ HpX lo hi a d (swp fr x y) from
              ⟨by have := (hI.out.1.drewN q).swap hn.2.1 (i := x) (j := y) ⟨by omega, by omega⟩ ⟨by omega, by omega⟩; rw [eX, eY] at this; exact this, by
                rw [← ex, ← ey]
                exact HX.out.step hk.2.2.2.2.1 hI.out.2.1 hd hI.out.2.2.2 (by rw [ex, ey, eX, eY]; exact hxy)⟩)
            have HG := Lib.hid (show lo ≤ d ∧ d ≤ hi ∧ r < d ∧ r < n from ⟨by omega, by omega, hrd, by omega⟩)
            have cS := set_other (g := g) (show o + x ≠ o + y by omega)
            clear eX eY hxy hn hk ex ey hr hrd hd
            go_upto_region 5 with fail
            go_quiet (first | (go_at_call 62; with_reducible exact Calls.quiet_of_same (CX.out _)))
            rename_i nq
            go_upto_region 6 with fail
            go_region
            have HS3 := Lib.hid (HS.out (nq + 1))
            clear c0 c1 f0 f1 cS HS
            go_wp2_with fail
            go_roundg (n + 2 - d)
            case rel => exact ⟨d, Nat.le_refl _, rfl, HG.out.1, HG.out.2.1, _, HS3⟩
            case measure => have := HG.out; have := HR.out; omega
          · simp only [decide_eq_false hxy] at CX
            have CX := Lib.hid CX
            have HS := Lib.hid (fun q => show Q3 w g o n a (a + hi) f fr (World.drewN _ q) ∧ Hp lo hi a fr from ⟨hI.out.1.drewN q, HX.out.stop fun e he hlt => by
              have := hI.out.2.2.2 e he hlt
              rw [ex, eX]
              rw [ey, eY] at this
              omega⟩)
            clear eX eY hxy hn hk ex ey hr hrd hd
            go_upto_region 5 with fail
            go_quiet (first | (go_at_call 62; with_reducible exact Calls.quiet_of_same (CX.out _)))
            rename_i nq
            have HS3 := Lib.hid (HS.out nq)
            clear c0 c1 HS
            go_wp2_with fail
            exact bodyPost_ret (results_none rfl _ _ _) rfl ⟨rfl, fr, HS3.out⟩
end Go.Proofs.Ytodionedjokdmaa
