/- pdqsort. -/
import Derived.Test.YtodionedjokdmaaJl
set_option linter.unusedVariables false
set_option linter.unusedSimpArgs false
namespace Go.Proofs.Ytodionedjokdmaa
open Go.RowKit
set_option linter.unusedVariables false
set_option linter.unusedSimpArgs false
def If_ (q : Bool) (p : Prop) : Prop := q = true → p
/-- pdqsort sorts what is at most N long. -/
def PdqSaid (N : Nat) : Prop := ∀ (w : World) (g o n c : Nat) (f : Nat → Int) (a b lim : Nat), b - a ≤ N → AR w g o n f → n ≤ 1000 → a ≤ b → b ≤ n → b ≤ a + 16 → lim ≤ 100 → (b ≤ a + 12 ∨ b ≤ a + 11 + lim) → Lo a b f →
  Calls Try.prog 52 #[.slice (some ⟨g, o, none⟩) n c, .int .i64 a, .int .i64 b, .int .i64 lim] w fun e w' => e = .returned (.tuple #[]) ∧ Turn [g] w w' ∧ ∃ f', AR w' g o n f' ∧ Rl a b f f' ∧ Srt a b f'
set_option maxHeartbeats 16000000 in
set_option maxRecDepth 100000 in
theorem pdq_step (N : Nat) (IH : ∀ M, M < N → PdqSaid M) : PdqSaid N := by
  intro w g o n c f a b lim hN h hn hab hb h16 hlim hl hlo
  have HIH := Lib.hid IH
  have H0 := Lib.hid (PS.start h hab hlo)
  have HC := Lib.hid (And.intro hN (And.intro hn (And.intro hab (And.intro hb h16))))
  have HL := Lib.hid (And.intro hlim hl)
  clear hN h hn hab hb h16 hlim hl hlo IH
  go_enter Try.func52, Try.ntmps52
  go_wp2_with fail
  go_loopg [1, 2, 3, 8, 9] (b - a) (fun gh va vb vl v8 v9 wr => ∃ (a' b' l' : Nat) (wb wp : Bool), b' - a' ≤ gh ∧ va = .int .i64 a' ∧ vb = .int .i64 b' ∧ vl = .int .i64 l' ∧ v8 = .bool wb ∧ v9 = .bool wp ∧ l' ≤ 100 ∧ (b' ≤ a' + 12 ∨ b' ≤ a' + 11 + l') ∧ ∃ fr, Hid (PS w g o n a b f a' b' fr wr))
  case atStart => exact ⟨a, b, lim, true, true, Nat.le_refl _, rfl, rfl, rfl, rfl, rfl, HL.out.1, HL.out.2, f, H0⟩
  case round =>
    clear H0
    obtain ⟨a', b', l', wb, wp, hg, rfl, rfl, rfl, rfl, rfl, hl1, hl2, fr, hI⟩ := hrel
    have hc := HC.out
    have p1 := hI.out.b1
    have p2 := hI.out.b2
    have p3 := hI.out.b3
    obtain ⟨s, es⟩ : ∃ s, b' - a' = s := ⟨_, rfl⟩
    have u0 : a' + s = b' := by omega
    have HG := Lib.hid hg
    by_cases hs : s ≤ 12
    · have g1 : (s : Int) ≤ 12 := by omega
      have C := Lib.hid (insert_any (c := c) a' b' hI.out.ar (by omega) (by omega) (by omega))
      have w0 := w_subN u0 (by omega)
      clear hc p1 p2 p3 es u0 hs hg hl1 hl2
      go_wp2_with fail
      refine C.out.mono ?_; rintro e w2 ⟨rfl, ht, f2, ha, hr, hso⟩
      have HD := Lib.hid (hI.out.done ht ha hr hso)
      clear ht ha hr hso C w0
      go_wp2_with fail
      exact bodyPost_ret (results_none rfl _ _ _) rfl ⟨rfl, HD.out⟩
    · have g1 : ¬ (s : Int) ≤ 12 := by omega
      have e0 : ((l' : Int) == 0) = false := by rw [beq_eq_false_iff_ne]; omega
      obtain ⟨l2, el2⟩ : ∃ l2, l2 + 1 = l' := ⟨l' - 1, by omega⟩
      have HS := Lib.hid (show s ≤ 16 ∧ 12 < s ∧ a' + s = b' ∧ b' ≤ n ∧ n ≤ 1000 ∧ b' - a' ≤ N ∧ a ≤ a' ∧ b' ≤ b from ⟨by omega, by omega, u0, by omega, by omega, by omega, p1, p3⟩)
      have CB := Lib.hid (break_any (c := c) a' b' hI.out.ar (by omega) (by omega) (by omega) (by omega))
      have HL2 := Lib.hid (show l' ≤ 100 ∧ b' ≤ a' + 12 + l' ∧ l2 ≤ 100 ∧ b' ≤ a' + 12 + l2 from ⟨by omega, by omega, by omega, by omega⟩)
      have w1 := w_sub1 el2 (by omega)
      have w0 := w_subN u0 (by omega)
      clear hc p1 p2 p3 es u0 hs hg hl1 hl2 el2
      go_upto_if 35 with fail
      go_cut [3] from 19 to 132 (fun v3 wx => ∃ (l2 : Nat), v3 = .int .i64 l2 ∧ l2 ≤ 100 ∧ b' ≤ a' + 12 + l2 ∧ ∃ f2, Hid (PS w g o n a b f a' b' f2 wx))
      case first =>
        cases wb
        · go_wp2_with fail
          refine CB.out.mono ?_; rintro e w2 ⟨rfl, ht, f2, ha, hr⟩
          have HD := Lib.hid (hI.out.rl ht ha hr)
          clear ht ha hr CB
          go_wp2_with fail
          go_meet
          exact ⟨l2, rfl, HL2.out.2.2.1, HL2.out.2.2.2, f2, HD⟩
        · clear CB
          go_wp2_with fail
          go_meet
          exact ⟨l', rfl, HL2.out.1, HL2.out.2.1, fr, hI⟩
      case rest =>
        clear hI CB HL2 w0 w1 e0 g1
        obtain ⟨l2, rfl, hl3, hl4, f2, hI⟩ := hcut
        have HL2 := Lib.hid (And.intro hl3 hl4)
        have hsb := HS.out
        have C := Lib.hid (choose_any (c := c) a' b' hI.out.ar hsb.2.2.2.2.1 hsb.2.2.2.1 (by omega) (by omega))
        clear hl3 hl4 hsb
        go_wp2_with fail
        refine C.out.mono ?_; rintro e w3 ⟨⟨p, t, rfl, hp1, hp2, ht⟩, hb3⟩
        have hI3 := Lib.hid (hI.out.below hb3)
        have HP := Lib.hid (And.intro hp1 hp2)
        have e2 : (t == 2) = false := by rw [beq_eq_false_iff_ne]; exact ht
        clear hI hb3 hp1 hp2 ht C
        go_upto_region 15 with fail
        go_cut [68] from 19 to 132 (fun v wx => (∃ q : Bool, v = .bool q) ∧ Hid (PS w g o n a b f a' b' f2 wx))
        case first =>
          cases wb
          · go_wp2_with fail
            go_meet
            exact ⟨⟨false, rfl⟩, hI3⟩
          · cases wp
            · go_wp2_with fail
              go_meet
              exact ⟨⟨false, rfl⟩, hI3⟩
            · by_cases h1 : t = 1
              · have e1 : (t == 1) = true := by rw [h1]; rfl
                clear h1
                go_wp2_with fail
                go_meet
                exact ⟨⟨true, rfl⟩, hI3⟩
              · have e1 : (t == 1) = false := by rw [beq_eq_false_iff_ne]; exact h1
                clear h1
                go_wp2_with fail
                go_meet
                exact ⟨⟨false, rfl⟩, hI3⟩
        case rest =>
          clear hI3 e2
          obtain ⟨⟨q, rfl⟩, hI4⟩ := hcut
          go_upto_if 68 with fail
          go_cut [] from 19 to 132 (fun wx => Hid (PS w g o n a b f a' b' f2 wx))
          case first =>
            cases q
            · go_wp2_with fail
              go_meet
              exact hI4
            · have hsb := HS.out
              have C := Lib.hid (partial_any (c := c) a' b' hI4.out.ar hsb.2.2.2.1 hsb.2.2.2.2.1 (by omega) (by omega))
              clear hsb
              go_wp2_with fail
              refine C.out.mono ?_; rintro e w5 ⟨⟨r, rfl, hr⟩, hb5⟩
              have hI5 := Lib.hid (hI4.out.below hb5)
              cases r
              · clear hr hb5 C
                go_wp2_with fail
                go_meet
                exact hI5
              · have HD := Lib.hid (hI5.out.done (Turn.refl _ _) hI5.out.ar (Rl.refl _ _ _) (hr rfl))
                clear hr hb5 C
                go_wp2_with fail
                exact bodyPost_ret (results_none rfl _ _ _) rfl ⟨rfl, HD.out⟩
          case rest =>
            clear hI4
            have hI5 := hcut
            clear hcut
            go_upto_region 17 with fail
            go_cut [87] from 19 to 132 (fun v wx => ∃ q : Bool, v = .bool q ∧ Hid (PS w g o n a b f a' b' f2 wx ∧ If_ q (0 < a' ∧ ∀ z, z + 1 = a' → f2 p ≤ f2 z)))
            case first =>
              by_cases ha0 : a' = 0
              · subst ha0
                have HD := Lib.hid (show PS w g o n a b f 0 b' f2 (World.drew _) ∧ If_ false (0 < 0 ∧ ∀ z, z + 1 = 0 → f2 p ≤ f2 z) from ⟨hI5.out.drew, fun h => (by cases h)⟩)
                refine region_AU (Z := fun j => false) (S := fun _ => True) (by kernel_rfl) trivial (fun hHeld => ?_)
                refine AUS_take (by kernel_rfl) rfl (i := 0) (oi := _) (v := ?vwa0) rfl (by kernel_rfl) (by kernel_rfl) (by kernel_rfl) (fun _ _ _ h => h) (Or.inl ⟨by rfl, ?hza0⟩) hHeld ?rsta0
                case hza0 => (intro wS hSw; clear hSw; go_simp; try with_reducible rfl)
                simp only [Act.put, List.getElem_toArray, List.getElem_cons_zero, List.getElem_cons_succ, List.setIfInBounds_toArray, List.set_cons_zero, List.set_cons_succ]
                refine AUS_take (by kernel_rfl) rfl (i := 1) (oi := _) (v := ?vwa1) rfl (by kernel_rfl) (by kernel_rfl) (by kernel_rfl) (fun _ _ _ h => h) (Or.inl ⟨by rfl, ?hza1⟩) hHeld ?rsta1
                case hza1 => (intro wS hSw; clear hSw; go_simp; try with_reducible rfl)
                simp only [Act.put, List.getElem_toArray, List.getElem_cons_zero, List.getElem_cons_succ, List.setIfInBounds_toArray, List.set_cons_zero, List.set_cons_succ]
                refine AUS_take (by kernel_rfl) rfl (i := 2) (oi := _) (v := ?vwa2) rfl (by kernel_rfl) (by kernel_rfl) (by kernel_rfl) (fun _ _ _ h => h) (Or.inl ⟨by rfl, ?hza2⟩) hHeld ?rsta2
                case hza2 => (intro wS hSw; clear hSw; go_simp; try with_reducible rfl)
                simp only [Act.put, List.getElem_toArray, List.getElem_cons_zero, List.getElem_cons_succ, List.setIfInBounds_toArray, List.set_cons_zero, List.set_cons_succ]
                refine AUS_take (by kernel_rfl) rfl (i := 3) (oi := _) (v := undef) rfl (by kernel_rfl) (by kernel_rfl) (by kernel_rfl) (fun _ _ _ h => h) (Or.inr ⟨by rfl, rfl⟩) hHeld ?rsta3
                try simp only [Act.put, List.getElem_toArray, List.getElem_cons_zero, List.getElem_cons_succ, List.setIfInBounds_toArray, List.set_cons_zero, List.set_cons_succ]
                refine AUS_take (by kernel_rfl) rfl (i := 4) (oi := _) (v := undef) rfl (by kernel_rfl) (by kernel_rfl) (by kernel_rfl) (fun _ _ _ h => h) (Or.inr ⟨by rfl, rfl⟩) hHeld ?rsta4
                try simp only [Act.put, List.getElem_toArray, List.getElem_cons_zero, List.getElem_cons_succ, List.setIfInBounds_toArray, List.set_cons_zero, List.set_cons_succ]
                refine AUS_take (by kernel_rfl) rfl (i := 5) (oi := _) (v := undef) rfl (by kernel_rfl) (by kernel_rfl) (by kernel_rfl) (fun _ _ _ h => h) (Or.inr ⟨by rfl, rfl⟩) hHeld ?rsta5
                try simp only [Act.put, List.getElem_toArray, List.getElem_cons_zero, List.getElem_cons_succ, List.setIfInBounds_toArray, List.set_cons_zero, List.set_cons_succ]
                refine AUS_take (by kernel_rfl) rfl (i := 6) (oi := _) (v := undef) rfl (by kernel_rfl) (by kernel_rfl) (by kernel_rfl) (fun _ _ _ h => h) (Or.inr ⟨by rfl, rfl⟩) hHeld ?rsta6
                try simp only [Act.put, List.getElem_toArray, List.getElem_cons_zero, List.getElem_cons_succ, List.setIfInBounds_toArray, List.set_cons_zero, List.set_cons_succ]
                refine AUS_take (by kernel_rfl) rfl (i := 7) (oi := _) (v := undef) rfl (by kernel_rfl) (by kernel_rfl) (by kernel_rfl) (fun _ _ _ h => h) (Or.inr ⟨by rfl, rfl⟩) hHeld ?rsta7
                try simp only [Act.put, List.getElem_toArray, List.getElem_cons_zero, List.getElem_cons_succ, List.setIfInBounds_toArray, List.set_cons_zero, List.set_cons_succ]
                refine AUS_take (by kernel_rfl) rfl (i := 8) (oi := _) (v := undef) rfl (by kernel_rfl) (by kernel_rfl) (by kernel_rfl) (fun _ _ _ h => h) (Or.inr ⟨by rfl, rfl⟩) hHeld ?rsta8
                try simp only [Act.put, List.getElem_toArray, List.getElem_cons_zero, List.getElem_cons_succ, List.setIfInBounds_toArray, List.set_cons_zero, List.set_cons_succ]
                refine AUS_take (by kernel_rfl) rfl (i := 9) (oi := _) (v := undef) rfl (by kernel_rfl) (by kernel_rfl) (by kernel_rfl) (fun _ _ _ h => h) (Or.inr ⟨by rfl, rfl⟩) hHeld ?rsta9
                try simp only [Act.put, List.getElem_toArray, List.getElem_cons_zero, List.getElem_cons_succ, List.setIfInBounds_toArray, List.set_cons_zero, List.set_cons_succ]
                refine AUS_take (by kernel_rfl) rfl (i := 10) (oi := _) (v := undef) rfl (by kernel_rfl) (by kernel_rfl) (by kernel_rfl) (fun _ _ _ h => h) (Or.inr ⟨by rfl, rfl⟩) hHeld ?rsta10
                try simp only [Act.put, List.getElem_toArray, List.getElem_cons_zero, List.getElem_cons_succ, List.setIfInBounds_toArray, List.set_cons_zero, List.set_cons_succ]
                refine AUS_take (by kernel_rfl) rfl (i := 11) (oi := _) (v := undef) rfl (by kernel_rfl) (by kernel_rfl) (by kernel_rfl) (fun _ _ _ h => h) (Or.inr ⟨by rfl, rfl⟩) hHeld ?rsta11
                try simp only [Act.put, List.getElem_toArray, List.getElem_cons_zero, List.getElem_cons_succ, List.setIfInBounds_toArray, List.set_cons_zero, List.set_cons_succ]
                refine AUS_take (by kernel_rfl) rfl (i := 12) (oi := _) (v := undef) rfl (by kernel_rfl) (by kernel_rfl) (by kernel_rfl) (fun _ _ _ h => h) (Or.inr ⟨by rfl, rfl⟩) hHeld ?rsta12
                try simp only [Act.put, List.getElem_toArray, List.getElem_cons_zero, List.getElem_cons_succ, List.setIfInBounds_toArray, List.set_cons_zero, List.set_cons_succ]
                refine AUS_take (by kernel_rfl) rfl (i := 13) (oi := _) (v := undef) rfl (by kernel_rfl) (by kernel_rfl) (by kernel_rfl) (fun _ _ _ h => h) (Or.inr ⟨by rfl, rfl⟩) hHeld ?rsta13
                try simp only [Act.put, List.getElem_toArray, List.getElem_cons_zero, List.getElem_cons_succ, List.setIfInBounds_toArray, List.set_cons_zero, List.set_cons_succ]
                refine AUS_take (by kernel_rfl) rfl (i := 14) (oi := _) (v := ?vwa14) rfl (by kernel_rfl) (by kernel_rfl) (by kernel_rfl) (fun _ _ _ h => h) (Or.inl ⟨by rfl, ?hza14⟩) hHeld ?rsta14
                case hza14 => (intro wS hSw; clear hSw; go_simp; try with_reducible rfl)
                simp only [Act.put, List.getElem_toArray, List.getElem_cons_zero, List.getElem_cons_succ, List.setIfInBounds_toArray, List.set_cons_zero, List.set_cons_succ]
                refine AU_done (by kernel_rfl) ?_ _
                simp only [OnlyN]
                go_wp2_with fail
                go_meet
                exact ⟨false, rfl, HD⟩
              · have q1 : (a' : Int) > 0 := by omega
                have q1' : (0 : Int) < a' := q1
                have q5 : 0 < a' := by omega
                obtain ⟨z, ez⟩ : ∃ z, z + 1 = a' := ⟨a' - 1, by omega⟩
                have hsb := HS.out
                have hpb := HP.out
                have c0 := hI5.out.ar.cell (k := z) (by omega)
                have c1 := hI5.out.ar.cell (k := p) (by omega)
                have q2 : (z : Int) < n := by omega
                have q3 : (p : Int) < n := by omega
                have q4 : (0 : Int) ≤ z := by omega
                have CX := fun W => less_any (f2 z) (f2 p) W
                obtain ⟨X, eX⟩ : ∃ X, f2 z = X := ⟨_, rfl⟩
                obtain ⟨Y, eY⟩ : ∃ Y, f2 p = Y := ⟨_, rfl⟩
                rw [eX] at c0
                rw [eY] at c1
                rw [eX, eY] at CX
                have w1 := w_sub1 ez (by omega)
                by_cases hxy : X < Y
                · simp only [decide_eq_true hxy] at CX
                  have CX := Lib.hid CX
                  clear hxy eX eY hsb hpb ez
                  go_quiet (first | (go_at_call 62; with_reducible exact Calls.quiet_of_same (CX.out _)))
                  rename_i nq
                  have HD := Lib.hid (show PS w g o n a b f a' b' f2 (World.drewN _ nq) ∧ If_ false (0 < a' ∧ ∀ z, z + 1 = a' → f2 p ≤ f2 z) from ⟨hI5.out.drewN nq, fun h => (by cases h)⟩)
                  clear c0 c1
                  go_wp2_with fail
                  go_meet
                  exact ⟨false, rfl, HD⟩
                · simp only [decide_eq_false hxy] at CX
                  have CX := Lib.hid CX
                  have HQ := Lib.hid (show 0 < a' ∧ ∀ z, z + 1 = a' → f2 p ≤ f2 z from ⟨by omega, fun z' ez' => by
                    obtain rfl : z' = z := by omega
                    rw [eX, eY]; omega⟩)
                  clear hxy eX eY hsb hpb ez
                  go_quiet (first | (go_at_call 62; with_reducible exact Calls.quiet_of_same (CX.out _)))
                  rename_i nq
                  have HD := Lib.hid (show PS w g o n a b f a' b' f2 (World.drewN _ nq) ∧ If_ true (0 < a' ∧ ∀ z, z + 1 = a' → f2 p ≤ f2 z) from ⟨hI5.out.drewN nq, fun _ => HQ.out⟩)
                  clear c0 c1
                  go_wp2_with fail
                  go_meet
                  exact ⟨true, rfl, HD⟩
            case rest =>
              clear hI5
              obtain ⟨q, rfl, hI6⟩ := hcut
              have hsb := HS.out
              have hpb := HP.out
              cases q
              · have C := Lib.hid (part_any (c := c) a' b' p hI6.out.1.ar hsb.2.2.2.2.1 hsb.2.2.2.1 (by omega) ⟨hpb.1, hpb.2⟩)
                clear hsb hpb
                go_wp2_with fail
                refine C.out.mono ?_; rintro e w7 ⟨m, t2, rfl, f3, hpd⟩
                have HPD := Lib.hid hpd
                have m1 := hpd.b1
                have m2 := hpd.b2
                have hsb := HS.out
                have hll := HL2.out
                obtain ⟨ll, ell⟩ : ∃ ll, a' + ll = m := ⟨m - a', by omega⟩
                obtain ⟨rr, err⟩ : ∃ rr, m + rr = b' := ⟨b' - m, by omega⟩
                obtain ⟨th, eth⟩ : ∃ th, s / 8 = th := ⟨_, rfl⟩
                obtain ⟨m', em'⟩ : ∃ m', m + 1 = m' := ⟨_, rfl⟩
                have uth : th ≤ 100000 := by omega
                have um : m ≤ 100000 := by omega
                have ub : b' ≤ 100000 := by omega
                have um' : m' ≤ 100000 := by omega
                have CL := Lib.hid (HIH.out (m - a') (by omega) w7 g o n c f3 a' m l2 (Nat.le_refl _) hpd.r (by omega) (by omega) (by omega) (by omega) hll.1 (by omega) (hpd.lo_left hI6.out.1.lo))
                have CR := Lib.hid (HIH.out (b' - m') (by omega) w7 g o n c f3 m' b' l2 (Nat.le_refl _) hpd.r (by omega) (by omega) (by omega) (by omega) hll.1 (by omega) (by rw [← em']; exact hpd.lo_right))
                have HM := Lib.hid (show a' ≤ m ∧ m < b' ∧ m' = m + 1 ∧ l2 ≤ 100 ∧ b' ≤ a' + 12 + l2 from ⟨m1, m2, em'.symm, hll.1, hll.2⟩)
                by_cases hlr : ll < rr
                · have x1 : (ll : Int) < rr := by omega
                  have w1 := w_subN ell um
                  have w2 := w_subN err ub
                  have w3 : (s : Int).tdiv 8 = (th : Int) := t_quo (k := 8) eth
                  have w4 := w_id uth
                  have w5 := w_add1 em' um'
                  clear hpd m1 m2 hsb hll ell err eth em' uth um ub um' CR hlr C
                  go_wp2_with fail
                  refine CL.out.mono ?_; rintro e w8 ⟨rfl, ht, f4, ha, hr, hso⟩
                  have HD := Lib.hid (hI6.out.1.left HPD.out ht ha hr hso)
                  rw [← HM.out.2.2.1] at HD
                  clear ht ha hr hso CL
                  go_wp2_with fail
                  go_roundg (b' - m')
                  case rel => exact ⟨m', b', l2, _, t2, Nat.le_refl _, by first | rfl | simp, rfl, rfl, rfl, rfl, HM.out.2.2.2.1, by have := HM.out; omega, _, HD⟩
                  case measure => have := HM.out; have := HG.out; omega
                · have x1 : ¬ (ll : Int) < rr := by omega
                  have w1 := w_subN ell um
                  have w2 := w_subN err ub
                  have w3 : (s : Int).tdiv 8 = (th : Int) := t_quo (k := 8) eth
                  have w4 := w_id uth
                  have w5 := w_add1 em' um'
                  clear hpd m1 m2 hsb hll ell err eth em' uth um ub um' CL hlr C
                  go_wp2_with fail
                  refine CR.out.mono ?_; rintro e w8 ⟨rfl, ht, f4, ha, hr, hso⟩
                  have HD := Lib.hid (hI6.out.1.right HPD.out ht ha (by rw [← HM.out.2.2.1]; exact hr) (by rw [← HM.out.2.2.1]; exact hso))
                  clear ht ha hr hso CR
                  go_wp2_with fail
                  go_roundg (m - a')
                  case rel => exact ⟨a', m, l2, _, t2, Nat.le_refl _, rfl, rfl, rfl, rfl, rfl, HM.out.2.2.2.1, by have := HM.out; omega, _, HD⟩
                  case measure => have := HM.out; have := HG.out; omega
              · have C := Lib.hid (parteq_any (c := c) a' b' p hI6.out.1.ar hsb.2.2.2.2.1 hsb.2.2.2.1 (by omega) ⟨hpb.1, hpb.2⟩)
                have hq := hI6.out.2 rfl
                have HQ := Lib.hid hq
                clear hsb hpb hq
                go_wp2_with fail
                refine C.out.mono ?_; rintro e w7 ⟨m, rfl, j, hj, f3, hpt⟩
                have HD := Lib.hid (hI6.out.1.eq hpt hj HQ.out.1 HQ.out.2)
                have HM := Lib.hid (show a' < m ∧ m ≤ b' ∧ l2 ≤ 100 ∧ b' ≤ a' + 12 + l2 from ⟨by have := hpt.b1; omega, by have := hpt.b3; omega, HL2.out.1, HL2.out.2⟩)
                clear hj hpt C
                go_wp2_with fail
                go_roundg (b' - m)
                case rel => exact ⟨m, b', l2, wb, wp, Nat.le_refl _, rfl, rfl, rfl, rfl, rfl, HM.out.2.2.1, by have := HM.out; omega, _, HD⟩
                case measure => have := HM.out; have := HG.out; omega
theorem pdq_any (N : Nat) : PdqSaid N := Nat.strongRecOn N fun N IH => pdq_step N IH
end Go.Proofs.Ytodionedjokdmaa
