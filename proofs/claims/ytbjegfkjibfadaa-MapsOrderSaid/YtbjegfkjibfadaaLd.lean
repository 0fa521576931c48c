/- MapsOrder. -/
import Derived.Test.YtbjegfkjibfadaaMh
set_option linter.unusedVariables false
set_option linter.unusedSimpArgs false
namespace Go.Proofs.Ytbjegfkjibfadaa
open Go.RowKit
set_option linter.unusedVariables false
set_option linter.unusedSimpArgs false
/-- What stands when k maps have been added to both. -/
structure OS (w : World) (us : List Mp) (n u k : Nat) (va vb : Value) (la lb : List Mp) (wr : World) : Prop where
  b : Below w.heap.size w wr
  ra : RV (fun b => w.heap.size ≤ b) 26 5 encM wr va la
  rb : RV (fun b => w.heap.size ≤ b) 26 5 encM wr vb lb
  sa : Sp la
  sb : Sp lb
  pa : la.Perm ((List.range k).map (plc us))
  pb : lb.Perm ((List.range k).map fun i => plc us ((i + u) % n))
section
variable {w wr w' : World} {us la lb : List Mp} {n u k : Nat} {va vb : Value}
theorem OS.start (w : World) (us : List Mp) (n u : Nat) (h : Below w.heap.size w wr) : OS w us n u 0 (.slice none 0 0) (.slice none 0 0) [] [] wr :=
  ⟨h, RV.nil _ _, RV.nil _ _, Sp.nil, Sp.nil, by simp, by simp⟩
theorem OS.below (h : OS w us n u k va vb la lb wr) (hb : Below wr.heap.size wr w') : OS w us n u k va vb la lb w' :=
  ⟨below_up h.b hb, h.ra.below hb, h.rb.below hb, h.sa, h.sb, h.pa, h.pb⟩
theorem OS.next {va' vb' : Value} {la' lb' : List Mp} (h : OS w us n u k va vb la lb wr) (hb : Below wr.heap.size wr w') (ra : RV (fun b => wr.heap.size ≤ b) 26 5 encM w' va' la') (rb : RV (fun b => wr.heap.size ≤ b) 26 5 encM w' vb' lb')
    (sa : Sp la') (sb : Sp lb') (pa : la'.Perm (plc us k :: la)) (pb : lb'.Perm (plc us ((k + u) % n) :: lb)) : OS w us n u (k + 1) va' vb' la' lb' w' :=
  ⟨below_up h.b hb, ra.mono fun b hb => Nat.le_trans h.b.size hb, rb.mono fun b hb => Nat.le_trans h.b.size hb, sa, sb, snoc_perm h.pa rfl pa, snoc_perm (f := fun i => plc us ((i + u) % n)) h.pb rfl pb⟩
theorem OS.la_len (h : OS w us n u k va vb la lb wr) : la.length = k := by rw [h.pa.length_eq]; simp
theorem OS.lb_len (h : OS w us n u k va vb la lb wr) : lb.length = k := by rw [h.pb.length_eq]; simp
end
set_option maxHeartbeats 4000000 in
set_option maxRecDepth 100000 in
theorem order_all (A : Option Addr) (n c : Nat) (us : List Mp) (x : Int) (w : World) (hl : us.length = n) (hc : n ≤ c) (hcm : c ≤ maxLen) (hr : LV 5 encM w A us) :
    Calls Try.prog 6 #[.slice A n c, .int .i64 x] w fun e w' => e = .returned (.bool true) ∧ Below w.heap.size w w' := by
  have CF := Lib.hid (fit_any w)
  have HL := Lib.hid hl
  have HR := Lib.hid hr
  clear hl hr
  go_enter Try.func6, Try.ntmps6
  go_wp2_with fail
  refine CF.out.mono ?_; rintro e w1 ⟨rfl, hb1⟩
  have HB1 := Lib.hid hb1
  clear CF hb1
  by_cases hbig : n > 16
  · have g1 : (n : Int) > 16 := by omega
    have g2 : (16 : Int) < n := g1
    clear hbig
    go_wp2_with fail
    go_ret
    exact ⟨rfl, HB1.out⟩
  · have g1 : ¬ (n : Int) > 16 := by omega
    have g2 : ¬ (16 : Int) < n := g1
    by_cases h0 : n = 0
    · subst h0
      clear hbig
      go_wp2_with fail
      go_ret
      exact ⟨rfl, HB1.out⟩
    · have g3 : ((n : Int) == 0) = false := by rw [beq_eq_false_iff_ne]; omega
      obtain ⟨t, y, u, e1, e2, e3, hu⟩ := place_of x n (by omega) (by omega)
      have e2' : IntKind.i64.wrap (t + n) = y := by rw [← e2, IntKind.wrap_i64]; unfold RowKit.wrap64; omega
      have HU := Lib.hid (And.intro hu hbig)
      have HX := Lib.hid (OS.start (wr := w1) w us n u HB1.out)
      clear hbig hu HB1
      go_wp2_with fail
      clear e1 e2 e2' e3
      go_loopg [5, 6, 36] n (fun gh va vb i wr => ∃ k : Nat, k ≤ n ∧ gh = n - k ∧ i = .int .i64 k ∧ Hid (∃ la lb, OS w us n u k va vb la lb wr))
      case atStart => exact ⟨0, by omega, by omega, rfl, Lib.hid ⟨_, _, HX.out⟩⟩
      case round =>
        clear HX
        obtain ⟨k, hk, hg, rfl, hI⟩ := hrel
        by_cases hlt : k < n
        · obtain ⟨la, lb, hos⟩ := hI.out
          obtain ⟨m, hy⟩ : ∃ m, us[k]? = some m := ⟨_, List.getElem?_eq_getElem (by rw [HL.out]; exact hlt)⟩
          obtain ⟨Aa, ca, rfl, hca, hcma, hra⟩ := hos.ra.open_ hos.la_len
          obtain ⟨Ab, cb, rfl, hcb, hcmb, hrb⟩ := hos.rb.open_ hos.lb_len
          obtain ⟨B, off, rfl, _, c0, c1, c2, c3, c4⟩ := (HR.out.below hos.b).five hy
          have HA := Lib.hid (And.intro hos (And.intro hca (And.intro hcma (And.intro hra (And.intro hcb (And.intro hcmb hrb))))))
          have hpl := plc_at hy
          obtain ⟨a, s, f, nn, wt⟩ := m
          simp only [] at c0 c1 c2 c3 c4
          have hn := HU.out.2
          obtain ⟨x1, ex1⟩ : ∃ x1, bits .and .i64 a 15 = x1 := ⟨_, rfl⟩
          obtain ⟨y1, ey1⟩ : ∃ y1, 40 * (k : Int) = y1 := ⟨_, rfl⟩
          obtain ⟨z1, ez1⟩ : ∃ z1, x1 + y1 = z1 := ⟨_, rfl⟩
          have hx1 := and4 a
          rw [ex1] at hx1
          have i1 : IntKind.i64.wrap (40 * (k : Int)) = y1 := by rw [IntKind.wrap_i64]; omega
          have i2 : IntKind.i64.wrap (x1 + y1) = z1 := by rw [IntKind.wrap_i64]; omega
          have HP : Hid (plc us k = ⟨z1, s, f, nn, wt⟩) := Lib.hid (by rw [hpl]; unfold plM; dsimp only; rw [ex1, ey1, ez1])
          have l1 : (k : Int) < n := by omega
          have i3 : IntKind.i64.wrap ((k : Int) + 1) = (k : Int) + 1 := by rw [IntKind.wrap_i64]; omega
          have HY := Lib.hid hy
          obtain ⟨ku, eku⟩ : ∃ ku, (k : Int) + (u : Int) = ku := ⟨_, rfl⟩
          obtain ⟨k2, ek2⟩ : ∃ k2, (k + u) % n = k2 := ⟨_, rfl⟩
          have hu := HU.out.1
          have hn2 := HU.out.2
          have i4 : IntKind.i64.wrap ((k : Int) + (u : Int)) = ku := by rw [IntKind.wrap_i64]; omega
          have i5 : ku.tmod (n : Int) = (k2 : Int) := by rw [← eku, ← ek2, Int.tmod_eq_emod_of_nonneg (by omega), ← Int.natCast_add, ← Int.natCast_emod]
          have hk2 : k2 < n := by rw [← ek2]; exact Nat.mod_lt _ (by omega)
          have l2 : (k2 : Int) < n := by omega
          obtain ⟨m2, hy2⟩ : ∃ m, us[k2]? = some m := ⟨_, List.getElem?_eq_getElem (by rw [HL.out]; exact hk2)⟩
          have hpl2 := plc_at hy2
          have HY2 := Lib.hid hy2
          obtain ⟨a2, s2, f2, n2, wt2⟩ := m2
          obtain ⟨x2, ex2⟩ : ∃ x2, bits .and .i64 a2 15 = x2 := ⟨_, rfl⟩
          obtain ⟨y2, ey2⟩ : ∃ y2, 40 * (k2 : Int) = y2 := ⟨_, rfl⟩
          obtain ⟨z2, ez2⟩ : ∃ z2, x2 + y2 = z2 := ⟨_, rfl⟩
          have hx2 := and4 a2
          rw [ex2] at hx2
          have i6 : IntKind.i64.wrap (40 * (k2 : Int)) = y2 := by rw [IntKind.wrap_i64]; omega
          have i7 : IntKind.i64.wrap (x2 + y2) = z2 := by rw [IntKind.wrap_i64]; omega
          have HP2 : Hid (plc us ((k + u) % n) = ⟨z2, s2, f2, n2, wt2⟩) := Lib.hid (by rw [ek2, hpl2]; unfold plM; dsimp only; rw [ex2, ey2, ez2])
          have b1 := below_alloc1 wr (blkM ⟨z1, s, f, nn, wt⟩)
          have B1 := Lib.hid (And.intro b1 (Five.row (t := 26) (heap_alloc_new wr (blkM ⟨z1, s, f, nn, wt⟩))))
          have CA := Lib.hid (add_any (A := Aa) (c := ca) ⟨z1, s, f, nn, wt⟩ hos.la_len (by omega) hca hcma (hra.below b1) hos.sa)
          clear hos hca hcma hra hcb hcmb hrb hpl hn hx1 ey1 ez1 hy hI hpl2 hx2 ey2 ez2 eku hu hn2 hk2 hy2 b1
          go_wp2_with fail
          refine CA.out.mono ?_; rintro e w2 ⟨h2, hb2⟩
          have HB2 := Lib.hid (below_up B1.out.1 hb2)
          have HF2 := Lib.hid (B1.out.2.below hb2)
          obtain ⟨B', off', e1', _, d0, d1, d2, d3, d4⟩ := (HR.out.below (below_up HA.out.1.b HB2.out)).five HY2.out
          injection e1' with e1'
          injection e1' with e1' e2'
          subst e1' e2'
          simp only [] at d0 d1 d2 d3 d4
          have b3 := below_alloc1 w2 (blkM ⟨z2, s2, f2, n2, wt2⟩)
          have B3 := Lib.hid (And.intro b3 (Five.row (t := 26) (heap_alloc_new w2 (blkM ⟨z2, s2, f2, n2, wt2⟩))))
          have CB := Lib.hid (add_any (A := Ab) (c := cb) ⟨z2, s2, f2, n2, wt2⟩ HA.out.1.lb_len (by have := HU.out.2; omega) HA.out.2.2.2.2.1 HA.out.2.2.2.2.2.1 (HA.out.2.2.2.2.2.2.below (below_up HB2.out b3)) HA.out.1.sb)
          have NA : Hid (Mp.ok ⟨z1, s, f, nn, wt⟩ = true → ovl la ⟨z1, s, f, nn, wt⟩ = false) := Lib.hid (fun h => by
            rw [← HP.out] at h ⊢
            exact ovl_plc (g := fun i => i) HA.out.1.sa HA.out.1.pa (fun i hi => by omega) h)
          have NB : Hid (Mp.ok ⟨z2, s2, f2, n2, wt2⟩ = true → ovl lb ⟨z2, s2, f2, n2, wt2⟩ = false) := Lib.hid (fun h => by
            rw [← HP2.out] at h ⊢
            exact ovl_plc (g := fun i => (i + u) % n) HA.out.1.sb HA.out.1.pb (fun i hi => rot_ne hi hlt) h)
          have NL : Hid (la.length < 16 ∧ lb.length < 16) := Lib.hid (by have := HA.out.1.la_len; have := HA.out.1.lb_len; have := HU.out.2; omega)
          clear hb2 CA B1 b3 c0 c1 c2 c3 c4
          rcases h2 with ⟨hbad, rfl⟩ | ⟨_, _, h16, _⟩ | ⟨hok, _, _, va', la', rfl, hva, hsa, hpa⟩
          · have hno : okB z1 s f nn = false := by
              rcases hbad with h | h
              · exact h
              · cases hq : okB z1 s f nn with
                | false => rfl
                | true => rw [NA.out hq] at h; cases h
            have CX := fun W => fits_any z1 s f nn wt W
            rw [hno] at CX
            have CX := Lib.hid CX
            clear hbad hno
            go_wp2_with fail
            refine CB.out.mono ?_; rintro e w4 ⟨h4, hb4⟩
            have HB4 := Lib.hid (below_up HB2.out (below_up B3.out.1 hb4))
            obtain ⟨z0', z1', z2', z3', z4'⟩ := (HF2.out.below B3.out.1).below hb4
            simp only [] at z0' z1' z2' z3' z4'
            clear hb4 CB B3 d0 d1 d2 d3 d4
            rcases h4 with ⟨_, rfl⟩ | ⟨_, _, _, rfl⟩ | ⟨_, _, _, vb', lb', rfl, _, _, _⟩
            all_goals
              go_wp2_with fail
              refine (CX.out _).mono ?_; rintro e w5 ⟨rfl, hb5⟩
              have HB5 := Lib.hid (below_up HB4.out hb5)
              clear hb5
              go_wp2_with fail
              go_ret
              exact ⟨rfl, below_up HA.out.1.b HB5.out⟩
          · exact absurd h16 (by have := NL.out.1; omega)
          · have HV := Lib.hid (And.intro hva (And.intro hsa hpa))
            clear hva hsa hpa hok
            go_wp2_with fail
            refine CB.out.mono ?_; rintro e w4 ⟨h4, hb4⟩
            have HB42 := Lib.hid (below_up B3.out.1 hb4)
            have HB4 := Lib.hid (below_up HB2.out HB42.out)
            obtain ⟨z0', z1', z2', z3', z4'⟩ := B3.out.2.below hb4
            simp only [] at z0' z1' z2' z3' z4'
            clear CB d0 d1 d2 d3 d4
            rcases h4 with ⟨hbad, rfl⟩ | ⟨_, _, h16, _⟩ | ⟨_, _, _, vb', lb', rfl, hvb, hsb, hpb⟩
            · have hno : okB z2 s2 f2 n2 = false := by
                rcases hbad with h | h
                · exact h
                · cases hq : okB z2 s2 f2 n2 with
                  | false => rfl
                  | true => rw [NB.out hq] at h; cases h
              have CX := fun W => fits_any z2 s2 f2 n2 wt2 W
              rw [hno] at CX
              have CX := Lib.hid CX
              clear hbad hno hb4
              go_wp2_with fail
              refine (CX.out _).mono ?_; rintro e w5 ⟨rfl, hb5⟩
              have HB5 := Lib.hid (below_up HB4.out hb5)
              clear hb5
              go_wp2_with fail
              go_ret
              exact ⟨rfl, below_up HA.out.1.b HB5.out⟩
            · exact absurd h16 (by have := NL.out.2; omega)
            · have HN : Hid (OS w us n u (k + 1) va' vb' la' lb' w4) := Lib.hid (HA.out.1.next HB4.out ((HV.out.1.mono fun b hb => Nat.le_trans (below_alloc1 wr _).size hb).below HB42.out) (hvb.mono fun b hb => by have h1 := HB2.out.size; have h2 := (below_alloc1 w2 (blkM ⟨z2, s2, f2, n2, wt2⟩)).size; exact Nat.le_trans h1 (Nat.le_trans h2 hb)) HV.out.2.1 hsb (by rw [HP.out]; exact HV.out.2.2) (by rw [HP2.out]; exact hpb))
              clear hvb hsb hpb hb4 z0' z1' z2' z3' z4'
              go_wp2_with fail
              go_roundg (n - (k + 1))
              case rel => exact ⟨k + 1, by omega, rfl, by simp, Lib.hid ⟨_, _, HN.out⟩⟩
              case measure => first | omega | (simp; omega)
        · have hkn : k = n := by omega
          subst hkn
          obtain ⟨la, lb, hos⟩ := hI.out
          obtain rfl := order_eq HU.out.1 hos.sa hos.sb hos.pa hos.pb
          obtain ⟨Aa, ca, rfl, hca, hcma, hra⟩ := hos.ra.open_ hos.la_len
          obtain ⟨Ab, cb, rfl, hcb, hcmb, hrb⟩ := hos.rb.open_ hos.lb_len
          have CR := Lib.hid (fun W (h : Below wr.heap.size wr W) => right_any (c := ca) hos.la_len (by have := HU.out.2; omega) (hra.below h))
          have HQ : Hid (rightB la = true) := Lib.hid (rightB_iff.2 ⟨by rw [hos.la_len]; have := HU.out.2; omega, hos.sa⟩)
          rw [HQ.out] at CR
          have HA := Lib.hid (And.intro hos.b (And.intro hra (And.intro hrb hos.la_len)))
          clear hlt hk hg hos hca hcma hra hcb hcmb hrb HQ hI
          go_wp2_with fail
          go_loopg [109] k (fun gh i wx => ∃ j : Nat, j ≤ k ∧ gh = k - j ∧ i = .int .i64 j ∧ Hid (Below wr.heap.size wr wx))
          case atStart => exact ⟨0, by omega, by omega, rfl, Lib.hid (Below.refl _ _)⟩
          case round =>
            rename_i wx
            obtain ⟨j, hj, hg, rfl, hI⟩ := hrel
            by_cases hlt : j < k
            · obtain ⟨p, hy⟩ : ∃ p, la[j]? = some p := ⟨_, List.getElem?_eq_getElem (by rw [HA.out.2.2.2]; exact hlt)⟩
              obtain ⟨B1, o1, rfl, _, c0, c1, c2, c3, c4⟩ := (HA.out.2.1.below hI.out).five hy
              obtain ⟨B2, o2, rfl, _, d0, d1, d2, d3, d4⟩ := (HA.out.2.2.1.below hI.out).five hy
              have qG := guard_map
              have qE := fun W => equal_map p p W
              simp only [eqM_self] at qE
              obtain ⟨pa, ps, pf, pn, pw⟩ := p
              simp only [] at c0 c1 c2 c3 c4 d0 d1 d2 d3 d4 qE
              have hn := HU.out.2
              have l1 : (j : Int) < k := by omega
              have i1 : IntKind.i64.wrap ((j : Int) + 1) = (j : Int) + 1 := by rw [IntKind.wrap_i64]; omega
              clear hy hn
              go_upto_region 26 with fail
              go_quiet (fail)
              rename_i nq
              have HI := Lib.hid (hI.out.trans ((below_dN _ nq).mono hI.out.size))
              clear c0 c1 c2 c3 c4 d0 d1 d2 d3 d4
              go_wp2_with fail
              go_roundg (k - (j + 1))
              case rel => exact ⟨j + 1, by omega, rfl, by simp, HI⟩
              case measure => first | omega | (simp; omega)
            · obtain rfl : j = k := by omega
              clear hlt
              go_wp2_with fail
              refine (CR.out _ hI.out).mono ?_; rintro e w5 ⟨rfl, hb5⟩
              have HB5 := Lib.hid (below_up (below_up HA.out.1 hI.out) hb5)
              clear hb5
              go_wp2_with fail
              go_ret
              exact ⟨rfl, HB5.out⟩
end Go.Proofs.Ytbjegfkjibfadaa
